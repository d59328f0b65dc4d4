/- Contracts of layer 1: a rune taken, the end, the deferred closure. -/
import Derived.Test.YtabpkdblcinhjaaDoorA4
import Derived.Defers
import Derived.Recover
namespace Go.Proofs.YtabpkdblcinhjaaDoor
open Go Go.RowKit

set_option maxHeartbeats 400000 in
theorem dot_ok (B : Nat) (s : Rd) (at_ : Int) (w : World) (ho : s.Ok) (hk : ¬ s.k = 3) (hd : 0 < s.d) (h : RS w B s at_) :
    Calls Tryd.prog 64 #[.pointer (some ⟨B, 0, none⟩)] w fun e w' => e = .returned (.tuple #[]) ∧ RS w' B s.put at_ ∧ w.grownBy w' (some B) := by
  have hc := keep_any B s at_ w ho hd h
  have HC := Lib.hid hc
  have c4 := Blk.cell h 4
  have hkb : (s.k == 3) = false := by simpa using hk
  clear h hc ho hk hd
  go_enter Tryd.func64, Tryd.ntmps64
  go_wp2_with fail
  refine HC.out.mono ?_
  rintro e w1 ⟨rfl, h1, h2⟩
  have H1 := Lib.hid h1
  have H2 := Lib.hid h2
  clear h1 h2
  go_wp2
  go_end0
  exact ⟨rfl, H1, H2⟩

set_option maxHeartbeats 400000 in
theorem dot_no (B : Nat) (s : Rd) (at_ : Int) (w : World) (hk : s.k = 3 ∨ s.d = 0) (h : RS w B s at_) :
    Calls Tryd.prog 64 #[.pointer (some ⟨B, 0, none⟩)] w fun e w' => e = gaveUp at_ ∧ w.grownBy w' (some B) := by
  have hg := giveUp_any B _ _ _ _ _ _ _ _ w h
  have HG := Lib.hid hg
  have c4 := Blk.cell h 4
  by_cases h3 : s.k = 3
  · have hkb : (s.k == 3) = true := by simpa using h3
    clear h hg hk h3
    go_enter Tryd.func64, Tryd.ntmps64
    go_wp2_with fail
    refine HG.out.mono ?_
    rintro e w1 ⟨rfl, rfl⟩
    go_wp2
    exact ⟨rfl, rfl, grown_refl _ _⟩
  · have hkb : (s.k == 3) = false := by simpa using h3
    have hd : s.d = 0 := hk.resolve_left h3
    have hc := keep_no B s.q0 s.q1 s.q2 s.q3 s.k s.p at_ w (by unfold RS at h; rw [hd] at h; exact h)
    have HC := Lib.hid hc
    clear h hg hk h3 hd hc
    go_enter Tryd.func64, Tryd.ntmps64
    go_wp2_with fail
    refine HC.out.mono ?_
    rintro e w1 ⟨rfl, rfl⟩
    go_wp2
    exact ⟨rfl, rfl, grown_refl _ _⟩

set_option maxHeartbeats 400000 in
theorem end_ok (B : Nat) (s : Rd) (at_ : Int) (w : World) (ho : s.Ok) (hk : s.k = 3) (hd : 0 < s.d) (h : RS w B s at_) :
    Calls Tryd.prog 54 #[.pointer (some ⟨B, 0, none⟩)] w fun e w' => e = .returned (.tuple #[]) ∧ RS w' B s.put at_ ∧ w.grownBy w' (some B) := by
  have hc := keep_any B s at_ w ho hd h
  have HC := Lib.hid hc
  have c4 := Blk.cell h 4
  have hkb : ¬ s.k < 3 := by omega
  clear h hc ho hk hd
  go_enter Tryd.func54, Tryd.ntmps54
  go_wp2_with fail
  refine HC.out.mono ?_
  rintro e w1 ⟨rfl, h1, h2⟩
  have H1 := Lib.hid h1
  have H2 := Lib.hid h2
  clear h1 h2
  go_wp2
  go_end0
  exact ⟨rfl, H1, H2⟩

set_option maxHeartbeats 400000 in
theorem end_no (B : Nat) (s : Rd) (at_ : Int) (w : World) (hk : s.k < 3 ∨ s.d = 0) (h : RS w B s at_) :
    Calls Tryd.prog 54 #[.pointer (some ⟨B, 0, none⟩)] w fun e w' => e = gaveUp at_ ∧ w.grownBy w' (some B) := by
  have hg := giveUp_any B _ _ _ _ _ _ _ _ w h
  have HG := Lib.hid hg
  have c4 := Blk.cell h 4
  by_cases h3 : s.k < 3
  · clear h hg hk
    go_enter Tryd.func54, Tryd.ntmps54
    go_wp2_with fail
    refine HG.out.mono ?_
    rintro e w1 ⟨rfl, rfl⟩
    go_wp2
    exact ⟨rfl, rfl, grown_refl _ _⟩
  · have hd : s.d = 0 := hk.resolve_left h3
    have hc := keep_no B s.q0 s.q1 s.q2 s.q3 s.k s.p at_ w (by unfold RS at h; rw [hd] at h; exact h)
    have HC := Lib.hid hc
    clear h hg hk hd hc
    go_enter Tryd.func54, Tryd.ntmps54
    go_wp2_with fail
    refine HC.out.mono ?_
    rintro e w1 ⟨rfl, rfl⟩
    go_wp2
    exact ⟨rfl, rfl, grown_refl _ _⟩

set_option maxHeartbeats 800000 in
theorem take_ok (B : Nat) (s s' : Rd) (at_ c : Int) (w : World) (ho : s.Ok) (hc0 : 0 ≤ c) (hc1 : c ≤ 2147483647) (hs : s.step c = some s') (h : RS w B s at_) :
    Calls Tryd.prog 53 #[.pointer (some ⟨B, 0, none⟩), .int .i32 c] w fun e w' => e = .returned (.tuple #[]) ∧ RS w' B s' at_ ∧ w.grownBy w' (some B) := by
  unfold Rd.step at hs
  by_cases hdig : 48 ≤ c ∧ c ≤ 57
  · rw [if_pos hdig] at hs
    by_cases hno : s.noDigit c
    · rw [if_pos hno] at hs; cases hs
    · rw [if_neg hno] at hs
      cases hs
      have hd := digit_ok B s.q0 s.q1 s.q2 s.q3 s.k s.p s.d at_ (c - 48) w ⟨ho.p0, ho.p1⟩ ⟨ho.d0, ho.d3⟩ (by omega) (fun x => hno (.inl x)) (by have : ¬ 255 < 10 * s.p + (c - 48) := fun x => hno (.inr x); omega) h
      have HD := Lib.hid hd
      obtain ⟨h48, h57⟩ := hdig
      clear h hd ho hno
      go_enter Tryd.func53, Tryd.ntmps53
      go_wp2_with fail
      refine HD.out.mono ?_
      rintro e w1 ⟨rfl, h1, h2⟩
      have H1 := Lib.hid h1
      have H2 := Lib.hid h2
      clear h1 h2
      go_wp2
      go_end0
      exact ⟨rfl, H1, H2⟩
  · rw [if_neg hdig] at hs
    by_cases hdot : c = 46
    · subst hdot
      rw [if_pos rfl] at hs
      by_cases hno : s.k = 3 ∨ s.d = 0
      · rw [if_pos hno] at hs; cases hs
      · rw [if_neg hno] at hs
        cases hs
        have hd := dot_ok B s at_ w ho (fun x => hno (.inl x)) (by have h0 := ho.d0; have h1 : ¬ s.d = 0 := fun x => hno (.inr x); omega) h
        have HD := Lib.hid hd
        clear h hd ho hno hdig
        go_enter Tryd.func53, Tryd.ntmps53
        go_wp2_with fail
        refine HD.out.mono ?_
        rintro e w1 ⟨rfl, h1, h2⟩
        have H1 := Lib.hid h1
        have H2 := Lib.hid h2
        clear h1 h2
        go_wp2
        go_end0
        exact ⟨rfl, H1, H2⟩
    · rw [if_neg hdot] at hs; cases hs

set_option maxHeartbeats 800000 in
theorem take_other (B : Nat) (s : Rd) (at_ c : Int) (w : World) (hc : c < 48 ∨ 57 < c) (hd : ¬ c = 46) (h : RS w B s at_) :
    Calls Tryd.prog 53 #[.pointer (some ⟨B, 0, none⟩), .int .i32 c] w fun e w' => e = gaveUp at_ ∧ w.grownBy w' (some B) := by
  have hg := giveUp_any B _ _ _ _ _ _ _ _ w h
  have HG := Lib.hid hg
  have hdb : (c == 46) = false := by simpa using hd
  clear hg h hd
  rcases hc with hc | hc
  · go_enter Tryd.func53, Tryd.ntmps53
    go_wp2_with fail
    refine HG.out.mono ?_
    rintro e w1 ⟨rfl, rfl⟩
    go_wp2
    exact ⟨rfl, rfl, grown_refl _ _⟩
  · have h48 : 48 ≤ c := by omega
    go_enter Tryd.func53, Tryd.ntmps53
    go_wp2_with fail
    refine HG.out.mono ?_
    rintro e w1 ⟨rfl, rfl⟩
    go_wp2
    exact ⟨rfl, rfl, grown_refl _ _⟩

set_option maxHeartbeats 800000 in
theorem take_no (B : Nat) (s : Rd) (at_ c : Int) (w : World) (ho : s.Ok) (hc0 : 0 ≤ c) (hc1 : c ≤ 2147483647) (hs : s.step c = none) (h : RS w B s at_) :
    Calls Tryd.prog 53 #[.pointer (some ⟨B, 0, none⟩), .int .i32 c] w fun e w' => e = gaveUp at_ ∧ w.grownBy w' (some B) := by
  unfold Rd.step at hs
  by_cases hdig : 48 ≤ c ∧ c ≤ 57
  · rw [if_pos hdig] at hs
    by_cases hno : s.noDigit c
    · have hd := digit_no B s.q0 s.q1 s.q2 s.q3 s.k s.p s.d at_ (c - 48) w ⟨ho.p0, ho.p1⟩ ⟨ho.d0, ho.d3⟩ (by omega) hno h
      have HD := Lib.hid hd
      obtain ⟨h48, h57⟩ := hdig
      clear h hd ho hno hs
      go_enter Tryd.func53, Tryd.ntmps53
      go_wp2_with fail
      refine HD.out.mono ?_
      rintro e w1 ⟨rfl, h2⟩
      have H2 := Lib.hid h2
      clear h2
      go_wp2
      exact ⟨rfl, rfl, H2⟩
    · rw [if_neg hno] at hs; cases hs
  · rw [if_neg hdig] at hs
    by_cases hdot : c = 46
    · subst hdot
      rw [if_pos rfl] at hs
      by_cases hno : s.k = 3 ∨ s.d = 0
      · have hd := dot_no B s at_ w hno h
        have HD := Lib.hid hd
        clear h hd ho hno hdig hs
        go_enter Tryd.func53, Tryd.ntmps53
        go_wp2_with fail
        refine HD.out.mono ?_
        rintro e w1 ⟨rfl, h2⟩
        have H2 := Lib.hid h2
        clear h2
        go_wp2
        exact ⟨rfl, rfl, H2⟩
      · rw [if_neg hno] at hs; cases hs
    · exact take_other B s at_ c w (by omega) hdot h

theorem assertWrong (n : Int) (w : World) : (Instr.typeAssert (.iface 104 (.int .i64 n)) 20 104 false).run Tryd.prog w = .ok (.int .i64 n) w := by kernel_rfl

set_option maxRecDepth 100000 in
set_option maxHeartbeats 400000 in
theorem catch_panicking (p3 p4 : Nat) (x y at_ : Int) (w : World) (hne : p3 ≠ p4) (hc3 : w.cell? ⟨p3, 0, none⟩ = some (.int .i64 x)) (hz3 : w.frozen? ⟨p3, 0, none⟩ = false) (hc4 : w.cell? ⟨p4, 0, none⟩ = some (.int .i64 y)) (hz4 : w.frozen? ⟨p4, 0, none⟩ = false) :
    CallsD Tryd.prog 52 #[.pointer (some ⟨p3, 0, none⟩), .pointer (some ⟨p4, 0, none⟩)] (.panicking [{ v := .iface 104 (.int .i64 at_), recovered := false }]) w fun e u' w' =>
      e = .returned (.tuple #[]) ∧ u' = .panicking [{ v := .iface 104 (.int .i64 at_), recovered := true }] ∧ w' = (w.setCell ⟨p3, 0, none⟩ (.int .i64 at_)).setCell ⟨p4, 0, none⟩ (.int .i64 110) := by
  have hta := assertWrong at_
  refine callsD_of_wpS Tryd.func52 rfl fun c₀ cs hu => ?_
  apply wpS_seq
  apply wpS_region
  simp [wpOpsS, go_sem, recoverD, hu, Tryd.ntmps52, Exit.thenS]
  refine wpS_of_wp ?_
  change Code.wp _ _ _ { tmps := #[.pointer (some ⟨p3, 0, none⟩), .pointer (some ⟨p4, 0, none⟩), .iface 104 (.int .i64 at_), .iface 104 (.int .i64 at_), undef, undef, undef, undef], defers := [] } _
  go_wp2
  cases c₀
  simp_all [bodyPostS, results, Tryd.results52]

set_option maxHeartbeats 400000 in
theorem catch_idle (p3 p4 : Nat) (w : World) :
    CallsD Tryd.prog 52 #[.pointer (some ⟨p3, 0, none⟩), .pointer (some ⟨p4, 0, none⟩)] .returning w fun e u' w' => e = .returned (.tuple #[]) ∧ u' = .returning ∧ w' = w := by
  refine callsD_of_wpS Tryd.func52 rfl fun c₀ cs hu => ?_
  apply wpS_seq
  apply wpS_region
  simp [wpOpsS, go_sem, recoverD, hu, Tryd.ntmps52, Exit.thenS]
  refine wpS_of_wp ?_
  change Code.wp _ _ _ { tmps := #[.pointer (some ⟨p3, 0, none⟩), .pointer (some ⟨p4, 0, none⟩), .nilIface, .nilIface, undef, undef, undef, undef], defers := [] } _
  go_wp2
  cases c₀
  simp_all [bodyPostS, results, Tryd.results52]
end Go.Proofs.YtabpkdblcinhjaaDoor
