/- Contracts of layer 2's program: the reader's methods. -/
import Derived.Test.YtabpkdblcinhjaaDoorK1
import Derived.Test.YtabpkdblcinhjaaDoorH3
namespace Go.Proofs.YtabpkdblcinhjaaDoor
open Go Go.RowKit Go.Sort
attribute [local go_sem] Oper.semAt_some

/-- A reader of a prefix's text, in memory. -/
def rdObj (a n : Int) (s : Bool) (d : Int) : Array Value := #[.int .u32 a, .int .i64 n, .bool s, .int .i64 d]
def RP (w : World) (g : Nat) (a n : Int) (s : Bool) (d : Int) : Prop := Blk w g 53 (rdObj a n s d)

set_option maxRecDepth 100000 in
set_option maxHeartbeats 1600000 in
theorem digit2_any (g : Nat) (a n : Int) (d c : Int) (hc0 : 0 ≤ c) (hc1 : c ≤ 2147483647) (ho : OkLen n d) (w : World) (h : RP w g a n true d) :
    Calls Tryd.prog 32 #[.pointer (some ⟨g, 0, none⟩), .int .i32 c] w fun e w' => w.grownBy w' (some g) ∧ match stepD n d c with
      | none => e = .returned (.bool false)
      | some (n', d') => e = .returned (.bool true) ∧ RP w' g a n' true d' := by
  have hn : 0 ≤ n ∧ n ≤ 32 ∧ 0 ≤ d ∧ d ≤ 2 := by unfold OkLen at ho; omega
  have HR := Lib.hid h
  have b1 := Blk.cell h 1
  have b3 := Blk.cell h 3
  have f1 := Blk.frozen h 1
  have f3 := Blk.frozen h 3
  simp only [rdObj, List.getElem?_toArray, List.getElem?_cons_zero, List.getElem?_cons_succ] at b1 b3
  clear h
  by_cases h1 : c < 48
  · have hs : stepD n d c = none := if_neg (by omega)
    rw [hs]
    clear hs
    go_enter Tryd.func32, Tryd.ntmps32
    go_wp2
    go_ret
    exact ⟨grown_refl _ _, rfl⟩
  by_cases h2 : 57 < c
  · have hs : stepD n d c = none := if_neg (by omega)
    rw [hs]
    clear hs
    go_enter Tryd.func32, Tryd.ntmps32
    go_wp2
    go_ret
    exact ⟨grown_refl _ _, rfl⟩
  by_cases h3 : 0 < d ∧ n = 0
  · have hs : stepD n d c = none := if_neg (fun e => e.2.2.1 h3)
    rw [hs]
    obtain ⟨h4, rfl⟩ := h3
    clear hs
    go_enter Tryd.func32, Tryd.ntmps32
    go_wp2
    go_ret
    exact ⟨grown_refl _ _, rfl⟩
  have hset : ∀ n' d' : Int, RP ((w.setCell ⟨g, 1, none⟩ (.int .i64 n')).setCell ⟨g, 3, none⟩ (.int .i64 d')) g a n' true d' := fun n' d' => by
    have := (Blk.set_ HR.out 1 (.int .i64 n')).set_ 3 (.int .i64 d')
    simpa [RP, rdObj] using this
  have hgr : ∀ n' d' : Int, w.grownBy ((w.setCell ⟨g, 1, none⟩ (.int .i64 n')).setCell ⟨g, 3, none⟩ (.int .i64 d')) (some g) := fun n' d' => (grown_set _ _ _ _).trans (grown_set _ _ _ _)
  have HS := Lib.hid hset
  have HG := Lib.hid hgr
  clear hset hgr
  have hdn : d = 0 ∨ (0 < d ∧ (n == 0) = false) := by
    by_cases e : d = 0
    · exact .inl e
    · exact .inr ⟨by omega, by simpa using fun e2 => h3 ⟨by omega, e2⟩⟩
  by_cases h5 : n * 10 + (c - 48) ≤ 32
  · have hs : stepD n d c = some (n * 10 + (c - 48), d + 1) := if_pos ⟨by omega, by omega, h3, h5⟩
    rw [hs]
    have H5 := Lib.hid h5
    clear hs h3 ho h5
    rcases hdn with rfl | ⟨hd1, hn0⟩
    · go_enter Tryd.func32, Tryd.ntmps32
      go_wp2_with fail
      go_ret
      exact ⟨HG.out _ _, by simp [H5.out], HS.out _ _⟩
    · go_enter Tryd.func32, Tryd.ntmps32
      go_wp2_with fail
      go_ret
      exact ⟨HG.out _ _, by simp [H5.out], HS.out _ _⟩
  · have hs : stepD n d c = none := if_neg (fun e => h5 e.2.2.2)
    rw [hs]
    have H5 := Lib.hid h5
    clear hs h3 ho h5
    rcases hdn with rfl | ⟨hd1, hn0⟩
    · go_enter Tryd.func32, Tryd.ntmps32
      go_wp2_with fail
      go_ret
      exact ⟨HG.out _ _, by simp; have := H5.out; omega⟩
    · go_enter Tryd.func32, Tryd.ntmps32
      go_wp2_with fail
      go_ret
      exact ⟨HG.out _ _, by simp; have := H5.out; omega⟩

set_option maxRecDepth 100000 in
set_option maxHeartbeats 800000 in
theorem address_any (g : Nat) (a n d : Int) (s : Bool) (t : ByteArray) (w : World) (h : RP w g a n s d) :
    Calls Tryd.prog 33 #[.pointer (some ⟨g, 0, none⟩), .string t] w fun e w' => e = .returned (.bool ((parsed t.data.toList).2.2 == 0)) ∧ RP w' g (parsed t.data.toList).1 n true d ∧ w.grownBy w' (some g) := by
  have hp := parse_any t w
  unfold parseEnd at hp
  generalize (parsed t.data.toList).1 = A at *
  generalize (parsed t.data.toList).2.1 = P at *
  generalize (parsed t.data.toList).2.2 = E at *
  have HP := Lib.hid hp
  have HR := Lib.hid h
  clear hp h
  go_enter Tryd.func33, Tryd.ntmps33
  go_wp2_with fail
  refine HP.out.mono ?_
  rintro e w1 ⟨rfl, hb⟩
  have h1 : RP w1 g a n s d := Blk.below HR.out hb (Blk.lt HR.out)
  have b0 := Blk.cell h1 0
  have b2 := Blk.cell h1 2
  have f0 := Blk.frozen h1 0
  have f2 := Blk.frozen h1 2
  simp only [rdObj, List.getElem?_toArray, List.getElem?_cons_zero, List.getElem?_cons_succ] at b0 b2
  have hset : RP ((w1.setCell ⟨g, 0, none⟩ (.int .u32 A)).setCell ⟨g, 2, none⟩ (.bool true)) g A n true d := by
    have := (Blk.set_ h1 0 (.int .u32 A)).set_ 2 (.bool true)
    simpa [RP, rdObj] using this
  have hgr : w.grownBy ((w1.setCell ⟨g, 0, none⟩ (.int .u32 A)).setCell ⟨g, 2, none⟩ (.bool true)) (some g) := ((grown_below hb _).trans (grown_set _ _ _ _)).trans (grown_set _ _ _ _)
  have HS := Lib.hid hset
  have HG := Lib.hid hgr
  clear hset hgr hb h1
  go_wp2_with fail
  go_ret
  exact ⟨rfl, HS.out, HG.out⟩

set_option maxHeartbeats 800000 in
theorem take_dig (g : Nat) (a n : Int) (d c : Int) (t : ByteArray) (hc0 : 0 ≤ c) (hc1 : c ≤ 2147483647) (ho : OkLen n d) (w : World) (h : RP w g a n true d) :
    Calls Tryd.prog 21 #[.pointer (some ⟨g, 0, none⟩), .string t, .int .i32 c] w fun e w' => w.grownBy w' (some g) ∧ match stepD n d c with
      | none => e = .returned (.bool false)
      | some (n', d') => e = .returned (.bool true) ∧ RP w' g a n' true d' := by
  have hd := digit2_any g a n d c hc0 hc1 ho w h
  have b2 := Blk.cell h 2
  simp only [rdObj, List.getElem?_toArray, List.getElem?_cons_zero, List.getElem?_cons_succ] at b2
  clear h ho
  cases hs : stepD n d c with
  | none =>
    rw [hs] at hd
    have HD := Lib.hid hd
    clear hd hs
    go_enter Tryd.func21, Tryd.ntmps21
    go_wp2_with fail
    refine HD.out.mono ?_
    rintro e w1 ⟨hg, rfl⟩
    have HG := Lib.hid hg
    clear hg b2
    go_wp2_with fail
    go_ret
    exact ⟨HG.out, rfl⟩
  | some p =>
    obtain ⟨n', d'⟩ := p
    rw [hs] at hd
    have HD := Lib.hid hd
    clear hd hs
    go_enter Tryd.func21, Tryd.ntmps21
    go_wp2_with fail
    refine HD.out.mono ?_
    rintro e w1 ⟨hg, rfl, hm⟩
    have HG := Lib.hid hg
    have HM := Lib.hid hm
    clear hg hm b2
    go_wp2_with fail
    go_ret
    exact ⟨HG.out, rfl, HM.out⟩

set_option maxHeartbeats 800000 in
theorem take_slash (g : Nat) (a n d : Int) (t : ByteArray) (w : World) (h : RP w g a n false d) :
    Calls Tryd.prog 21 #[.pointer (some ⟨g, 0, none⟩), .string t, .int .i32 47] w fun e w' => e = .returned (.bool ((parsed t.data.toList).2.2 == 0)) ∧ RP w' g (parsed t.data.toList).1 n true d ∧ w.grownBy w' (some g) := by
  have ha := address_any g a n d false t w h
  have HA := Lib.hid ha
  have b2 := Blk.cell h 2
  simp only [rdObj, List.getElem?_toArray, List.getElem?_cons_zero, List.getElem?_cons_succ] at b2
  generalize ((parsed t.data.toList).2.2 == 0) = b at *
  generalize (parsed t.data.toList).1 = A at *
  clear ha h
  go_enter Tryd.func21, Tryd.ntmps21
  go_wp2_with fail
  refine HA.out.mono ?_
  rintro e w1 ⟨rfl, hr, hg⟩
  have HG := Lib.hid hg
  have HR := Lib.hid hr
  clear hg hr b2
  go_wp2_with fail
  go_ret
  exact ⟨rfl, HR.out, HG.out⟩

set_option maxHeartbeats 800000 in
theorem take_skip (g : Nat) (a n d c : Int) (t : ByteArray) (hc : c ≠ 47) (w : World) (h : RP w g a n false d) :
    Calls Tryd.prog 21 #[.pointer (some ⟨g, 0, none⟩), .string t, .int .i32 c] w fun e w' => e = .returned (.bool true) ∧ w = w' := by
  have b2 := Blk.cell h 2
  simp only [rdObj, List.getElem?_toArray, List.getElem?_cons_zero, List.getElem?_cons_succ] at b2
  have hb : (c == 47) = false := by simpa using hc
  clear h hc
  go_enter Tryd.func21, Tryd.ntmps21
  go_wp2_with fail
  go_ret
  exact ⟨rfl, rfl⟩
end Go.Proofs.YtabpkdblcinhjaaDoor
