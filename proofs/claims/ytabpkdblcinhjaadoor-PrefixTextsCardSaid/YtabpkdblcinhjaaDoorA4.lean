/- Contracts of layer 1: the reader's methods. -/
import Derived.Test.YtabpkdblcinhjaaDoorA0
import Derived.Test.YtabpkdblcinhjaaDoorA1
import Derived.RegionTactic
import Derived.BigRegion
namespace Go.Proofs.YtabpkdblcinhjaaDoor
open Go Go.RowKit

/-- The reader in block B: its parts, how many are whole, the part under way, its digits, the place. -/
def RB (w : World) (B : Nat) (q0 q1 q2 q3 k p d at_ : Int) : Prop :=
  Blk w B 108 #[.int .u8 q0, .int .u8 q1, .int .u8 q2, .int .u8 q3, .int .i64 k, .int .i64 p, .int .i64 d, .int .i64 at_]

abbrev gaveUp (at_ : Int) : Ending := .panicked [{ v := .iface 104 (.int .i64 at_), recovered := false }]

set_option maxHeartbeats 400000 in
theorem giveUp_any (B : Nat) (q0 q1 q2 q3 k p d at_ : Int) (w : World) (h : RB w B q0 q1 q2 q3 k p d at_) :
    Calls Tryd.prog 65 #[.pointer (some ⟨B, 0, none⟩)] w fun e w' => e = gaveUp at_ ∧ w = w' := by
  have c7 := h.cell 7
  have H := Lib.hid h
  clear h
  go_enter Tryd.func65, Tryd.ntmps65
  go_wp2
  exact ⟨rfl, rfl, rfl⟩

set_option maxHeartbeats 400000 in
theorem keep_no (B : Nat) (q0 q1 q2 q3 k p at_ : Int) (w : World) (h : RB w B q0 q1 q2 q3 k p 0 at_) :
    Calls Tryd.prog 66 #[.pointer (some ⟨B, 0, none⟩)] w fun e w' => e = gaveUp at_ ∧ w = w' := by
  have c6 := h.cell 6
  have H := Lib.hid h
  clear h
  go_enter Tryd.func66, Tryd.ntmps66
  go_wp2_with (go_at_call 65; refine (giveUp_any _ _ _ _ _ _ _ _ _ _ H.out).mono ?_; rintro e w' ⟨rfl, rfl⟩)
  exact ⟨rfl, rfl, rfl⟩

set_option maxHeartbeats 800000 in
theorem keep_0 (B : Nat) (q0 q1 q2 q3 p d at_ : Int) (w : World) (hp : 0 ≤ p ∧ p ≤ 255) (hd : 0 < d) (h : RB w B q0 q1 q2 q3 0 p d at_) :
    Calls Tryd.prog 66 #[.pointer (some ⟨B, 0, none⟩)] w fun e w' => e = .returned (.tuple #[]) ∧ RB w' B p q1 q2 q3 1 0 0 at_ ∧ w.grownBy w' (some B) := by
  have c0 := h.cell 0
  have c4 := h.cell 4
  have c5 := h.cell 5
  have c6 := h.cell 6
  have f0 := h.frozen 0
  have f4 := h.frozen 4
  have f5 := h.frozen 5
  have f6 := h.frozen 6
  have hd0 : (d == 0) = false := by simp; omega
  have H := Lib.hid h
  clear h
  go_enter Tryd.func66, Tryd.ntmps66
  go_wp2
  go_region
  go_wp2
  go_end0
  exact ⟨rfl, by simpa [RB, Blk] using ((((Blk.set_ H.out 0 (.int .u8 p)).set_ 4 (.int .i64 1)).set_ 5 (.int .i64 0)).set_ 6 (.int .i64 0)).drew, ((((grown_set _ _ _ _).trans (grown_set _ _ _ _)).trans (grown_set _ _ _ _)).trans (grown_set _ _ _ _)).trans (grown_drew _ _)⟩

set_option maxHeartbeats 800000 in
theorem keep_1 (B : Nat) (q0 q1 q2 q3 p d at_ : Int) (w : World) (hp : 0 ≤ p ∧ p ≤ 255) (hd : 0 < d) (h : RB w B q0 q1 q2 q3 1 p d at_) :
    Calls Tryd.prog 66 #[.pointer (some ⟨B, 0, none⟩)] w fun e w' => e = .returned (.tuple #[]) ∧ RB w' B q0 p q2 q3 2 0 0 at_ ∧ w.grownBy w' (some B) := by
  have c0 := h.cell 1
  have c4 := h.cell 4
  have c5 := h.cell 5
  have c6 := h.cell 6
  have f0 := h.frozen 1
  have f4 := h.frozen 4
  have f5 := h.frozen 5
  have f6 := h.frozen 6
  have hd0 : (d == 0) = false := by simp; omega
  have H := Lib.hid h
  clear h
  go_enter Tryd.func66, Tryd.ntmps66
  go_wp2
  go_region
  go_wp2
  go_end0
  exact ⟨rfl, by simpa [RB, Blk] using ((((Blk.set_ H.out 1 (.int .u8 p)).set_ 4 (.int .i64 2)).set_ 5 (.int .i64 0)).set_ 6 (.int .i64 0)).drew, ((((grown_set _ _ _ _).trans (grown_set _ _ _ _)).trans (grown_set _ _ _ _)).trans (grown_set _ _ _ _)).trans (grown_drew _ _)⟩

set_option maxHeartbeats 800000 in
theorem keep_2 (B : Nat) (q0 q1 q2 q3 p d at_ : Int) (w : World) (hp : 0 ≤ p ∧ p ≤ 255) (hd : 0 < d) (h : RB w B q0 q1 q2 q3 2 p d at_) :
    Calls Tryd.prog 66 #[.pointer (some ⟨B, 0, none⟩)] w fun e w' => e = .returned (.tuple #[]) ∧ RB w' B q0 q1 p q3 3 0 0 at_ ∧ w.grownBy w' (some B) := by
  have c0 := h.cell 2
  have c4 := h.cell 4
  have c5 := h.cell 5
  have c6 := h.cell 6
  have f0 := h.frozen 2
  have f4 := h.frozen 4
  have f5 := h.frozen 5
  have f6 := h.frozen 6
  have hd0 : (d == 0) = false := by simp; omega
  have H := Lib.hid h
  clear h
  go_enter Tryd.func66, Tryd.ntmps66
  go_wp2
  go_region
  go_wp2
  go_end0
  exact ⟨rfl, by simpa [RB, Blk] using ((((Blk.set_ H.out 2 (.int .u8 p)).set_ 4 (.int .i64 3)).set_ 5 (.int .i64 0)).set_ 6 (.int .i64 0)).drew, ((((grown_set _ _ _ _).trans (grown_set _ _ _ _)).trans (grown_set _ _ _ _)).trans (grown_set _ _ _ _)).trans (grown_drew _ _)⟩

set_option maxHeartbeats 800000 in
theorem keep_3 (B : Nat) (q0 q1 q2 q3 p d at_ : Int) (w : World) (hp : 0 ≤ p ∧ p ≤ 255) (hd : 0 < d) (h : RB w B q0 q1 q2 q3 3 p d at_) :
    Calls Tryd.prog 66 #[.pointer (some ⟨B, 0, none⟩)] w fun e w' => e = .returned (.tuple #[]) ∧ RB w' B q0 q1 q2 p 4 0 0 at_ ∧ w.grownBy w' (some B) := by
  have c0 := h.cell 3
  have c4 := h.cell 4
  have c5 := h.cell 5
  have c6 := h.cell 6
  have f0 := h.frozen 3
  have f4 := h.frozen 4
  have f5 := h.frozen 5
  have f6 := h.frozen 6
  have hd0 : (d == 0) = false := by simp; omega
  have H := Lib.hid h
  clear h
  go_enter Tryd.func66, Tryd.ntmps66
  go_wp2
  go_region
  go_wp2
  go_end0
  exact ⟨rfl, by simpa [RB, Blk] using ((((Blk.set_ H.out 3 (.int .u8 p)).set_ 4 (.int .i64 4)).set_ 5 (.int .i64 0)).set_ 6 (.int .i64 0)).drew, ((((grown_set _ _ _ _).trans (grown_set _ _ _ _)).trans (grown_set _ _ _ _)).trans (grown_set _ _ _ _)).trans (grown_drew _ _)⟩


set_option maxHeartbeats 800000 in
theorem digit_ok (B : Nat) (q0 q1 q2 q3 k p d at_ c : Int) (w : World) (hp : 0 ≤ p ∧ p ≤ 255) (hd : 0 ≤ d ∧ d ≤ 3) (hc : 0 ≤ c ∧ c ≤ 9) (h1 : ¬ (0 < d ∧ p = 0)) (h2 : 10 * p + c ≤ 255) (h : RB w B q0 q1 q2 q3 k p d at_) :
    Calls Tryd.prog 63 #[.pointer (some ⟨B, 0, none⟩), .int .i64 c] w fun e w' => e = .returned (.tuple #[]) ∧ RB w' B q0 q1 q2 q3 k (10 * p + c) (d + 1) at_ ∧ w.grownBy w' (some B) := by
  have c5 := h.cell 5
  have c6 := h.cell 6
  have f5 := h.frozen 5
  have f6 := h.frozen 6
  have hB := h.lt
  have H := Lib.hid h
  clear h
  have ht := tog64_any 10 p c w.heap.size 2 (w.alloc (.cells #[.int .i64 p, .int .i64 c] 3)) rfl hp.1 hp.2 hc.1 hc.2 (by simp) (by simp)
  have HT := Lib.hid ht
  clear ht
  go_enter Tryd.func63, Tryd.ntmps63
  go_wp2_with fail
  refine HT.out.mono ?_
  rintro e w1 ⟨rfl, rfl⟩
  have h2' : ¬ 255 < 10 * p + c := by omega
  by_cases hd0 : 0 < d
  · have hp0 : (p == 0) = false := by simp; intro e; exact h1 ⟨hd0, e⟩
    clear h1
    go_wp2
    go_end0
    exact ⟨rfl, by simpa [RB, Blk] using ((Blk.set_ H.out 5 (.int .i64 (10 * p + c))).set_ 6 (.int .i64 (d + 1))).alloc (.cells #[.int .i64 p, .int .i64 c] 3), ((grown_set _ _ _ _).trans (grown_set _ _ _ _)).trans (World.grownBy_alloc _ _ _)⟩
  · clear h1
    go_wp2
    go_end0
    exact ⟨rfl, by simpa [RB, Blk] using ((Blk.set_ H.out 5 (.int .i64 (10 * p + c))).set_ 6 (.int .i64 (d + 1))).alloc (.cells #[.int .i64 p, .int .i64 c] 3), ((grown_set _ _ _ _).trans (grown_set _ _ _ _)).trans (World.grownBy_alloc _ _ _)⟩

set_option maxHeartbeats 800000 in
theorem digit_no (B : Nat) (q0 q1 q2 q3 k p d at_ c : Int) (w : World) (hp : 0 ≤ p ∧ p ≤ 255) (hd : 0 ≤ d ∧ d ≤ 3) (hc : 0 ≤ c ∧ c ≤ 9) (h1 : (0 < d ∧ p = 0) ∨ 255 < 10 * p + c) (h : RB w B q0 q1 q2 q3 k p d at_) :
    Calls Tryd.prog 63 #[.pointer (some ⟨B, 0, none⟩), .int .i64 c] w fun e w' => e = gaveUp at_ ∧ w.grownBy w' (some B) := by
  have c5 := h.cell 5
  have c6 := h.cell 6
  have hB := h.lt
  have ha : RB (w.alloc (.cells #[.int .i64 p, .int .i64 c] 3)) B q0 q1 q2 q3 k p d at_ := Blk.alloc h _
  have HA := Lib.hid ha
  clear h ha
  have ht := tog64_any 10 p c w.heap.size 2 (w.alloc (.cells #[.int .i64 p, .int .i64 c] 3)) rfl hp.1 hp.2 hc.1 hc.2 (by simp) (by simp)
  have HT := Lib.hid ht
  clear ht
  by_cases hd0 : 0 < d
  · by_cases hp0 : p = 0
    · have hpb : (p == 0) = true := by simpa using hp0
      clear h1 hp0
      go_enter Tryd.func63, Tryd.ntmps63
      go_wp2_with fail
      refine HT.out.mono ?_
      rintro e w1 ⟨rfl, rfl⟩
      go_wp2_with fail
      refine (giveUp_any _ _ _ _ _ _ _ _ _ _ HA.out).mono ?_
      rintro e w' ⟨rfl, rfl⟩
      go_wp2
      exact ⟨rfl, rfl, World.grownBy_alloc _ _ _⟩
    · have hpb : (p == 0) = false := by simpa using hp0
      have h2 : 255 < 10 * p + c := by rcases h1 with h1 | h1; exact absurd h1.2 hp0; exact h1
      clear h1 hp0
      go_enter Tryd.func63, Tryd.ntmps63
      go_wp2_with fail
      refine HT.out.mono ?_
      rintro e w1 ⟨rfl, rfl⟩
      go_wp2_with fail
      refine (giveUp_any _ _ _ _ _ _ _ _ _ _ HA.out).mono ?_
      rintro e w' ⟨rfl, rfl⟩
      go_wp2
      exact ⟨rfl, rfl, World.grownBy_alloc _ _ _⟩
  · have h2 : 255 < 10 * p + c := by rcases h1 with h1 | h1; exact absurd h1.1 hd0; exact h1
    clear h1
    go_enter Tryd.func63, Tryd.ntmps63
    go_wp2_with fail
    refine HT.out.mono ?_
    rintro e w1 ⟨rfl, rfl⟩
    go_wp2_with fail
    refine (giveUp_any _ _ _ _ _ _ _ _ _ _ HA.out).mono ?_
    rintro e w' ⟨rfl, rfl⟩
    go_wp2
    exact ⟨rfl, rfl, World.grownBy_alloc _ _ _⟩

/-- A reader's state, and one byte more. -/
structure Rd where
  q0 : Int
  q1 : Int
  q2 : Int
  q3 : Int
  k : Int
  p : Int
  d : Int

def RS (w : World) (B : Nat) (s : Rd) (at_ : Int) : Prop := RB w B s.q0 s.q1 s.q2 s.q3 s.k s.p s.d at_

/-- The part under way is laid to those behind. -/
def Rd.put (s : Rd) : Rd :=
  if s.k = 0 then ⟨s.p, s.q1, s.q2, s.q3, 1, 0, 0⟩ else if s.k = 1 then ⟨s.q0, s.p, s.q2, s.q3, 2, 0, 0⟩ else if s.k = 2 then ⟨s.q0, s.q1, s.p, s.q3, 3, 0, 0⟩ else ⟨s.q0, s.q1, s.q2, s.p, 4, 0, 0⟩

def Rd.noDigit (s : Rd) (c : Int) : Prop := (0 < s.d ∧ s.p = 0) ∨ 255 < 10 * s.p + (c - 48)
instance (s : Rd) (c : Int) : Decidable (s.noDigit c) := inferInstanceAs (Decidable (_ ∨ _))

def Rd.step (s : Rd) (c : Int) : Option Rd :=
  if 48 ≤ c ∧ c ≤ 57 then (if s.noDigit c then none else some ⟨s.q0, s.q1, s.q2, s.q3, s.k, 10 * s.p + (c - 48), s.d + 1⟩)
  else if c = 46 then (if s.k = 3 ∨ s.d = 0 then none else some s.put) else none

structure Rd.Ok (s : Rd) : Prop where
  k0 : 0 ≤ s.k
  k3 : s.k ≤ 3
  p0 : 0 ≤ s.p
  p1 : s.p ≤ 255
  d0 : 0 ≤ s.d
  d3 : s.d ≤ 3
  d2 : s.d = 2 → 10 ≤ s.p
  dd : s.d = 3 → 100 ≤ s.p
  q0 : 0 ≤ s.q0 ∧ s.q0 ≤ 255
  q1 : 0 ≤ s.q1 ∧ s.q1 ≤ 255
  q2 : 0 ≤ s.q2 ∧ s.q2 ≤ 255
  q3 : 0 ≤ s.q3 ∧ s.q3 ≤ 255

theorem Rd.Ok.step {s s' : Rd} {c : Int} (h : s.Ok) (hs : s.step c = some s') : s'.Ok := by
  obtain ⟨k0, k3, p0, p1, d0, d3, d2, dd, q0, q1, q2, q3⟩ := h
  unfold Rd.step at hs
  split at hs
  · split at hs
    · cases hs
    · rename_i hn
      unfold Rd.noDigit at hn
      cases hs
      constructor <;> simp only <;> first | assumption | omega
  · split at hs
    · split at hs
      · cases hs
      · rename_i hn
        cases hs
        unfold Rd.put
        split
        · constructor <;> simp only <;> first | assumption | omega
        · split
          · constructor <;> simp only <;> first | assumption | omega
          · split
            · constructor <;> simp only <;> first | assumption | omega
            · omega
    · cases hs

theorem keep_any (B : Nat) (s : Rd) (at_ : Int) (w : World) (ho : s.Ok) (hd : 0 < s.d) (h : RS w B s at_) :
    Calls Tryd.prog 66 #[.pointer (some ⟨B, 0, none⟩)] w fun e w' => e = .returned (.tuple #[]) ∧ RS w' B s.put at_ ∧ w.grownBy w' (some B) := by
  obtain ⟨q0, q1, q2, q3, k, p, d⟩ := s
  have hk0 := ho.k0
  have hk3 := ho.k3
  have hp : 0 ≤ p ∧ p ≤ 255 := ⟨ho.p0, ho.p1⟩
  simp only at hk0 hk3 hd
  unfold RS at h ⊢
  simp only at h
  have hk : k = 0 ∨ k = 1 ∨ k = 2 ∨ k = 3 := by omega
  rcases hk with rfl | rfl | rfl | rfl
  · exact (keep_0 B q0 q1 q2 q3 p d at_ w hp hd h).mono fun e w' x => x
  · exact (keep_1 B q0 q1 q2 q3 p d at_ w hp hd h).mono fun e w' x => x
  · exact (keep_2 B q0 q1 q2 q3 p d at_ w hp hd h).mono fun e w' x => x
  · exact (keep_3 B q0 q1 q2 q3 p d at_ w hp hd h).mono fun e w' x => x
end Go.Proofs.YtabpkdblcinhjaaDoor
