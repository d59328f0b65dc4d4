/- Contracts of layer 3's reference Reader: Take, Skip. -/
import Derived.Test.YthpmfeijnphdbaaDoorO3
namespace Go.Proofs.YthpmfeijnphdbaaDoor
open Go Go.RowKit
attribute [local go_sem] Oper.semAt_some

/-- A reader of the reference: its bytes' slice, its place. -/
abbrev rdr (p : Option Addr) (n cap : Nat) (at_ : Int) : Value := .agg #[.slice p n cap, .int .i64 at_]

set_option maxRecDepth 100000 in
set_option maxHeartbeats 1600000 in
theorem refTake_any (p : Option Addr) (cap : Nat) (xs : List Int) (hb : IsBytes xs) (hn : xs.length ≤ 1000000) (at_ k : Int) (h0 : 0 ≤ at_) (h1 : at_ ≤ xs.length) (w : World) (hx : ByS w p xs) :
    Calls Tryd.prog 15 #[rdr p xs.length cap at_, .int .i64 k] w fun e w' => (if readNo xs at_ k = 0 then e = .returned (.tuple #[rdr p xs.length cap (at_ + k), .int .u32 (readN xs at_ k), .int .i64 0]) else e = .returned (.tuple #[rdr p xs.length cap at_, .int .u32 0, .int .i64 (readNo xs at_ k)])) ∧ Below w.heap.size w w' := by
  have hr := fun W (h : ByS W p xs) => refRead_any p cap xs hb hn at_ k W h
  have hk : readNo xs at_ k = 0 → 1 ≤ k ∧ k ≤ 4 := fun h => by
    have : W3 k := Classical.byContradiction fun hw => by
      unfold readNo at h; rw [if_pos hw] at h; cases h
    obtain ⟨m, rfl, hm⟩ := this.nat
    omega
  generalize hno : readNo xs at_ k = no at *
  generalize readN xs at_ k = v at *
  have HR := Lib.hid hr
  have HX := Lib.hid hx
  clear hr hb hx hno
  have hbw : Below w.heap.size w ((w.alloc (.cells #[.slice p xs.length cap, .int .i64 at_] 41)).alloc (.cells #[.slice none 0 0, .int .i64 0] 41)) := ((Below.refl w.heap.size w).alloc (Nat.le_refl _) _).alloc (by simp) _
  have b1 := (Blk.new w 41 #[.slice p xs.length cap, .int .i64 at_]).alloc (.cells #[.slice none 0 0, .int .i64 0] 41)
  have b2 := Blk.new (w.alloc (.cells #[.slice p xs.length cap, .int .i64 at_] 41)) 41 #[.slice none 0 0, .int .i64 0]
  go_enter Tryd.func15, Tryd.ntmps15
  go_wp2_with fail
  have hbx : ByS ((w.alloc (.cells #[.slice p xs.length cap, .int .i64 at_] 41)).alloc (.cells #[.slice none 0 0, .int .i64 0] 41)) p xs := HX.out.below hbw
  simp only [World.size_alloc] at b2
  generalize (w.alloc (.cells #[.slice p xs.length cap, .int .i64 at_] 41)).alloc (.cells #[.slice none 0 0, .int .i64 0] 41) = v1 at *
  refine ((HR.out _ hbx)).mono ?_
  rintro e v2 ⟨rfl, hb2⟩
  have HW := Lib.hid (hbw.trans (hb2.mono hbw.size))
  have B1 := b1.below hb2 b1.lt
  have B2 := b2.below hb2 b2.lt
  have c0 := B1.cell 0
  have c1 := B1.cell 1
  have f0 := B1.frozen 0
  have f1 := B1.frozen 1
  have d0 := B2.cell 0
  have d1 := B2.cell 1
  have g0 := B2.frozen 0
  have g1 := B2.frozen 1
  simp only [List.getElem?_toArray, List.getElem?_cons_zero, List.getElem?_cons_succ] at c0 c1 d0 d1
  clear hbw b1 b2 hbx hb2 B1 B2 HR HX
  by_cases hz : no = 0
  · subst hz
    have hk2 := hk rfl
    go_wp2_with fail
    exact bodyPost_ret (v := .tuple #[rdr p xs.length cap (at_ + k), .int .u32 v, .int .i64 0]) (by simp [results, Tryd.results15, go_sem, d0, d1]) rfl ⟨rfl, ((HW.out.setCell (by simp) _).setCell (by simp) _).setCell (by simp) _⟩
  · go_wp2_with fail
    exact bodyPost_ret (v := .tuple #[rdr p xs.length cap at_, .int .u32 0, .int .i64 no]) (by simp [results, Tryd.results15, go_sem, d0, d1]) rfl ⟨rfl, (HW.out.setCell (by simp) _).setCell (by simp) _⟩

/-- What Skip tells. -/
def skipNo (left many : Int) : Int := if many < 0 then 4 else if many > left then 130 else 0

set_option maxRecDepth 100000 in
set_option maxHeartbeats 1600000 in
theorem refSkip_any (p : Option Addr) (cap n : Nat) (hn : n ≤ 1000000) (at_ k : Int) (h0 : 0 ≤ at_) (h1 : at_ ≤ n) (w : World) :
    Calls Tryd.prog 17 #[rdr p n cap at_, .int .i64 k] w fun e w' => (if skipNo (n - at_) k = 0 then e = .returned (.tuple #[rdr p n cap (at_ + k), .int .i64 0]) else e = .returned (.tuple #[rdr p n cap at_, .int .i64 (skipNo (n - at_) k)])) ∧ Below w.heap.size w w' := by
  go_enter Tryd.func17, Tryd.ntmps17
  by_cases hneg : k < 0
  · have e0 : skipNo (n - at_) k = 4 := by unfold skipNo; rw [if_pos hneg]
    rw [e0]
    clear e0
    go_wp2_with fail
    exact bodyPost_ret (v := .tuple #[rdr p n cap at_, .int .i64 4]) (by simp [results, Tryd.results17, go_sem]) rfl ⟨rfl, ((Below.refl w.heap.size w).alloc (Nat.le_refl _) _).alloc (by simp) _⟩
  · by_cases hg : k > n - at_
    · have e0 : skipNo (n - at_) k = 130 := by unfold skipNo; rw [if_neg hneg, if_pos hg]
      rw [e0]
      clear e0
      go_wp2_with fail
      exact bodyPost_ret (v := .tuple #[rdr p n cap at_, .int .i64 130]) (by simp [results, Tryd.results17, go_sem]) rfl ⟨rfl, ((Below.refl w.heap.size w).alloc (Nat.le_refl _) _).alloc (by simp) _⟩
    · have e0 : skipNo (n - at_) k = 0 := by unfold skipNo; rw [if_neg hneg, if_neg hg]
      rw [e0]
      clear e0
      go_wp2_with fail
      exact bodyPost_ret (v := .tuple #[rdr p n cap (at_ + k), .int .i64 0]) (by simp [results, Tryd.results17, go_sem]) rfl ⟨rfl, ((Below.refl w.heap.size w).alloc (Nat.le_refl _) _).alloc (by simp) _⟩
end Go.Proofs.YthpmfeijnphdbaaDoor
