/- Contract of layer 2's program: Stands. -/
import Derived.Test.YtghkacciihocdaaD4
import Derived.Test.YtghkacciihocdaaC8
import Derived.Test.YtghkacciihocdaaG0
namespace Go.Proofs.Ytghkacciihocdaa
open Go Go.RowKit Go.Sort
attribute [local go_sem] Oper.semAt_some
attribute [local irreducible] wpQuiet

theorem has_shorter {x n y m : Int} (hx : right x n) (hnm : n ≤ m) (h : hasP y m x) : hasP x n y := by
  refine ⟨hx, ?_⟩
  have hm := h.1.2.1
  have h0 := hx.1
  rw [top_top x n.toNat m.toNat (by omega) (by omega), top_top y n.toNat m.toNat (by omega) (by omega), h.2]

/-- Which row, and which place of it. -/
def relRow (mt : Int) : Value := if mt = 1 then .agg #[.int .i64 3, .int .i64 1, .int .i64 2] else .agg #[.int .i64 4, .int .i64 4, .int .i64 4]
def relAt (mt c : Int) : Int := if mt = 1 then (if c = 1 then 2 else if c = 0 then 1 else 3) else 4

theorem rel_stand {x n y m : Int} (hx : right x n) (hy : right y m) : relAt (meets x n y m) (Lib.compareInt n m) = standF x n y m := by
  unfold relAt meets standF
  by_cases h : hasP x n y ∨ hasP y m x
  · rw [if_pos h, if_pos rfl]
    rcases Int.lt_trichotomy n m with hlt | rfl | hlt
    · have h3 : hasP x n y := h.elim id (fun e => has_shorter hx (by omega) e)
      have hc : Lib.compareInt n m = -1 := if_pos hlt
      rw [hc, if_neg (by decide), if_neg (by decide), if_neg (by omega), if_neg (by omega), if_pos ⟨by omega, h3⟩]
    · have hc : Lib.compareInt n n = 0 := by unfold Lib.compareInt; rw [if_neg (by omega), if_neg (by omega)]
      have he : x = y := h.elim (fun e => (same_len hy hx e).symm) (fun e => same_len hx hy e)
      rw [hc, if_neg (by decide), if_pos rfl, if_pos ⟨he, rfl⟩]
    · have h2 : hasP y m x := h.elim (fun e => has_shorter hy (by omega) e) id
      have hc : Lib.compareInt n m = 1 := by unfold Lib.compareInt; rw [if_neg (by omega), if_pos hlt]
      rw [hc, if_pos rfl, if_neg (by omega), if_pos ⟨by omega, h2⟩]
  · rw [if_neg h, if_neg (by decide)]
    have h1 : ¬ (x = y ∧ n = m) := fun e => h (.inl (by rw [← e.1]; exact has_self hx))
    rw [if_neg h1, if_neg (fun e => h (.inr e.2)), if_neg (fun e => h (.inl e.2))]

theorem meets_cases (x n y m : Int) : meets x n y m = 0 ∨ meets x n y m = 1 := by unfold meets; split <;> simp
theorem compareInt_cases (n m : Int) : Lib.compareInt n m = -1 ∨ Lib.compareInt n m = 0 ∨ Lib.compareInt n m = 1 := by unfold Lib.compareInt; split <;> (try split) <;> simp

theorem rel_row0 (w : World) : (Instr.index 147 (.agg #[.int .i64 4, .int .i64 4, .int .i64 4, .int .i64 3, .int .i64 1, .int .i64 2]) (.int .i64 0)).run Try.prog w = .ok (.agg #[.int .i64 4, .int .i64 4, .int .i64 4]) w := by kernel_rfl
theorem rel_at00 (w : World) : (Instr.index 146 (.agg #[.int .i64 4, .int .i64 4, .int .i64 4]) (.int .i64 0)).run Try.prog w = .ok (.int .i64 4) w := by kernel_rfl
theorem rel_at01 (w : World) : (Instr.index 146 (.agg #[.int .i64 4, .int .i64 4, .int .i64 4]) (.int .i64 1)).run Try.prog w = .ok (.int .i64 4) w := by kernel_rfl
theorem rel_at02 (w : World) : (Instr.index 146 (.agg #[.int .i64 4, .int .i64 4, .int .i64 4]) (.int .i64 2)).run Try.prog w = .ok (.int .i64 4) w := by kernel_rfl
theorem rel_row1 (w : World) : (Instr.index 147 (.agg #[.int .i64 4, .int .i64 4, .int .i64 4, .int .i64 3, .int .i64 1, .int .i64 2]) (.int .i64 1)).run Try.prog w = .ok (.agg #[.int .i64 3, .int .i64 1, .int .i64 2]) w := by kernel_rfl
theorem rel_at10 (w : World) : (Instr.index 146 (.agg #[.int .i64 3, .int .i64 1, .int .i64 2]) (.int .i64 0)).run Try.prog w = .ok (.int .i64 3) w := by kernel_rfl
theorem rel_at11 (w : World) : (Instr.index 146 (.agg #[.int .i64 3, .int .i64 1, .int .i64 2]) (.int .i64 1)).run Try.prog w = .ok (.int .i64 1) w := by kernel_rfl
theorem rel_at12 (w : World) : (Instr.index 146 (.agg #[.int .i64 3, .int .i64 1, .int .i64 2]) (.int .i64 2)).run Try.prog w = .ok (.int .i64 2) w := by kernel_rfl
theorem rel_ix1 (mt : Int) (h : mt = 0 ∨ mt = 1) (w : World) : (Instr.index 147 (.agg #[.int .i64 4, .int .i64 4, .int .i64 4, .int .i64 3, .int .i64 1, .int .i64 2]) (.int .i64 mt)).run Try.prog w = .ok (relRow mt) w := by
  rcases h with rfl | rfl
  · exact rel_row0 w
  · exact rel_row1 w
theorem rel_ix2 (mt c : Int) (h : mt = 0 ∨ mt = 1) (hc : c = -1 ∨ c = 0 ∨ c = 1) (w : World) : (Instr.index 146 (relRow mt) (.int .i64 (1 + c))).run Try.prog w = .ok (.int .i64 (relAt mt c)) w := by
  rcases h with rfl | rfl <;> rcases hc with rfl | rfl | rfl
  · exact rel_at00 w
  · exact rel_at01 w
  · exact rel_at02 w
  · exact rel_at10 w
  · exact rel_at11 w
  · exact rel_at12 w

def standE (x n y m : Int) : Ending := if right x n ∧ right y m then .returned (.tuple #[.int .i64 (standF x n y m), .int .i64 0]) else .returned (.tuple #[.int .i64 0, .int .i64 2])

set_option maxRecDepth 100000 in
set_option maxHeartbeats 1600000 in
theorem stands_any (x n y m : Int) (x0 : 0 ≤ x) (x1 : x < 4294967296) (y0 : 0 ≤ y) (y1 : y < 4294967296) (w : World) :
    Calls Try.prog 88 #[pfx x n, pfx y m] w fun e w' => e = standE x n y m ∧ Below w.heap.size w w' := by
  have HB := Lib.hid (two_below w (.cells #[.int .u32 x, .int .i64 n] 34) (.cells #[.int .u32 y, .int .i64 m] 34))
  by_cases hx : right x n
  · have hc : chk x n = 0 := if_pos hx
    have HC := Lib.hid hc
    clear hc
    by_cases hy : right y m
    · have hc : chk y m = 0 := if_pos hy
      have HC2 := Lib.hid hc
      have hS : standE x n y m = .returned (.tuple #[.int .i64 (standF x n y m), .int .i64 0]) := if_pos ⟨hx, hy⟩
      rw [hS, ← rel_stand hx hy]
      have hm := meets_cases x n y m
      have hk := compareInt_cases n m
      have i1 := fun w => rel_ix1 _ hm w
      have i2 := fun w => rel_ix2 _ _ hm hk w
      have HMT := fun w => meet_any x n y m x0 x1 y0 y1 w
      have HCP := fun w => Try.cmp_Compare_int n m w
      have k0 : -1 ≤ Lib.compareInt n m := by omega
      have k1 : Lib.compareInt n m ≤ 1 := by omega
      generalize meets x n y m = mt at *
      generalize Lib.compareInt n m = c at *
      generalize relRow mt = row at *
      generalize relAt mt c = r at *
      have HI1 := Lib.hid i1
      have HI2 := Lib.hid i2
      have HM := Lib.hid HMT
      have HP := Lib.hid HCP
      clear hc hS hm hk HMT HCP i1 i2 hx hy
      go_enter Try.func88, Try.ntmps88
      go_wp2_with fail
      refine wp_scope_straight ?_
      go_wp2_with fail
      refine (check_any x n x0 x1 _).mono ?_
      rw [HC.out]
      rintro e w1 ⟨rfl, hb⟩
      have HB2 := Lib.hid (HB.out.trans (hb.mono HB.out.size))
      have b1 : Blk w1 w.heap.size 34 #[.int .u32 x, .int .i64 n] := ((Blk.new w _ _).alloc _).below hb (by simp; omega)
      have b2 : Blk w1 (w.heap.size + 1) 34 #[.int .u32 y, .int .i64 m] := by
        have := (Blk.new (w.alloc (.cells #[.int .u32 x, .int .i64 n] 34)) 34 #[.int .u32 y, .int .i64 m]).below hb (by simp)
        simpa using this
      have d0 := b2.cell 0
      have d1 := b2.cell 1
      simp only [List.getElem?_toArray, List.getElem?_cons_zero, List.getElem?_cons_succ] at d0 d1
      have HB1 := Lib.hid b1
      have HBB := Lib.hid b2
      clear hb b1 b2
      go_wp2_with fail
      refine (check_any y m y0 y1 _).mono ?_
      rw [HC2.out]
      rintro e w2 ⟨rfl, hb⟩
      have HB3 := Lib.hid (HB2.out.trans (hb.mono HB2.out.size))
      have b1 := HB1.out.below hb HB1.out.lt
      have b2 := HBB.out.below hb HBB.out.lt
      clear hb d0 d1
      go_wp2_with fail
      have c0 := b1.cell 0
      have c1 := b1.cell 1
      have d0 := b2.cell 0
      have d1 := b2.cell 1
      simp only [List.getElem?_toArray, List.getElem?_cons_zero, List.getElem?_cons_succ] at c0 c1 d0 d1
      have k00 := cell_regrown c0
      have k01 := cell_regrown c1
      have k10 := cell_regrown d0
      have k11 := cell_regrown d1
      have cM : ∀ d os, Calls Try.prog 94 #[pfx x n, pfx y m] (grow (redrawn w2 d) os) fun e w'' => e = .returned (.int .i64 mt) ∧ ∃ p : Regrown, w'' = grow (redrawn w2 p.d) p.os := fun d os => Calls.regrown_of (HM.out _)
      have cC : ∀ d os, Calls Try.prog 84 #[.int .i64 n, .int .i64 m] (grow (redrawn w2 d) os) fun e w'' => e = .returned (.int .i64 c) ∧ ∃ p : Regrown, w'' = grow (redrawn w2 p.d) p.os := fun d os => Calls.regrown_of ((HP.out _).mono fun _ _ ⟨he, hw⟩ => ⟨he, by rw [hw]; exact Below.refl _ _⟩)
      have i1 := HI1.out
      have hw : IntKind.i64.wrap (1 + c) = 1 + c := by rw [IntKind.wrap_i64]; omega
      have i2 : ∀ w, (Instr.index 146 row (.int .i64 (IntKind.i64.wrap (1 + c)))).run Try.prog w = .ok (.int .i64 r) w := fun w => by rw [hw]; exact HI2.out w
      clear hw c0 c1 d0 d1 b1 b2
      refine wp_region_quiet_below (by kernel_rfl) (by kernel_rfl) ?_
      repeat (quiet_step (first | (with_reducible exact cM _ _) | (with_reducible exact cC _ _)))
      refine wpQuiet_nil ?_
      intro w3 hw3
      obtain ⟨⟨dq, osq⟩, rfl⟩ := hw3
      have HB4 := Lib.hid (HB3.out.trans ((below_regrown w2 dq osq).mono HB3.out.size))
      generalize grow (redrawn w2 dq) osq = w4 at *
      clear k00 k01 k10 k11 cM cC i1 i2
      go_wp2_with fail
      rw [Exit.noGoto_ret]
      go_ret2
      exact ⟨rfl, HB4.out⟩
    · have hc : chk y m = 2 := if_neg hy
      have HC2 := Lib.hid hc
      have hS : standE x n y m = .returned (.tuple #[.int .i64 0, .int .i64 2]) := if_neg (fun e => hy e.2)
      rw [hS]
      clear hS hx hy hc
      go_enter Try.func88, Try.ntmps88
      go_wp2_with fail
      refine wp_scope_fwd 0 rfl ?_
      go_wp2_with fail
      refine (check_any x n x0 x1 _).mono ?_
      rw [HC.out]
      rintro e w1 ⟨rfl, hb⟩
      have HB2 := Lib.hid (HB.out.trans (hb.mono HB.out.size))
      have b2 : Blk w1 (w.heap.size + 1) 34 #[.int .u32 y, .int .i64 m] := by
        have := (Blk.new (w.alloc (.cells #[.int .u32 x, .int .i64 n] 34)) 34 #[.int .u32 y, .int .i64 m]).below hb (by simp)
        simpa using this
      have d0 := b2.cell 0
      have d1 := b2.cell 1
      simp only [List.getElem?_toArray, List.getElem?_cons_zero, List.getElem?_cons_succ] at d0 d1
      clear hb b2
      go_wp2_with fail
      refine (check_any y m y0 y1 _).mono ?_
      rw [HC2.out]
      rintro e w2 ⟨rfl, hb⟩
      have HB3 := Lib.hid (HB2.out.trans (hb.mono HB2.out.size))
      clear hb d0 d1
      go_wp2_with fail
      go_step3
      refine ⟨rfl, ?_⟩
      go_wp2_with fail
      rw [Exit.noGoto_ret]
      go_ret2
      exact ⟨rfl, HB3.out⟩
  · have hc : chk x n = 2 := if_neg hx
    have HC := Lib.hid hc
    have hS : standE x n y m = .returned (.tuple #[.int .i64 0, .int .i64 2]) := if_neg (fun e => hx e.1)
    rw [hS]
    clear hS hx hc
    go_enter Try.func88, Try.ntmps88
    go_wp2_with fail
    refine wp_scope_fwd 0 rfl ?_
    go_wp2_with fail
    refine (check_any x n x0 x1 _).mono ?_
    rw [HC.out]
    rintro e w1 ⟨rfl, hb⟩
    have HB2 := Lib.hid (HB.out.trans (hb.mono HB.out.size))
    clear hb
    go_wp2_with fail
    go_step3
    refine ⟨rfl, ?_⟩
    go_wp2_with fail
    rw [Exit.noGoto_ret]
    go_ret2
    exact ⟨rfl, HB2.out⟩
end Go.Proofs.Ytghkacciihocdaa
