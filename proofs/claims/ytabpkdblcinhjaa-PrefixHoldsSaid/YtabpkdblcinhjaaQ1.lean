/- The walk of PrefixHolds, way by way (laid by tools/gen/q1.py). -/
import Derived.Test.YtabpkdblcinhjaaK4
import Derived.Test.YtabpkdblcinhjaaC8
namespace Go.Proofs.Ytabpkdblcinhjaa
open Go Go.RowKit Go.Sort
attribute [local go_sem] Oper.semAt_some
attribute [local irreducible] wpQuiet

/-- Three boxed prefixes; what was there is as it was. -/
structure H4 (w : World) (x n y m z k : Int) (W : World) : Prop where
  a : Blk W w.heap.size 25 #[.int .u32 x, .int .i64 n]
  b : Blk W (w.heap.size + 1) 25 #[.int .u32 y, .int .i64 m]
  c : Blk W (w.heap.size + 1 + 1) 25 #[.int .u32 z, .int .i64 k]
  bl : Below w.heap.size w W
theorem H4.below {w : World} {x n y m z k : Int} {W W' : World} (h : H4 w x n y m z k W) (hb : Below W.heap.size W W') : H4 w x n y m z k W' :=
  ⟨h.a.below hb h.a.lt, h.b.below hb h.b.lt, h.c.below hb h.c.lt, h.bl.trans (hb.mono h.bl.size)⟩
theorem h4_new (w : World) (x n y m z k : Int) : H4 w x n y m z k (((w.alloc (.cells #[.int .u32 x, .int .i64 n] 25)).alloc (.cells #[.int .u32 y, .int .i64 m] 25)).alloc (.cells #[.int .u32 z, .int .i64 k] 25)) := by
  refine ⟨((Blk.new w _ _).alloc _).alloc _, ?_, ?_, (((Below.refl _ _).alloc (Nat.le_refl _) _).alloc (by simp) _).alloc (by simp; omega) _⟩
  · have := (Blk.new (w.alloc (.cells #[.int .u32 x, .int .i64 n] 25)) 25 #[.int .u32 y, .int .i64 m]).alloc (.cells #[.int .u32 z, .int .i64 k] 25)
    simpa using this
  · have := Blk.new ((w.alloc (.cells #[.int .u32 x, .int .i64 n] 25)).alloc (.cells #[.int .u32 y, .int .i64 m] 25)) 25 #[.int .u32 z, .int .i64 k]
    simpa using this
theorem h4_cells {w : World} {x n y m z k : Int} {W : World} (h : H4 w x n y m z k W) : W.cell? ⟨w.heap.size, 0, none⟩ = some (.int .u32 x) ∧ W.cell? ⟨w.heap.size, 1, none⟩ = some (.int .i64 n) ∧ W.cell? ⟨w.heap.size + 1, 0, none⟩ = some (.int .u32 y) ∧ W.cell? ⟨w.heap.size + 1, 1, none⟩ = some (.int .i64 m) ∧ W.cell? ⟨w.heap.size + 1 + 1, 0, none⟩ = some (.int .u32 z) ∧ W.cell? ⟨w.heap.size + 1 + 1, 1, none⟩ = some (.int .i64 k) := by
  have a0 := h.a.cell 0
  have a1 := h.a.cell 1
  have b0 := h.b.cell 0
  have b1 := h.b.cell 1
  have c0 := h.c.cell 0
  have c1 := h.c.cell 1
  simp only [List.getElem?_toArray, List.getElem?_cons_zero, List.getElem?_cons_succ] at a0 a1 b0 b1 c0 c1
  exact ⟨a0, a1, b0, b1, c0, c1⟩


set_option maxRecDepth 100000 in
set_option maxHeartbeats 3200000 in
theorem law02_holds_no (x n y m z k a : Int) (x0 : 0 ≤ x) (x1 : x < 4294967296) (y0 : 0 ≤ y) (y1 : y < 4294967296) (z0 : 0 ≤ z) (z1 : z < 4294967296) (h : ¬ (right x n ∧ right y m ∧ right z k)) (w : World) :
    Calls Try.prog 6 #[pfx x n, pfx y m, pfx z k, .int .u32 a] w fun e w' => e = .returned (.bool true) ∧ Below w.heap.size w w' := by
  by_cases hx : right x n
  · have hd : decide (right x n) = true := decide_eq_true hx
    have HX := Lib.hid hd
    clear hd
    by_cases hy : right y m
    · have hd : decide (right y m) = true := decide_eq_true hy
      have HY := Lib.hid hd
      have hd2 : decide (right z k) = false := decide_eq_false (fun e => h ⟨hx, hy, e⟩)
      have HZ := Lib.hid hd2
      clear hd hd2 hx hy h
      have HW0 := Lib.hid (h4_new w x n y m z k)
      go_enter Try.func6, Try.ntmps6
      go_wp2_with fail
      refine (refRight_any x n x0 x1 _).mono ?_
      rw [HX.out]
      rintro e w1 ⟨rfl, hb⟩
      have HW1 := Lib.hid (HW0.out.below hb)
      clear hb HW0
      obtain ⟨a0, a1, b0, b1, c0, c1⟩ := h4_cells HW1.out
      go_wp2_with fail
      refine (refRight_any y m y0 y1 _).mono ?_
      rw [HY.out]
      rintro e w2 ⟨rfl, hb⟩
      have HW2 := Lib.hid (HW1.out.below hb)
      clear hb a0 a1 b0 b1 c0 c1 HW1
      obtain ⟨a0, a1, b0, b1, c0, c1⟩ := h4_cells HW2.out
      go_wp2_with fail
      refine (refRight_any z k z0 z1 _).mono ?_
      rw [HZ.out]
      rintro e w3 ⟨rfl, hb⟩
      have HW3 := Lib.hid (HW2.out.below hb)
      clear hb a0 a1 b0 b1 c0 c1 HW2
      go_wp2_with fail
      refine (works02_any _).mono ?_
      rintro e w4 ⟨rfl, hb⟩
      have HW4 := Lib.hid (HW3.out.below hb)
      clear hb HW3
      go_wp2_with fail
      go_ret
      exact ⟨rfl, HW4.out.bl⟩
    · have hd : decide (right y m) = false := decide_eq_false hy
      have HY := Lib.hid hd
      clear hd hx hy h
      have HW0 := Lib.hid (h4_new w x n y m z k)
      go_enter Try.func6, Try.ntmps6
      go_wp2_with fail
      refine (refRight_any x n x0 x1 _).mono ?_
      rw [HX.out]
      rintro e w5 ⟨rfl, hb⟩
      have HW5 := Lib.hid (HW0.out.below hb)
      clear hb HW0
      obtain ⟨a0, a1, b0, b1, c0, c1⟩ := h4_cells HW5.out
      go_wp2_with fail
      refine (refRight_any y m y0 y1 _).mono ?_
      rw [HY.out]
      rintro e w6 ⟨rfl, hb⟩
      have HW6 := Lib.hid (HW5.out.below hb)
      clear hb a0 a1 b0 b1 c0 c1 HW5
      go_wp2_with fail
      refine (works02_any _).mono ?_
      rintro e w7 ⟨rfl, hb⟩
      have HW7 := Lib.hid (HW6.out.below hb)
      clear hb HW6
      go_wp2_with fail
      go_ret
      exact ⟨rfl, HW7.out.bl⟩
  · have hd : decide (right x n) = false := decide_eq_false hx
    have HX := Lib.hid hd
    clear hd hx h
    have HW0 := Lib.hid (h4_new w x n y m z k)
    go_enter Try.func6, Try.ntmps6
    go_wp2_with fail
    refine (refRight_any x n x0 x1 _).mono ?_
    rw [HX.out]
    rintro e w8 ⟨rfl, hb⟩
    have HW8 := Lib.hid (HW0.out.below hb)
    clear hb HW0
    go_wp2_with fail
    refine (works02_any _).mono ?_
    rintro e w9 ⟨rfl, hb⟩
    have HW9 := Lib.hid (HW8.out.below hb)
    clear hb HW8
    go_wp2_with fail
    go_ret
    exact ⟨rfl, HW9.out.bl⟩

set_option maxRecDepth 100000 in
set_option maxHeartbeats 3200000 in
theorem law02_h1 (x n y m z k a : Int) (x0 : 0 ≤ x) (x1 : x < 4294967296) (y0 : 0 ≤ y) (y1 : y < 4294967296) (z0 : 0 ≤ z) (z1 : z < 4294967296) (a0 : 0 ≤ a) (a1 : a < 4294967296) (hx : right x n) (hy : right y m) (hz : right z k) (w : World) (i1 i2 : Bool)
    (hi1 : decide (hasP x n a) = i1) (hi2 : decide (hasP y m a) = i2) (e1 : x = y) (e2 : n = m) (hX : standF x n y m = 1) (hY : standF y m x n = 1) (U : Int) (hU : standF z k x n = U) (hq : decide (hasP y m x) = true) (ho1 : ordF x n y m = 0) (_hii : (i1 != i2) = false) :
    Calls Try.prog 6 #[pfx x n, pfx y m, pfx z k, .int .u32 a] w fun e w' => e = .returned (.bool true) ∧ Below w.heap.size w w' := by
  have HX : Hid (decide (right x n) = true) := decide_eq_true hx
  have HY : Hid (decide (right y m) = true) := decide_eq_true hy
  have HZ : Hid (decide (right z k) = true) := decide_eq_true hz
  have HS1 : Hid (standE x n y m = .returned (.tuple #[.int .i64 1, .int .i64 0])) := by show standE x n y m = _; unfold standE; rw [if_pos ⟨hx, hy⟩, hX]
  have HS2 : Hid (standE y m x n = .returned (.tuple #[.int .i64 1, .int .i64 0])) := by show standE y m x n = _; unfold standE; rw [if_pos ⟨hy, hx⟩, hY]
  have HS3 : Hid (standE z k x n = .returned (.tuple #[.int .i64 U, .int .i64 0])) := by show standE z k x n = _; unfold standE; rw [if_pos ⟨hz, hx⟩, hU]
  have HI1 := Lib.hid hi1
  have HI2 := Lib.hid hi2
  clear hx hy hz hX hY hU hi1 hi2
  subst e1 e2
  have HQ := Lib.hid hq
  clear hq
  have HO1 := Lib.hid ho1
  clear ho1
  have HA := Lib.hid a0
  have HA1 := Lib.hid a1
  clear a0 a1
  have HW0 := Lib.hid (h4_new w x n x n z k)
  go_enter Try.func6, Try.ntmps6
  go_wp2_with fail
  refine (refRight_any x n x0 x1 _).mono ?_
  rw [HX.out]
  rintro e w1 ⟨rfl, hb⟩
  have HW1 := Lib.hid (HW0.out.below hb)
  clear hb HW0
  obtain ⟨a0, a1, b0, b1, c0, c1⟩ := h4_cells HW1.out
  go_wp2_with fail
  refine (refRight_any x n y0 y1 _).mono ?_
  rw [HY.out]
  rintro e w2 ⟨rfl, hb⟩
  have HW2 := Lib.hid (HW1.out.below hb)
  clear hb a0 a1 b0 b1 c0 c1 HW1
  obtain ⟨a0, a1, b0, b1, c0, c1⟩ := h4_cells HW2.out
  go_wp2_with fail
  refine (refRight_any z k z0 z1 _).mono ?_
  rw [HZ.out]
  rintro e w3 ⟨rfl, hb⟩
  have HW3 := Lib.hid (HW2.out.below hb)
  clear hb a0 a1 b0 b1 c0 c1 HW2
  obtain ⟨a0, a1, b0, b1, c0, c1⟩ := h4_cells HW3.out
  go_wp2_with fail
  refine (stands_any x n x n x0 x1 y0 y1 _).mono ?_
  rw [HS1.out]
  rintro e w4 ⟨rfl, hb⟩
  have HW4 := Lib.hid (HW3.out.below hb)
  clear hb a0 a1 b0 b1 c0 c1 HW3
  obtain ⟨a0, a1, b0, b1, c0, c1⟩ := h4_cells HW4.out
  go_wp2_with fail
  refine (stands_any x n x n y0 y1 x0 x1 _).mono ?_
  rw [HS2.out]
  rintro e w5 ⟨rfl, hb⟩
  have HW5 := Lib.hid (HW4.out.below hb)
  clear hb a0 a1 b0 b1 c0 c1 HW4
  go_wp2_with fail
  obtain ⟨a0, a1, b0, b1, c0, c1⟩ := h4_cells HW5.out
  have k0 := cell_regrown a0
  have k1 := cell_regrown a1
  have k2 := cell_regrown b0
  have k3 := cell_regrown b1
  have cP : ∀ d os, Calls Try.prog 14 #[.agg #[.int .u32 x, .int .i64 n], .int .u32 a] (grow (redrawn w5 d) os) fun e w'' => e = .returned (.bool i1) ∧ ∃ p : Regrown, w'' = grow (redrawn w5 p.d) p.os := fun d os => Calls.regrown_of (by have := has2_any x n a HA.out HA1.out (grow (redrawn w5 d) os); rw [HI1.out] at this; exact this)
  have cQ : ∀ d os, Calls Try.prog 14 #[.agg #[.int .u32 x, .int .i64 n], .int .u32 a] (grow (redrawn w5 d) os) fun e w'' => e = .returned (.bool i2) ∧ ∃ p : Regrown, w'' = grow (redrawn w5 p.d) p.os := fun d os => Calls.regrown_of (by have := has2_any x n a HA.out HA1.out (grow (redrawn w5 d) os); rw [HI2.out] at this; exact this)
  clear a0 a1 b0 b1 c0 c1
  refine wp_region_quiet_below (by kernel_rfl) (by kernel_rfl) ?_
  repeat (quiet_step (first | (with_reducible exact cP _ _) | (with_reducible exact cQ _ _)))
  refine wpQuiet_nil ?_
  intro wq hwq
  obtain ⟨⟨dq, osq⟩, rfl⟩ := hwq
  have HWq := Lib.hid (HW5.out.below (below_regrown w5 dq osq))
  generalize grow (redrawn w5 dq) osq = wq at *
  clear k0 k1 k2 k3 cP cQ HW5
  obtain ⟨a0, a1, b0, b1, c0, c1⟩ := h4_cells HWq.out
  go_wp2_with fail
  refine (num02_any _ _).mono ?_
  rintro e wn ⟨rfl, rfl⟩
  go_wp2_with fail
  refine (num02_any _ _).mono ?_
  rintro e wn ⟨rfl, rfl⟩
  go_wp2_with fail
  refine (has2_any x n x x0 x1 _).mono ?_
  rw [HQ.out]
  rintro e w6 ⟨rfl, hb⟩
  have HW6 := Lib.hid (HWq.out.below hb)
  clear hb a0 a1 b0 b1 c0 c1 HWq
  obtain ⟨a0, a1, b0, b1, c0, c1⟩ := h4_cells HW6.out
  go_wp2_with fail
  refine (stands_any z k x n z0 z1 x0 x1 _).mono ?_
  rw [HS3.out]
  rintro e w7 ⟨rfl, hb⟩
  have HW7 := Lib.hid (HW6.out.below hb)
  clear hb a0 a1 b0 b1 c0 c1 HW6
  obtain ⟨a0, a1, b0, b1, c0, c1⟩ := h4_cells HW7.out
  go_wp2_with fail
  refine (order_any x n x n _).mono ?_
  rw [HO1.out]
  rintro e w8 ⟨rfl, hb⟩
  have HW8 := Lib.hid (HW7.out.below hb)
  clear hb a0 a1 b0 b1 c0 c1 HW7
  obtain ⟨a0, a1, b0, b1, c0, c1⟩ := h4_cells HW8.out
  go_wp2_with fail
  refine (num02_any _ _).mono ?_
  rintro e wn ⟨rfl, rfl⟩
  go_wp2_with fail
  refine (works02_any _).mono ?_
  rintro e w9 ⟨rfl, hb⟩
  have HW9 := Lib.hid (HW8.out.below hb)
  clear hb a0 a1 b0 b1 c0 c1 HW8
  go_wp2_with fail
  go_ret
  exact ⟨rfl, HW9.out.bl⟩

end Go.Proofs.Ytabpkdblcinhjaa
