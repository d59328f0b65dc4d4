/- The walk of PrefixStands (laid by tools/gen/q6.py). -/
import Derived.Test.YtabpkdblcinhjaaK4
import Derived.Test.YtabpkdblcinhjaaC8
namespace Go.Proofs.Ytabpkdblcinhjaa
open Go Go.RowKit Go.Sort
attribute [local go_sem] Oper.semAt_some
attribute [local irreducible] wpQuiet

theorem comK_unique {x n y m : Int} {k j : Nat} (h : ComK x n y m k) (g : ComK x n y m j) : k = j := by
  obtain ⟨h1, h2, h3, h4⟩ := h
  obtain ⟨g1, g2, g3, g4⟩ := g
  rcases Nat.lt_trichotomy k j with hlt | rfl | hlt
  · exact absurd (g3 k hlt) (h4 (by omega) (by omega))
  · rfl
  · exact absurd (h3 j hlt) (g4 (by omega) (by omega))
theorem refCommon_is {x n y m : Int} {k : Nat} (x0 : 0 ≤ x) (x1 : x < 4294967296) (y0 : 0 ≤ y) (y1 : y < 4294967296) (hx : right x n) (hy : right y m) (hk : ComK x n y m k) (w : World) :
    Calls Try.prog 26 #[.agg #[.int .u32 x, .int .i64 n], .agg #[.int .u32 y, .int .i64 m]] w fun e w' => e = .returned (.agg #[.int .u32 (cutTo x k), .int .i64 k]) ∧ Below w.heap.size w w' :=
  (refCommon_any x n y m x0 x1 y0 y1 hx.1 hx.2.1 hy.1 hy.2.1 w).mono fun _ _ ⟨⟨j, h1, h2, h3, h4, he⟩, hb⟩ => ⟨by
    rw [comK_unique hk (j := j) ⟨h1, h2, h3, h4⟩]; exact he, hb⟩


set_option maxRecDepth 100000 in
set_option maxHeartbeats 3200000 in
theorem law02_stands_n1 (x n y m : Int) (x0 : 0 ≤ x) (x1 : x < 4294967296) (y0 : 0 ≤ y) (y1 : y < 4294967296) (hx : ¬ right x n) (w : World) :
    Calls Try.prog 4 #[pfx x n, pfx y m] w fun e w' => e = .returned (.bool true) ∧ Below w.heap.size w w' := by
  have HS : Hid (standE x n y m = .returned (.tuple #[.int .i64 0, .int .i64 2])) := if_neg (fun e => hx e.1)
  have hno : ¬ (right x n ∧ right y m) := fun e => hx e.1
  have HN := Lib.hid hno
  have HX : Hid (decide (right x n) = false) := by show decide _ = _; simpa using hx
  clear hno hx
  go_enter Try.func4, Try.ntmps4
  go_wp2_with fail
  have hv := Below.refl w.heap.size w
  have hv := hv.alloc hv.size (.cells #[.int .u32 x, .int .i64 n] 25)
  have hv := hv.alloc hv.size (.cells #[.int .u32 y, .int .i64 m] 25)
  have xTA : Blk ((w.alloc (.cells #[.int .u32 x, .int .i64 n] 25)).alloc (.cells #[.int .u32 y, .int .i64 m] 25)) (w.heap.size) 25 #[.int .u32 x, .int .i64 n] := by
    have := (Blk.new w 25 #[.int .u32 x, .int .i64 n]).alloc (.cells #[.int .u32 y, .int .i64 m] 25)
    simpa using this
  have xTB : Blk ((w.alloc (.cells #[.int .u32 x, .int .i64 n] 25)).alloc (.cells #[.int .u32 y, .int .i64 m] 25)) (w.heap.size + 1) 25 #[.int .u32 y, .int .i64 m] := by
    have := Blk.new (w.alloc (.cells #[.int .u32 x, .int .i64 n] 25)) 25 #[.int .u32 y, .int .i64 m]
    simpa using this
  generalize hvv : ((w.alloc (.cells #[.int .u32 x, .int .i64 n] 25)).alloc (.cells #[.int .u32 y, .int .i64 m] 25)) = v1 at *
  clear hvv
  have HV := Lib.hid hv
  have TA := Lib.hid xTA
  have TB := Lib.hid xTB
  clear hv xTA xTB
  refine (stands_any x n y m x0 x1 y0 y1 _).mono ?_
  rw [HS.out]
  rintro e w1 ⟨rfl, hb⟩
  have hv := HV.out.trans (hb.mono HV.out.size)
  have xTA := TA.out.below hb TA.out.lt
  have xTB := TB.out.below hb TB.out.lt
  clear hb HV TA TB
  have HV := Lib.hid hv
  have TA := Lib.hid xTA
  have TB := Lib.hid xTB
  clear hv xTA xTB
  have kTA0 := TA.out.cell 0
  have kTA1 := TA.out.cell 1
  have kTB0 := TB.out.cell 0
  have kTB1 := TB.out.cell 1
  simp only [List.getElem?_toArray, List.getElem?_cons_zero, List.getElem?_cons_succ] at kTA0 kTA1 kTB0 kTB1
  go_wp2_with fail
  refine (common_no x n y m x0 x1 y0 y1 HN.out _).mono ?_
  rintro e w2 ⟨rfl, hb⟩
  clear kTA0 kTA1 kTB0 kTB1
  have hv := HV.out.trans (hb.mono HV.out.size)
  have xTA := TA.out.below hb TA.out.lt
  have xTB := TB.out.below hb TB.out.lt
  clear hb HV TA TB
  have HV := Lib.hid hv
  have TA := Lib.hid xTA
  have TB := Lib.hid xTB
  clear hv xTA xTB
  go_wp2_with fail
  have hv := HV.out
  have hv := hv.alloc hv.size (.cells #[.int .u32 0, .int .i64 0] 25)
  have xTA := (TA.out).alloc (.cells #[.int .u32 0, .int .i64 0] 25)
  have xTB := (TB.out).alloc (.cells #[.int .u32 0, .int .i64 0] 25)
  have xTC : Blk (w2.alloc (.cells #[.int .u32 0, .int .i64 0] 25)) (w2.heap.size) 25 #[.int .u32 0, .int .i64 0] := by
    have := Blk.new w2 25 #[.int .u32 0, .int .i64 0]
    simpa using this
  generalize hvv : (w2.alloc (.cells #[.int .u32 0, .int .i64 0] 25)) = v2 at *
  clear hvv
  generalize w2.heap.size = gTC at *
  clear HV TA TB
  have HV := Lib.hid hv
  have TA := Lib.hid xTA
  have TB := Lib.hid xTB
  have TC := Lib.hid xTC
  clear hv xTA xTB xTC
  have kTA0 := TA.out.cell 0
  have kTA1 := TA.out.cell 1
  have kTB0 := TB.out.cell 0
  have kTB1 := TB.out.cell 1
  simp only [List.getElem?_toArray, List.getElem?_cons_zero, List.getElem?_cons_succ] at kTA0 kTA1 kTB0 kTB1
  have rkTA0 := cell_regrown kTA0
  have rkTA1 := cell_regrown kTA1
  have rkTB0 := cell_regrown kTB0
  have rkTB1 := cell_regrown kTB1
  have cO : ∀ d os, Calls Try.prog 23 #[.agg #[.int .u32 x, .int .i64 n], .agg #[.int .u32 y, .int .i64 m]] (grow (redrawn v2 d) os) fun e w'' => e = .returned (.int .i64 (ordF x n y m)) ∧ ∃ p : Regrown, w'' = grow (redrawn v2 p.d) p.os := fun d os => Calls.regrown_of (order_any x n y m _)
  have cR : ∀ d os, Calls Try.prog 24 #[.agg #[.int .u32 x, .int .i64 n], .agg #[.int .u32 y, .int .i64 m]] (grow (redrawn v2 d) os) fun e w'' => e = .returned (.int .i64 (ordF x n y m)) ∧ ∃ p : Regrown, w'' = grow (redrawn v2 p.d) p.os := fun d os => Calls.regrown_of (refOrder_any x n y m _)
  clear kTA0 kTA1 kTB0 kTB1
  refine wp_region_quiet_below (by kernel_rfl) (by kernel_rfl) ?_
  repeat (quiet_step (first | (with_reducible exact cO _ _) | (with_reducible exact cR _ _)))
  refine wpQuiet_nil ?_
  intro wq hwq
  obtain ⟨⟨dq, osq⟩, rfl⟩ := hwq
  have hb := below_regrown v2 dq osq
  have hv := HV.out.trans (hb.mono HV.out.size)
  have xTA := TA.out.below hb TA.out.lt
  have xTB := TB.out.below hb TB.out.lt
  have xTC := TC.out.below hb TC.out.lt
  generalize grow (redrawn v2 dq) osq = w3 at *
  clear hb HV TA TB TC rkTA0 rkTA1 rkTB0 rkTB1 cO cR
  have HV := Lib.hid hv
  have TA := Lib.hid xTA
  have TB := Lib.hid xTB
  have TC := Lib.hid xTC
  clear hv xTA xTB xTC
  have kTA0 := TA.out.cell 0
  have kTA1 := TA.out.cell 1
  have kTB0 := TB.out.cell 0
  have kTB1 := TB.out.cell 1
  simp only [List.getElem?_toArray, List.getElem?_cons_zero, List.getElem?_cons_succ] at kTA0 kTA1 kTB0 kTB1
  go_wp2_with fail
  refine (refRight_any x n x0 x1 _).mono ?_
  rw [HX.out]
  rintro e w4 ⟨rfl, hb⟩
  clear kTA0 kTA1 kTB0 kTB1
  have hv := HV.out.trans (hb.mono HV.out.size)
  have xTA := TA.out.below hb TA.out.lt
  have xTB := TB.out.below hb TB.out.lt
  have xTC := TC.out.below hb TC.out.lt
  clear hb HV TA TB TC
  have HV := Lib.hid hv
  have TA := Lib.hid xTA
  have TB := Lib.hid xTB
  have TC := Lib.hid xTC
  clear hv xTA xTB xTC
  have kTB0 := TB.out.cell 0
  have kTB1 := TB.out.cell 1
  have kTC0 := TC.out.cell 0
  have kTC1 := TC.out.cell 1
  simp only [List.getElem?_toArray, List.getElem?_cons_zero, List.getElem?_cons_succ] at kTB0 kTB1 kTC0 kTC1
  go_wp2_with fail
  refine (num02_any _ _).mono ?_
  rintro e wn5 ⟨rfl, rfl⟩
  go_wp2_with fail
  refine (num02_any _ _).mono ?_
  rintro e wn6 ⟨rfl, rfl⟩
  go_wp2_with fail
  refine (works02_any _).mono ?_
  rintro e w7 ⟨rfl, hb⟩
  clear kTB0 kTB1 kTC0 kTC1
  have hv := HV.out.trans (hb.mono HV.out.size)
  have xTA := TA.out.below hb TA.out.lt
  have xTB := TB.out.below hb TB.out.lt
  have xTC := TC.out.below hb TC.out.lt
  clear hb HV TA TB TC
  have HV := Lib.hid hv
  have TA := Lib.hid xTA
  have TB := Lib.hid xTB
  have TC := Lib.hid xTC
  clear hv xTA xTB xTC
  go_wp2_with fail
  go_ret
  exact ⟨rfl, HV.out⟩

set_option maxRecDepth 100000 in
set_option maxHeartbeats 3200000 in
theorem law02_stands_n2 (x n y m : Int) (x0 : 0 ≤ x) (x1 : x < 4294967296) (y0 : 0 ≤ y) (y1 : y < 4294967296) (hx : right x n) (hy : ¬ right y m) (w : World) :
    Calls Try.prog 4 #[pfx x n, pfx y m] w fun e w' => e = .returned (.bool true) ∧ Below w.heap.size w w' := by
  have HS : Hid (standE x n y m = .returned (.tuple #[.int .i64 0, .int .i64 2])) := if_neg (fun e => hy e.2)
  have hno : ¬ (right x n ∧ right y m) := fun e => hy e.2
  have HN := Lib.hid hno
  have HX : Hid (decide (right x n) = true) := by show decide _ = _; simpa using hx
  have HY : Hid (decide (right y m) = false) := by show decide _ = _; simpa using hy
  clear hno hx hy
  go_enter Try.func4, Try.ntmps4
  go_wp2_with fail
  have hv := Below.refl w.heap.size w
  have hv := hv.alloc hv.size (.cells #[.int .u32 x, .int .i64 n] 25)
  have hv := hv.alloc hv.size (.cells #[.int .u32 y, .int .i64 m] 25)
  have xTA : Blk ((w.alloc (.cells #[.int .u32 x, .int .i64 n] 25)).alloc (.cells #[.int .u32 y, .int .i64 m] 25)) (w.heap.size) 25 #[.int .u32 x, .int .i64 n] := by
    have := (Blk.new w 25 #[.int .u32 x, .int .i64 n]).alloc (.cells #[.int .u32 y, .int .i64 m] 25)
    simpa using this
  have xTB : Blk ((w.alloc (.cells #[.int .u32 x, .int .i64 n] 25)).alloc (.cells #[.int .u32 y, .int .i64 m] 25)) (w.heap.size + 1) 25 #[.int .u32 y, .int .i64 m] := by
    have := Blk.new (w.alloc (.cells #[.int .u32 x, .int .i64 n] 25)) 25 #[.int .u32 y, .int .i64 m]
    simpa using this
  generalize hvv : ((w.alloc (.cells #[.int .u32 x, .int .i64 n] 25)).alloc (.cells #[.int .u32 y, .int .i64 m] 25)) = v1 at *
  clear hvv
  have HV := Lib.hid hv
  have TA := Lib.hid xTA
  have TB := Lib.hid xTB
  clear hv xTA xTB
  refine (stands_any x n y m x0 x1 y0 y1 _).mono ?_
  rw [HS.out]
  rintro e w1 ⟨rfl, hb⟩
  have hv := HV.out.trans (hb.mono HV.out.size)
  have xTA := TA.out.below hb TA.out.lt
  have xTB := TB.out.below hb TB.out.lt
  clear hb HV TA TB
  have HV := Lib.hid hv
  have TA := Lib.hid xTA
  have TB := Lib.hid xTB
  clear hv xTA xTB
  have kTA0 := TA.out.cell 0
  have kTA1 := TA.out.cell 1
  have kTB0 := TB.out.cell 0
  have kTB1 := TB.out.cell 1
  simp only [List.getElem?_toArray, List.getElem?_cons_zero, List.getElem?_cons_succ] at kTA0 kTA1 kTB0 kTB1
  go_wp2_with fail
  refine (common_no x n y m x0 x1 y0 y1 HN.out _).mono ?_
  rintro e w2 ⟨rfl, hb⟩
  clear kTA0 kTA1 kTB0 kTB1
  have hv := HV.out.trans (hb.mono HV.out.size)
  have xTA := TA.out.below hb TA.out.lt
  have xTB := TB.out.below hb TB.out.lt
  clear hb HV TA TB
  have HV := Lib.hid hv
  have TA := Lib.hid xTA
  have TB := Lib.hid xTB
  clear hv xTA xTB
  go_wp2_with fail
  have hv := HV.out
  have hv := hv.alloc hv.size (.cells #[.int .u32 0, .int .i64 0] 25)
  have xTA := (TA.out).alloc (.cells #[.int .u32 0, .int .i64 0] 25)
  have xTB := (TB.out).alloc (.cells #[.int .u32 0, .int .i64 0] 25)
  have xTC : Blk (w2.alloc (.cells #[.int .u32 0, .int .i64 0] 25)) (w2.heap.size) 25 #[.int .u32 0, .int .i64 0] := by
    have := Blk.new w2 25 #[.int .u32 0, .int .i64 0]
    simpa using this
  generalize hvv : (w2.alloc (.cells #[.int .u32 0, .int .i64 0] 25)) = v2 at *
  clear hvv
  generalize w2.heap.size = gTC at *
  clear HV TA TB
  have HV := Lib.hid hv
  have TA := Lib.hid xTA
  have TB := Lib.hid xTB
  have TC := Lib.hid xTC
  clear hv xTA xTB xTC
  have kTA0 := TA.out.cell 0
  have kTA1 := TA.out.cell 1
  have kTB0 := TB.out.cell 0
  have kTB1 := TB.out.cell 1
  simp only [List.getElem?_toArray, List.getElem?_cons_zero, List.getElem?_cons_succ] at kTA0 kTA1 kTB0 kTB1
  have rkTA0 := cell_regrown kTA0
  have rkTA1 := cell_regrown kTA1
  have rkTB0 := cell_regrown kTB0
  have rkTB1 := cell_regrown kTB1
  have cO : ∀ d os, Calls Try.prog 23 #[.agg #[.int .u32 x, .int .i64 n], .agg #[.int .u32 y, .int .i64 m]] (grow (redrawn v2 d) os) fun e w'' => e = .returned (.int .i64 (ordF x n y m)) ∧ ∃ p : Regrown, w'' = grow (redrawn v2 p.d) p.os := fun d os => Calls.regrown_of (order_any x n y m _)
  have cR : ∀ d os, Calls Try.prog 24 #[.agg #[.int .u32 x, .int .i64 n], .agg #[.int .u32 y, .int .i64 m]] (grow (redrawn v2 d) os) fun e w'' => e = .returned (.int .i64 (ordF x n y m)) ∧ ∃ p : Regrown, w'' = grow (redrawn v2 p.d) p.os := fun d os => Calls.regrown_of (refOrder_any x n y m _)
  clear kTA0 kTA1 kTB0 kTB1
  refine wp_region_quiet_below (by kernel_rfl) (by kernel_rfl) ?_
  repeat (quiet_step (first | (with_reducible exact cO _ _) | (with_reducible exact cR _ _)))
  refine wpQuiet_nil ?_
  intro wq hwq
  obtain ⟨⟨dq, osq⟩, rfl⟩ := hwq
  have hb := below_regrown v2 dq osq
  have hv := HV.out.trans (hb.mono HV.out.size)
  have xTA := TA.out.below hb TA.out.lt
  have xTB := TB.out.below hb TB.out.lt
  have xTC := TC.out.below hb TC.out.lt
  generalize grow (redrawn v2 dq) osq = w3 at *
  clear hb HV TA TB TC rkTA0 rkTA1 rkTB0 rkTB1 cO cR
  have HV := Lib.hid hv
  have TA := Lib.hid xTA
  have TB := Lib.hid xTB
  have TC := Lib.hid xTC
  clear hv xTA xTB xTC
  have kTA0 := TA.out.cell 0
  have kTA1 := TA.out.cell 1
  have kTB0 := TB.out.cell 0
  have kTB1 := TB.out.cell 1
  simp only [List.getElem?_toArray, List.getElem?_cons_zero, List.getElem?_cons_succ] at kTA0 kTA1 kTB0 kTB1
  go_wp2_with fail
  refine (refRight_any x n x0 x1 _).mono ?_
  rw [HX.out]
  rintro e w4 ⟨rfl, hb⟩
  clear kTA0 kTA1 kTB0 kTB1
  have hv := HV.out.trans (hb.mono HV.out.size)
  have xTA := TA.out.below hb TA.out.lt
  have xTB := TB.out.below hb TB.out.lt
  have xTC := TC.out.below hb TC.out.lt
  clear hb HV TA TB TC
  have HV := Lib.hid hv
  have TA := Lib.hid xTA
  have TB := Lib.hid xTB
  have TC := Lib.hid xTC
  clear hv xTA xTB xTC
  have kTB0 := TB.out.cell 0
  have kTB1 := TB.out.cell 1
  have kTC0 := TC.out.cell 0
  have kTC1 := TC.out.cell 1
  simp only [List.getElem?_toArray, List.getElem?_cons_zero, List.getElem?_cons_succ] at kTB0 kTB1 kTC0 kTC1
  go_wp2_with fail
  refine (refRight_any y m y0 y1 _).mono ?_
  rw [HY.out]
  rintro e w5 ⟨rfl, hb⟩
  clear kTB0 kTB1 kTC0 kTC1
  have hv := HV.out.trans (hb.mono HV.out.size)
  have xTA := TA.out.below hb TA.out.lt
  have xTB := TB.out.below hb TB.out.lt
  have xTC := TC.out.below hb TC.out.lt
  clear hb HV TA TB TC
  have HV := Lib.hid hv
  have TA := Lib.hid xTA
  have TB := Lib.hid xTB
  have TC := Lib.hid xTC
  clear hv xTA xTB xTC
  have kTC0 := TC.out.cell 0
  have kTC1 := TC.out.cell 1
  simp only [List.getElem?_toArray, List.getElem?_cons_zero, List.getElem?_cons_succ] at kTC0 kTC1
  go_wp2_with fail
  refine (num02_any _ _).mono ?_
  rintro e wn6 ⟨rfl, rfl⟩
  go_wp2_with fail
  refine (num02_any _ _).mono ?_
  rintro e wn7 ⟨rfl, rfl⟩
  go_wp2_with fail
  refine (works02_any _).mono ?_
  rintro e w8 ⟨rfl, hb⟩
  clear kTC0 kTC1
  have hv := HV.out.trans (hb.mono HV.out.size)
  have xTA := TA.out.below hb TA.out.lt
  have xTB := TB.out.below hb TB.out.lt
  have xTC := TC.out.below hb TC.out.lt
  clear hb HV TA TB TC
  have HV := Lib.hid hv
  have TA := Lib.hid xTA
  have TB := Lib.hid xTB
  have TC := Lib.hid xTC
  clear hv xTA xTB xTC
  go_wp2_with fail
  go_ret
  exact ⟨rfl, HV.out⟩

set_option maxRecDepth 100000 in
set_option maxHeartbeats 3200000 in
theorem law02_stands_ok (x n y m : Int) (x0 : 0 ≤ x) (x1 : x < 4294967296) (y0 : 0 ≤ y) (y1 : y < 4294967296) (hx : right x n) (hy : right y m) (w : World) :
    Calls Try.prog 4 #[pfx x n, pfx y m] w fun e w' => e = .returned (.bool true) ∧ Below w.heap.size w w' := by
  have HS : Hid (standE x n y m = .returned (.tuple #[.int .i64 (standF x n y m), .int .i64 0])) := if_pos ⟨hx, hy⟩
  have HX : Hid (decide (right x n) = true) := decide_eq_true hx
  have HY : Hid (decide (right y m) = true) := decide_eq_true hy
  have HRX := Lib.hid hx
  have HRY := Lib.hid hy
  clear hx hy
  go_enter Try.func4, Try.ntmps4
  go_wp2_with fail
  have hv := Below.refl w.heap.size w
  have hv := hv.alloc hv.size (.cells #[.int .u32 x, .int .i64 n] 25)
  have hv := hv.alloc hv.size (.cells #[.int .u32 y, .int .i64 m] 25)
  have xTA : Blk ((w.alloc (.cells #[.int .u32 x, .int .i64 n] 25)).alloc (.cells #[.int .u32 y, .int .i64 m] 25)) (w.heap.size) 25 #[.int .u32 x, .int .i64 n] := by
    have := (Blk.new w 25 #[.int .u32 x, .int .i64 n]).alloc (.cells #[.int .u32 y, .int .i64 m] 25)
    simpa using this
  have xTB : Blk ((w.alloc (.cells #[.int .u32 x, .int .i64 n] 25)).alloc (.cells #[.int .u32 y, .int .i64 m] 25)) (w.heap.size + 1) 25 #[.int .u32 y, .int .i64 m] := by
    have := Blk.new (w.alloc (.cells #[.int .u32 x, .int .i64 n] 25)) 25 #[.int .u32 y, .int .i64 m]
    simpa using this
  generalize hvv : ((w.alloc (.cells #[.int .u32 x, .int .i64 n] 25)).alloc (.cells #[.int .u32 y, .int .i64 m] 25)) = v1 at *
  clear hvv
  have HV := Lib.hid hv
  have TA := Lib.hid xTA
  have TB := Lib.hid xTB
  clear hv xTA xTB
  refine (stands_any x n y m x0 x1 y0 y1 _).mono ?_
  rw [HS.out]
  rintro e w1 ⟨rfl, hb⟩
  have hv := HV.out.trans (hb.mono HV.out.size)
  have xTA := TA.out.below hb TA.out.lt
  have xTB := TB.out.below hb TB.out.lt
  clear hb HV TA TB
  have HV := Lib.hid hv
  have TA := Lib.hid xTA
  have TB := Lib.hid xTB
  clear hv xTA xTB
  have kTA0 := TA.out.cell 0
  have kTA1 := TA.out.cell 1
  have kTB0 := TB.out.cell 0
  have kTB1 := TB.out.cell 1
  simp only [List.getElem?_toArray, List.getElem?_cons_zero, List.getElem?_cons_succ] at kTA0 kTA1 kTB0 kTB1
  go_wp2_with fail
  refine (common_any x n y m x0 x1 y0 y1 HRX.out HRY.out _).mono ?_
  rintro e w2 ⟨⟨k, hk, rfl⟩, hb⟩
  clear kTA0 kTA1 kTB0 kTB1
  have hv := HV.out.trans (hb.mono HV.out.size)
  have xTA := TA.out.below hb TA.out.lt
  have xTB := TB.out.below hb TB.out.lt
  clear hb HV TA TB
  have HV := Lib.hid hv
  have TA := Lib.hid xTA
  have TB := Lib.hid xTB
  clear hv xTA xTB
  go_wp2_with fail
  have HK := Lib.hid hk
  clear hk
  have hv := HV.out
  have hv := hv.alloc hv.size (.cells #[.int .u32 (cutTo x k), .int .i64 k] 25)
  have xTA := (TA.out).alloc (.cells #[.int .u32 (cutTo x k), .int .i64 k] 25)
  have xTB := (TB.out).alloc (.cells #[.int .u32 (cutTo x k), .int .i64 k] 25)
  have xTC : Blk (w2.alloc (.cells #[.int .u32 (cutTo x k), .int .i64 k] 25)) (w2.heap.size) 25 #[.int .u32 (cutTo x k), .int .i64 k] := by
    have := Blk.new w2 25 #[.int .u32 (cutTo x k), .int .i64 k]
    simpa using this
  generalize hvv : (w2.alloc (.cells #[.int .u32 (cutTo x k), .int .i64 k] 25)) = v2 at *
  clear hvv
  generalize w2.heap.size = gTC at *
  clear HV TA TB
  have HV := Lib.hid hv
  have TA := Lib.hid xTA
  have TB := Lib.hid xTB
  have TC := Lib.hid xTC
  clear hv xTA xTB xTC
  have kTA0 := TA.out.cell 0
  have kTA1 := TA.out.cell 1
  have kTB0 := TB.out.cell 0
  have kTB1 := TB.out.cell 1
  simp only [List.getElem?_toArray, List.getElem?_cons_zero, List.getElem?_cons_succ] at kTA0 kTA1 kTB0 kTB1
  have rkTA0 := cell_regrown kTA0
  have rkTA1 := cell_regrown kTA1
  have rkTB0 := cell_regrown kTB0
  have rkTB1 := cell_regrown kTB1
  have cO : ∀ d os, Calls Try.prog 23 #[.agg #[.int .u32 x, .int .i64 n], .agg #[.int .u32 y, .int .i64 m]] (grow (redrawn v2 d) os) fun e w'' => e = .returned (.int .i64 (ordF x n y m)) ∧ ∃ p : Regrown, w'' = grow (redrawn v2 p.d) p.os := fun d os => Calls.regrown_of (order_any x n y m _)
  have cR : ∀ d os, Calls Try.prog 24 #[.agg #[.int .u32 x, .int .i64 n], .agg #[.int .u32 y, .int .i64 m]] (grow (redrawn v2 d) os) fun e w'' => e = .returned (.int .i64 (ordF x n y m)) ∧ ∃ p : Regrown, w'' = grow (redrawn v2 p.d) p.os := fun d os => Calls.regrown_of (refOrder_any x n y m _)
  clear kTA0 kTA1 kTB0 kTB1
  refine wp_region_quiet_below (by kernel_rfl) (by kernel_rfl) ?_
  repeat (quiet_step (first | (with_reducible exact cO _ _) | (with_reducible exact cR _ _)))
  refine wpQuiet_nil ?_
  intro wq hwq
  obtain ⟨⟨dq, osq⟩, rfl⟩ := hwq
  have hb := below_regrown v2 dq osq
  have hv := HV.out.trans (hb.mono HV.out.size)
  have xTA := TA.out.below hb TA.out.lt
  have xTB := TB.out.below hb TB.out.lt
  have xTC := TC.out.below hb TC.out.lt
  generalize grow (redrawn v2 dq) osq = w3 at *
  clear hb HV TA TB TC rkTA0 rkTA1 rkTB0 rkTB1 cO cR
  have HV := Lib.hid hv
  have TA := Lib.hid xTA
  have TB := Lib.hid xTB
  have TC := Lib.hid xTC
  clear hv xTA xTB xTC
  have kTA0 := TA.out.cell 0
  have kTA1 := TA.out.cell 1
  have kTB0 := TB.out.cell 0
  have kTB1 := TB.out.cell 1
  simp only [List.getElem?_toArray, List.getElem?_cons_zero, List.getElem?_cons_succ] at kTA0 kTA1 kTB0 kTB1
  go_wp2_with fail
  refine (refRight_any x n x0 x1 _).mono ?_
  rw [HX.out]
  rintro e w4 ⟨rfl, hb⟩
  clear kTA0 kTA1 kTB0 kTB1
  have hv := HV.out.trans (hb.mono HV.out.size)
  have xTA := TA.out.below hb TA.out.lt
  have xTB := TB.out.below hb TB.out.lt
  have xTC := TC.out.below hb TC.out.lt
  clear hb HV TA TB TC
  have HV := Lib.hid hv
  have TA := Lib.hid xTA
  have TB := Lib.hid xTB
  have TC := Lib.hid xTC
  clear hv xTA xTB xTC
  have kTB0 := TB.out.cell 0
  have kTB1 := TB.out.cell 1
  simp only [List.getElem?_toArray, List.getElem?_cons_zero, List.getElem?_cons_succ] at kTB0 kTB1
  go_wp2_with fail
  refine (refRight_any y m y0 y1 _).mono ?_
  rw [HY.out]
  rintro e w5 ⟨rfl, hb⟩
  clear kTB0 kTB1
  have hv := HV.out.trans (hb.mono HV.out.size)
  have xTA := TA.out.below hb TA.out.lt
  have xTB := TB.out.below hb TB.out.lt
  have xTC := TC.out.below hb TC.out.lt
  clear hb HV TA TB TC
  have HV := Lib.hid hv
  have TA := Lib.hid xTA
  have TB := Lib.hid xTB
  have TC := Lib.hid xTC
  clear hv xTA xTB xTC
  go_wp2_with fail
  have kTA0 := TA.out.cell 0
  have kTA1 := TA.out.cell 1
  have kTB0 := TB.out.cell 0
  have kTB1 := TB.out.cell 1
  have kTC0 := TC.out.cell 0
  have kTC1 := TC.out.cell 1
  simp only [List.getElem?_toArray, List.getElem?_cons_zero, List.getElem?_cons_succ] at kTA0 kTA1 kTB0 kTB1 kTC0 kTC1
  have rkTA0 := cell_regrown kTA0
  have rkTA1 := cell_regrown kTA1
  have rkTB0 := cell_regrown kTB0
  have rkTB1 := cell_regrown kTB1
  have rkTC0 := cell_regrown kTC0
  have rkTC1 := cell_regrown kTC1
  have cS : ∀ d os, Calls Try.prog 25 #[.agg #[.int .u32 x, .int .i64 n], .agg #[.int .u32 y, .int .i64 m]] (grow (redrawn w5 d) os) fun e w'' => e = .returned (.int .i64 (standF x n y m)) ∧ ∃ p : Regrown, w'' = grow (redrawn w5 p.d) p.os := fun d os => Calls.regrown_of (refStands_any x n y m x0 x1 y0 y1 _)
  have cC : ∀ d os, Calls Try.prog 26 #[.agg #[.int .u32 x, .int .i64 n], .agg #[.int .u32 y, .int .i64 m]] (grow (redrawn w5 d) os) fun e w'' => e = .returned (.agg #[.int .u32 (cutTo x k), .int .i64 k]) ∧ ∃ p : Regrown, w'' = grow (redrawn w5 p.d) p.os := fun d os => Calls.regrown_of (refCommon_is x0 x1 y0 y1 HRX.out HRY.out HK.out _)
  have cN : ∀ (n : Int) d os, Calls Try.prog 11 #[.int .i64 n] (grow (redrawn w5 d) os) fun e w'' => e = .returned (.int .i64 n) ∧ ∃ p : Regrown, w'' = grow (redrawn w5 p.d) p.os := fun n d os => Calls.regrown_of ((num02_any n _).mono fun _ _ ⟨he, hw⟩ => ⟨he, by rw [← hw]; exact Below.refl _ _⟩)
  have cW : ∀ d os, Calls Try.prog 18 #[] (grow (redrawn w5 d) os) fun e w'' => e = .returned (.bool true) ∧ ∃ p : Regrown, w'' = grow (redrawn w5 p.d) p.os := fun d os => Calls.regrown_of (works02_any _)
  clear kTA0 kTA1 kTB0 kTB1 kTC0 kTC1
  refine wp_region_quiet_below (by kernel_rfl) (by kernel_rfl) ?_
  repeat (quiet_step (first | (with_reducible exact cS _ _) | (with_reducible exact cC _ _) | (with_reducible exact cN _ _ _) | (with_reducible exact cW _ _)))
  refine wpQuiet_nil ?_
  intro wq hwq
  obtain ⟨⟨dq, osq⟩, rfl⟩ := hwq
  have hb := below_regrown w5 dq osq
  have hv := HV.out.trans (hb.mono HV.out.size)
  have xTA := TA.out.below hb TA.out.lt
  have xTB := TB.out.below hb TB.out.lt
  have xTC := TC.out.below hb TC.out.lt
  generalize grow (redrawn w5 dq) osq = w6 at *
  clear hb HV TA TB TC rkTA0 rkTA1 rkTB0 rkTB1 rkTC0 rkTC1 cS cC cN cW
  have HV := Lib.hid hv
  have TA := Lib.hid xTA
  have TB := Lib.hid xTB
  have TC := Lib.hid xTC
  clear hv xTA xTB xTC
  go_wp2_with fail
  go_ret
  exact ⟨rfl, HV.out⟩

theorem law02_stands (x n y m : Int) (x0 : 0 ≤ x) (x1 : x < 4294967296) (y0 : 0 ≤ y) (y1 : y < 4294967296) (w : World) :
    Calls Try.prog 4 #[pfx x n, pfx y m] w fun e w' => e = .returned (.bool true) ∧ Below w.heap.size w w' := by
  by_cases hx : right x n
  · by_cases hy : right y m
    · exact law02_stands_ok x n y m x0 x1 y0 y1 hx hy w
    · exact law02_stands_n2 x n y m x0 x1 y0 y1 hx hy w
  · exact law02_stands_n1 x n y m x0 x1 y0 y1 hx w
end Go.Proofs.Ytabpkdblcinhjaa
