/- Contract of layer 2's rows of examples: works. -/
import Derived.Test.YtabpkdblcinhjaaDoorK3
import Derived.Test.YtabpkdblcinhjaaDoorH3
namespace Go.Proofs.YtabpkdblcinhjaaDoor
open Go Go.RowKit Go.Sort
attribute [local go_sem] Oper.semAt_some
attribute [local irreducible] wpQuiet

theorem ofRow2 (w : World) : Calls Tryd.prog 11 #[.int .u32 167772423, .int .i64 24] w fun e w' => e = .returned (.tuple #[.agg #[.int .u32 167772416, .int .i64 24], .int .i64 0]) ∧ Below w.heap.size w w' :=
  (of2_any 167772423 24 (by omega) (by omega) w).mono fun _ _ ⟨he, hb⟩ => ⟨he.trans (by rw [show ofA 167772423 24 = 167772416 by decide, show ofL 24 = 24 by decide, show okA 24 = 0 by decide]), hb⟩
theorem maskRow2 (w : World) : Calls Tryd.prog 12 #[.int .i64 20] w fun e w' => e = .returned (.tuple #[.int .u32 4294963200, .int .i64 0]) ∧ w = w' :=
  (mask_any 20 w).mono fun _ _ ⟨he, hb⟩ => ⟨he.trans (by rw [show maskA 20 = 4294963200 by decide, show okA 20 = 0 by decide]), hb⟩
theorem lenRow1 (w : World) : Calls Tryd.prog 13 #[.int .u32 4294963200] w fun e w' => e = .returned (.tuple #[.int .i64 20, .int .i64 0]) ∧ w = w' :=
  (len2_any 4294963200 (by omega) (by omega) w).mono fun _ _ ⟨he, hb⟩ => ⟨by
    rcases he with ⟨k, hk, h, rfl⟩ | ⟨h, _⟩
    · obtain rfl : k = 20 := maskOf_inj k 20 hk (by omega) (h.trans (by decide))
      rfl
    · exact absurd (show maskOf 20 = 4294963200 by decide) (h 20 (by omega)), hb⟩
theorem lenRow2 (w : World) : Calls Tryd.prog 13 #[.int .u32 4278255360] w fun e w' => e = .returned (.tuple #[.int .i64 0, .int .i64 120]) ∧ w = w' :=
  (len2_any 4278255360 (by omega) (by omega) w).mono fun _ _ ⟨he, hb⟩ => ⟨by
    rcases he with ⟨k, hk, h, rfl⟩ | ⟨_, h⟩
    · exact absurd h ((show ∀ k, k ≤ 32 → maskOf k ≠ 4278255360 by decide) k hk)
    · exact h, hb⟩
theorem standsRow (w : World) : Calls Tryd.prog 14 #[.agg #[.int .u32 167772160, .int .i64 8], .agg #[.int .u32 167837696, .int .i64 16]] w fun e w' => e = .returned (.tuple #[.int .i64 3, .int .i64 0]) ∧ Below w.heap.size w w' :=
  (stands_any 167772160 8 167837696 16 (by omega) (by omega) (by omega) (by omega) w).mono fun _ _ ⟨he, hb⟩ => ⟨he.trans (by unfold standE; rw [if_pos (by decide), show standF 167772160 8 167837696 16 = 3 by decide]), hb⟩
theorem comK_row : ∀ k : Nat, k ≤ 16 → ComK 167772160 16 167837696 16 k → k = 15 := by
  unfold ComK; decide
theorem commonRow (w : World) : Calls Tryd.prog 16 #[.agg #[.int .u32 167772160, .int .i64 16], .agg #[.int .u32 167837696, .int .i64 16]] w fun e w' => e = .returned (.tuple #[.agg #[.int .u32 167772160, .int .i64 15], .int .i64 0]) ∧ Below w.heap.size w w' :=
  (common_any 167772160 16 167837696 16 (by omega) (by omega) (by omega) (by omega) (by decide) (by decide) w).mono fun _ _ ⟨he, hb⟩ => ⟨by
    obtain ⟨k, hk, rfl⟩ := he
    obtain rfl := comK_row k (by have := hk.1; omega) hk
    rw [show cutTo 167772160 15 = 167772160 by decide]
    rfl, hb⟩
theorem pparseRow1 (w : World) : Calls Tryd.prog 6 #[.string ⟨#[49, 48, 46, 48, 46, 48, 46, 48, 47, 56]⟩] w fun e w' => e = .returned (.tuple #[.agg #[.int .u32 167772160, .int .i64 8], .int .i64 0]) ∧ Below w.heap.size w w' :=
  (pparse_any ⟨#[49, 48, 46, 48, 46, 48, 46, 48, 47, 56]⟩ w).mono fun _ _ ⟨he, hb⟩ => ⟨he.trans (show pparseEnd [49, 48, 46, 48, 46, 48, 46, 48, 47, 56] = _ by unfold pparseEnd; rw [show pparse [49, 48, 46, 48, 46, 48, 46, 48, 47, 56] = some (167772160, 8) by decide]), hb⟩
theorem pparseRow2 (w : World) : Calls Tryd.prog 6 #[.string ⟨#[49, 48, 46, 48, 46, 48, 46, 49, 47, 56]⟩] w fun e w' => e = .returned (.tuple #[.agg #[.int .u32 0, .int .i64 0], .int .i64 120]) ∧ Below w.heap.size w w' :=
  (pparse_any ⟨#[49, 48, 46, 48, 46, 48, 46, 49, 47, 56]⟩ w).mono fun _ _ ⟨he, hb⟩ => ⟨he.trans (show pparseEnd [49, 48, 46, 48, 46, 48, 46, 49, 47, 56] = _ by unfold pparseEnd; rw [show pparse [49, 48, 46, 48, 46, 48, 46, 49, 47, 56] = none by decide]), hb⟩
theorem pparseRow3 (w : World) : Calls Tryd.prog 6 #[.string ⟨#[49, 48, 46, 48, 46, 48, 46, 48, 47, 48, 56]⟩] w fun e w' => e = .returned (.tuple #[.agg #[.int .u32 0, .int .i64 0], .int .i64 120]) ∧ Below w.heap.size w w' :=
  (pparse_any ⟨#[49, 48, 46, 48, 46, 48, 46, 48, 47, 48, 56]⟩ w).mono fun _ _ ⟨he, hb⟩ => ⟨he.trans (show pparseEnd [49, 48, 46, 48, 46, 48, 46, 48, 47, 48, 56] = _ by unfold pparseEnd; rw [show pparse [49, 48, 46, 48, 46, 48, 46, 48, 47, 48, 56] = none by decide]), hb⟩
theorem hasRow (w : World) : Calls Tryd.prog 17 #[.agg #[.int .u32 0, .int .i64 0], .int .u32 16909060] w fun e w' => e = .returned (.bool true) ∧ Below w.heap.size w w' :=
  (has2_any 0 0 16909060 (by omega) (by omega) w).mono fun _ _ ⟨he, hb⟩ => ⟨he.trans (by rw [show decide (hasP 0 0 16909060) = true by decide]), hb⟩
theorem checkRow (w : World) : Calls Tryd.prog 18 #[.agg #[.int .u32 167772160, .int .i64 33]] w fun e w' => e = .returned (.int .i64 2) ∧ Below w.heap.size w w' :=
  (check_any 167772160 33 (by omega) (by omega) w).mono fun _ _ ⟨he, hb⟩ => ⟨he.trans (by rw [show chk 167772160 33 = 2 by decide]), hb⟩
theorem of02Row (x n : Int) (w : World) : Calls Tryd.prog 15 #[.int .u32 x, .int .i64 n] w fun e w' => e = .returned (.agg #[.int .u32 x, .int .i64 n]) ∧ Below w.heap.size w w' := of02_any x n w

set_option maxRecDepth 100000 in
set_option maxHeartbeats 32000000 in
theorem works02_any (w : World) :
    Calls Tryd.prog 4 #[] w fun e w' => e = .returned (.bool true) ∧ Below w.heap.size w w' := by
  go_enter Tryd.func4, Tryd.ntmps4
  go_wp2_with fail
  refine (ofRow2 _).mono ?_
  rintro e w1 ⟨rfl, hb⟩
  have HB := Lib.hid hb
  clear hb
  go_wp2_with fail
  refine (maskRow2 _).mono ?_
  rintro e w2 ⟨rfl, rfl⟩
  have ba := Blk.new w1 25 #[.int .u32 167772416, .int .i64 24]
  have hbw : Below w.heap.size w (w1.alloc (.cells #[.int .u32 167772416, .int .i64 24] 25)) := HB.out.alloc HB.out.size _
  generalize w1.heap.size = ga at *
  generalize (w1.alloc (.cells #[.int .u32 167772416, .int .i64 24] 25)) = v1 at *
  have HA := Lib.hid ba
  have HV := Lib.hid hbw
  clear ba hbw HB
  go_wp2_with fail
  refine (lenRow1 _).mono ?_
  rintro e w2 ⟨rfl, rfl⟩
  go_wp2_with fail
  refine (lenRow2 _).mono ?_
  rintro e w2 ⟨rfl, rfl⟩
  go_wp2_with fail
  refine (of02Row _ _ _).mono ?_
  rintro e v2 ⟨rfl, hb⟩
  have hv' := HV.out.trans (hb.mono HV.out.size)
  have bHA := HA.out.below hb HA.out.lt
  clear hb HV HA
  have HV := Lib.hid hv'
  have HA := Lib.hid bHA
  clear hv' bHA
  go_wp2_with fail
  refine (of02Row _ _ _).mono ?_
  rintro e v3 ⟨rfl, hb⟩
  have hv' := HV.out.trans (hb.mono HV.out.size)
  have bHA := HA.out.below hb HA.out.lt
  clear hb HV HA
  have HV := Lib.hid hv'
  have HA := Lib.hid bHA
  clear hv' bHA
  go_wp2_with fail
  refine (standsRow _).mono ?_
  rintro e v4 ⟨rfl, hb⟩
  have hv' := HV.out.trans (hb.mono HV.out.size)
  have bHA := HA.out.below hb HA.out.lt
  clear hb HV HA
  have HV := Lib.hid hv'
  have HA := Lib.hid bHA
  clear hv' bHA
  go_wp2_with fail
  refine (of02Row _ _ _).mono ?_
  rintro e v5 ⟨rfl, hb⟩
  have hv' := HV.out.trans (hb.mono HV.out.size)
  have bHA := HA.out.below hb HA.out.lt
  clear hb HV HA
  have HV := Lib.hid hv'
  have HA := Lib.hid bHA
  clear hv' bHA
  go_wp2_with fail
  refine (of02Row _ _ _).mono ?_
  rintro e v6 ⟨rfl, hb⟩
  have hv' := HV.out.trans (hb.mono HV.out.size)
  have bHA := HA.out.below hb HA.out.lt
  clear hb HV HA
  have HV := Lib.hid hv'
  have HA := Lib.hid bHA
  clear hv' bHA
  go_wp2_with fail
  refine (commonRow _).mono ?_
  rintro e v7 ⟨rfl, hb⟩
  have hv' := HV.out.trans (hb.mono HV.out.size)
  have bHA := HA.out.below hb HA.out.lt
  clear hb HV HA
  have HV := Lib.hid hv'
  have HA := Lib.hid bHA
  clear hv' bHA
  go_wp2_with fail
  refine (pparseRow1 _).mono ?_
  rintro e v8 ⟨rfl, hb⟩
  have bc := (Blk.new v7 25 #[.int .u32 167772160, .int .i64 15]).below hb (by simp)
  have ba := (HA.out.alloc (.cells #[.int .u32 167772160, .int .i64 15] 25)).below hb (by have := HA.out.lt; simp; omega)
  have hv' := (HV.out.alloc HV.out.size (.cells #[.int .u32 167772160, .int .i64 15] 25)).trans (hb.mono (by have := HV.out.size; simp; omega))
  generalize v7.heap.size = gc at *
  clear hb HV HA
  have HV := Lib.hid hv'
  have HA := Lib.hid ba
  have HC := Lib.hid bc
  clear hv' ba bc
  go_wp2_with fail
  refine (pparseRow2 _).mono ?_
  rintro e v9 ⟨rfl, hb⟩
  have bp := (Blk.new v8 25 #[.int .u32 167772160, .int .i64 8]).below hb (by simp)
  have ba := (HA.out.alloc (.cells #[.int .u32 167772160, .int .i64 8] 25)).below hb (by have := HA.out.lt; simp; omega)
  have bc := (HC.out.alloc (.cells #[.int .u32 167772160, .int .i64 8] 25)).below hb (by have := HC.out.lt; simp; omega)
  have hv' := (HV.out.alloc HV.out.size (.cells #[.int .u32 167772160, .int .i64 8] 25)).trans (hb.mono (by have := HV.out.size; simp; omega))
  generalize v8.heap.size = gp at *
  clear hb HV HA HC
  have HV := Lib.hid hv'
  have HA := Lib.hid ba
  have HC := Lib.hid bc
  have HP := Lib.hid bp
  clear hv' ba bc bp
  go_wp2_with fail
  refine (pparseRow3 _).mono ?_
  rintro e v10 ⟨rfl, hb⟩
  have bp := (HP.out.alloc (.cells #[.int .u32 0, .int .i64 0] 25)).below hb (by have := HP.out.lt; simp; omega)
  have ba := (HA.out.alloc (.cells #[.int .u32 0, .int .i64 0] 25)).below hb (by have := HA.out.lt; simp; omega)
  have bc := (HC.out.alloc (.cells #[.int .u32 0, .int .i64 0] 25)).below hb (by have := HC.out.lt; simp; omega)
  have hv' := (HV.out.alloc HV.out.size (.cells #[.int .u32 0, .int .i64 0] 25)).trans (hb.mono (by have := HV.out.size; simp; omega))
  clear hb HV HA HC HP
  have HV := Lib.hid hv'
  have HA := Lib.hid ba
  have HC := Lib.hid bc
  have HP := Lib.hid bp
  clear hv' ba bc bp
  go_wp2_with fail
  have hz : Below w.heap.size w (v10.alloc (.cells #[.int .u32 0, .int .i64 0] 25)) := HV.out.alloc HV.out.size _
  have ba := HA.out.alloc (.cells #[.int .u32 0, .int .i64 0] 25)
  have bc := HC.out.alloc (.cells #[.int .u32 0, .int .i64 0] 25)
  have bp := HP.out.alloc (.cells #[.int .u32 0, .int .i64 0] 25)
  generalize (v10.alloc (.cells #[.int .u32 0, .int .i64 0] 25)) = W at *
  generalize v10.heap.size = z10 at *
  generalize v9.heap.size = z9 at *
  have a0 := ba.cell 0
  have a1 := ba.cell 1
  have c0 := bc.cell 0
  have c1 := bc.cell 1
  have p0 := bp.cell 0
  have p1 := bp.cell 1
  simp only [List.getElem?_toArray, List.getElem?_cons_zero, List.getElem?_cons_succ] at a0 a1 c0 c1 p0 p1
  have ka0 := cell_regrown a0
  have ka1 := cell_regrown a1
  have kc0 := cell_regrown c0
  have kc1 := cell_regrown c1
  have kp0 := cell_regrown p0
  have kp1 := cell_regrown p1
  have cN : ∀ (n : Int) d os, Calls Tryd.prog 8 #[.int .i64 n] (grow (redrawn W d) os) fun e w'' => e = .returned (.int .i64 n) ∧ ∃ p : Regrown, w'' = grow (redrawn W p.d) p.os := fun n d os => Calls.regrown_of ((num02_any n _).mono fun _ _ ⟨he, hw⟩ => ⟨he, by rw [← hw]; exact Below.refl _ _⟩)
  have cO : ∀ (x n : Int) d os, Calls Tryd.prog 15 #[.int .u32 x, .int .i64 n] (grow (redrawn W d) os) fun e w'' => e = .returned (.agg #[.int .u32 x, .int .i64 n]) ∧ ∃ p : Regrown, w'' = grow (redrawn W p.d) p.os := fun x n d os => Calls.regrown_of (of02Row x n _)
  have cH : ∀ d os, Calls Tryd.prog 17 #[.agg #[.int .u32 0, .int .i64 0], .int .u32 16909060] (grow (redrawn W d) os) fun e w'' => e = .returned (.bool true) ∧ ∃ p : Regrown, w'' = grow (redrawn W p.d) p.os := fun d os => Calls.regrown_of (hasRow _)
  have cK : ∀ d os, Calls Tryd.prog 18 #[.agg #[.int .u32 167772160, .int .i64 33]] (grow (redrawn W d) os) fun e w'' => e = .returned (.int .i64 2) ∧ ∃ p : Regrown, w'' = grow (redrawn W p.d) p.os := fun d os => Calls.regrown_of (checkRow _)
  have HZ := Lib.hid hz
  clear HV HA HC HP hz ba bc bp a0 a1 c0 c1 p0 p1
  refine wp_region_quiet_below (by kernel_rfl) (by kernel_rfl) ?_
  simp only [List.append_eq, List.cons_append, List.nil_append]
  repeat (go_big_quiet_step (first | (with_reducible exact cN _ _ _) | (with_reducible exact cO _ _ _ _) | (with_reducible exact cH _ _) | (with_reducible exact cK _ _)))
  refine wpQuiet_nil ?_
  intro w2 hw2
  obtain ⟨⟨dq, osq⟩, rfl⟩ := hw2
  have HB4 := Lib.hid (HZ.out.trans ((below_regrown W dq osq).mono HZ.out.size))
  generalize grow (redrawn W dq) osq = w4 at *
  clear ka0 ka1 kc0 kc1 kp0 kp1 cN cO cH cK
  go_wp2_with fail
  go_ret
  exact ⟨rfl, HB4.out⟩
end Go.Proofs.YtabpkdblcinhjaaDoor
