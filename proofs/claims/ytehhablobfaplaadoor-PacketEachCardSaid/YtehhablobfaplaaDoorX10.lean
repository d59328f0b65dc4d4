/- Layer 5's reference: AsksAll, Decode. -/
import Derived.Test.YtehhablobfaplaaDoorX9
namespace Go.Proofs.YtehhablobfaplaaDoor
open Go Go.RowKit Go.Shelf Go.Sort
attribute [local go_sem] Oper.semAt_some
attribute [local irreducible] wpQuiet

set_option maxRecDepth 100000 in
set_option maxHeartbeats 1600000 in
theorem refAsksAll_a (c : Int) (A : Option Addr) (ca : Nat) (l : List Ent) (w : World) (hc : ¬ c = 1) :
    Calls Tryd.prog 13 #[datV c A l.length ca] w fun e w' => e = .returned (.bool (decide (c = 1 ∧ l = [allE]))) ∧ Below w.heap.size w w' := by
  have hb0 : Below w.heap.size w (w.alloc (.cells #[.int .i64 c, .slice A l.length ca] 25)) := (Below.refl _ _).alloc (Nat.le_refl _) _
  have hbl : Blk (w.alloc (.cells #[.int .i64 c, .slice A l.length ca] 25)) w.heap.size 25 #[.int .i64 c, .slice A l.length ca] := Blk.new _ _ _
  have HB0 := Lib.hid hb0
  have hd : decide (c = 1 ∧ l = [allE]) = false := by simp [hc]
  rw [hd]
  clear hd
  have k0 := hbl.cell 0
  have k1 := hbl.cell 1
  simp only [List.getElem?_toArray, List.getElem?_cons_zero, List.getElem?_cons_succ] at k0 k1
  clear hb0 hbl
  go_enter Tryd.func13, Tryd.ntmps13
  go_wp2_with fail
  generalize (w.alloc (.cells #[.int .i64 c, .slice A l.length ca] 25)) = W0 at *
  have r0 := cell_regrown k0
  have r1 := cell_regrown k1
  refine wp_region_quiet_below (by kernel_rfl) (by kernel_rfl) ?_
  try simp only [List.append_eq, List.cons_append, List.nil_append]
  repeat (quiet_step (first | fail))
  refine wpQuiet_nil ?_
  intro wq hwq
  obtain ⟨⟨dq, osq⟩, rfl⟩ := hwq
  have hb := below_regrown W0 dq osq
  have HBF := Lib.hid (HB0.out.trans (hb.mono HB0.out.size))
  generalize grow (redrawn W0 dq) osq = w1 at *
  clear hb r0 r1 
  go_wp2_with fail
  go_ret
  exact ⟨rfl, HBF.out⟩

set_option maxRecDepth 100000 in
set_option maxHeartbeats 1600000 in
theorem refAsksAll_b (c : Int) (A : Option Addr) (ca : Nat) (l : List Ent) (w : World) (hc : c = 1) (hz : ¬ l.length = 1) :
    Calls Tryd.prog 13 #[datV c A l.length ca] w fun e w' => e = .returned (.bool (decide (c = 1 ∧ l = [allE]))) ∧ Below w.heap.size w w' := by
  have hb0 : Below w.heap.size w (w.alloc (.cells #[.int .i64 c, .slice A l.length ca] 25)) := (Below.refl _ _).alloc (Nat.le_refl _) _
  have hbl : Blk (w.alloc (.cells #[.int .i64 c, .slice A l.length ca] 25)) w.heap.size 25 #[.int .i64 c, .slice A l.length ca] := Blk.new _ _ _
  have HB0 := Lib.hid hb0
  have hd : decide (c = 1 ∧ l = [allE]) = false := decide_eq_false (fun h => hz (by rw [h.2]; rfl))
  rw [hd]
  subst hc
  have hz2 : ((l.length : Int) == 1) = false := by simpa using fun e : (l.length : Int) = 1 => hz (by omega)
  have hz3 : ¬ (l.length : Int) = 1 := by omega
  clear hd
  have k0 := hbl.cell 0
  have k1 := hbl.cell 1
  simp only [List.getElem?_toArray, List.getElem?_cons_zero, List.getElem?_cons_succ] at k0 k1
  clear hb0 hbl
  go_enter Tryd.func13, Tryd.ntmps13
  go_wp2_with fail
  generalize (w.alloc (.cells #[.int .i64 1, .slice A l.length ca] 25)) = W0 at *
  have r0 := cell_regrown k0
  have r1 := cell_regrown k1
  refine wp_region_quiet_below (by kernel_rfl) (by kernel_rfl) ?_
  try simp only [List.append_eq, List.cons_append, List.nil_append]
  repeat (quiet_step (first | fail))
  refine wpQuiet_nil ?_
  intro wq hwq
  obtain ⟨⟨dq, osq⟩, rfl⟩ := hwq
  have hb := below_regrown W0 dq osq
  have HBF := Lib.hid (HB0.out.trans (hb.mono HB0.out.size))
  generalize grow (redrawn W0 dq) osq = w1 at *
  clear hb r0 r1 
  go_wp2_with fail
  go_ret
  exact ⟨rfl, HBF.out⟩

set_option maxRecDepth 100000 in
set_option maxHeartbeats 1600000 in
theorem refAsksAll_c (c : Int) (A : Option Addr) (ca : Nat) (l : List Ent) (w : World) (hA : EntS w A l) (hc : c = 1) (hz : l.length = 1) :
    Calls Tryd.prog 13 #[datV c A l.length ca] w fun e w' => e = .returned (.bool (decide (c = 1 ∧ l = [allE]))) ∧ Below w.heap.size w w' := by
  have hb0 : Below w.heap.size w (w.alloc (.cells #[.int .i64 c, .slice A l.length ca] 25)) := (Below.refl _ _).alloc (Nat.le_refl _) _
  have hbl : Blk (w.alloc (.cells #[.int .i64 c, .slice A l.length ca] 25)) w.heap.size 25 #[.int .i64 c, .slice A l.length ca] := Blk.new _ _ _
  have HB0 := Lib.hid hb0
  clear HB0
  rw [hz] at hb0 hbl
  have HB0 := Lib.hid hb0
  obtain ⟨b, o, rfl, hbx, d0, d1, d2, d3, d4, d5⟩ := (hA.below hb0).at (j := 0) (by omega)
  subst hc
  have hzl : ((l.length : Nat) : Int) = 1 := by omega
  have hd : decide ((1 : Int) = 1 ∧ l = [allE]) = decide (l[0]'(by omega) = allE) := by
    match l, hz with
    | [x], _ => simp
  rw [hd]
  generalize (l[0]'(by omega)) = x at *
  rw [hz]
  have hq := eqEnt5_run x allE
  generalize hqq : decide (x = allE) = q at *
  clear hqq
  obtain ⟨f, t, a, m, n, z⟩ := x
  unfold allE at hq
  simp only [Nat.zero_mul, Nat.add_zero] at d0 d1 d2 d3 d4 d5
  clear hd
  have k0 := hbl.cell 0
  have k1 := hbl.cell 1
  simp only [List.getElem?_toArray, List.getElem?_cons_zero, List.getElem?_cons_succ] at k0 k1
  clear hb0 hbl hA
  go_enter Tryd.func13, Tryd.ntmps13
  go_wp2_with fail
  generalize (w.alloc (.cells #[.int .i64 1, .slice (some ⟨b, o, none⟩) 1 ca] 25)) = W0 at *
  have r0 := cell_regrown k0
  have r1 := cell_regrown k1
  have r2 := cell_regrown d0
  have r3 := cell_regrown d1
  have r4 := cell_regrown d2
  have r5 := cell_regrown d3
  have r6 := cell_regrown d4
  have r7 := cell_regrown d5
  have cA : ∀ d os, Calls Tryd.prog 31 #[] (grow (redrawn W0 d) os) fun e w'' => e = .returned (entV allE) ∧ ∃ p : Regrown, w'' = grow (redrawn W0 p.d) p.os := fun d os => Calls.regrown_of (refAll_any _)
  unfold allE at cA
  dsimp only [entV] at cA hq
  refine wp_region_quiet_below (by kernel_rfl) (by kernel_rfl) ?_
  try simp only [List.append_eq, List.cons_append, List.nil_append]
  repeat (go_big_quiet_step (first | (with_reducible exact cA _ _)))
  refine wpQuiet_nil ?_
  intro wq hwq
  obtain ⟨⟨dq, osq⟩, rfl⟩ := hwq
  have hb := below_regrown W0 dq osq
  have HBF := Lib.hid (HB0.out.trans (hb.mono HB0.out.size))
  generalize grow (redrawn W0 dq) osq = w1 at *
  clear hb r0 r1 r2 r3 r4 r5 r6 r7 cA
  go_wp2_with fail
  go_ret
  exact ⟨rfl, HBF.out⟩

theorem refAsksAll_any (c : Int) (A : Option Addr) (ca : Nat) (l : List Ent) (w : World) (hA : EntS w A l) :
    Calls Tryd.prog 13 #[datV c A l.length ca] w fun e w' => e = .returned (.bool (decide (c = 1 ∧ l = [allE]))) ∧ Below w.heap.size w w' := by
  by_cases hc : c = 1
  · by_cases hz : l.length = 1
    · exact refAsksAll_c c A ca l w hA hc hz
    · exact refAsksAll_b c A ca l w hc hz
  · exact refAsksAll_a c A ca l w hc
end Go.Proofs.YtehhablobfaplaaDoor
