/- Layer 4's reference: Good, One, Of. -/
import Derived.Test.YtfbfdjcdjogefaaDoorW1
import Derived.Test.YtfbfdjcdjogefaaDoorC4
import Derived.RegionTactic
import Derived.Deep.RegionHeld3
namespace Go.Proofs.YtfbfdjcdjogefaaDoor
open Go Go.RowKit Go.Sort
attribute [local go_sem] Oper.semAt_some
attribute [local irreducible] wpQuiet

set_option maxRecDepth 100000 in
set_option maxHeartbeats 1600000 in
theorem refGood_any (x n : Int) (x0 : 0 ≤ x) (x1 : x < 4294967296) (w : World) :
    Calls Tryd.prog 44 #[pfx x n] w fun e w' => e = .returned (.bool (decide (goodP x n))) ∧ Below w.heap.size w w' := by
  have hbw : Below w.heap.size w (w.alloc (.cells #[.int .u32 x, .int .i64 n] 41)) := (Below.refl _ _).alloc (Nat.le_refl _) _
  have HBW := Lib.hid hbw
  have bl := Blk.new w 41 #[.int .u32 x, .int .i64 n]
  have c0 := bl.cell 0
  have c1 := bl.cell 1
  simp only [List.getElem?_toArray, List.getElem?_cons_zero, List.getElem?_cons_succ] at c0 c1
  have k0 := cell_regrown c0
  have k1 := cell_regrown c1
  clear hbw bl c0 c1
  by_cases hr : right x n
  · obtain ⟨j, rfl⟩ : ∃ j : Nat, n = j := ⟨n.toNat, by have := hr.1; omega⟩
    have hj : j ≤ 32 := by have := hr.2.1; omega
    have hd : decide (goodP x j) = !decide (kindX x (maskOf j)) := by
      rw [Bool.eq_iff_iff, decide_eq_true_iff]
      unfold goodP
      simp [hr]
    rw [hd]
    have hrd : decide (right x j) = true := decide_eq_true hr
    have cR : ∀ d os, Calls Tryd.prog 39 #[pfx x j] (grow (redrawn (w.alloc (.cells #[.int .u32 x, .int .i64 j] 41)) d) os) fun e w'' => e = .returned (.bool true) ∧ ∃ p : Regrown, w'' = grow (redrawn (w.alloc (.cells #[.int .u32 x, .int .i64 j] 41)) p.d) p.os := fun d os =>
      Calls.regrown_of (by have := refRight_any x j x0 x1 (grow (redrawn (w.alloc (.cells #[.int .u32 x, .int .i64 j] 41)) d) os); rwa [hrd] at this)
    have cM : ∀ d os, Calls Tryd.prog 55 #[.int .i64 j] (grow (redrawn (w.alloc (.cells #[.int .u32 x, .int .i64 j] 41)) d) os) fun e w'' => e = .returned (.int .u32 (maskOf j)) ∧ ∃ p : Regrown, w'' = grow (redrawn (w.alloc (.cells #[.int .u32 x, .int .i64 j] 41)) p.d) p.os := fun d os =>
      Calls.regrown_of ((refMask_any j hj _).mono fun e W ⟨he, hw⟩ => ⟨he, by subst hw; exact Below.refl _ _⟩)
    have cK : ∀ d os, Calls Tryd.prog 40 #[.int .u32 x, .int .u32 (maskOf j)] (grow (redrawn (w.alloc (.cells #[.int .u32 x, .int .i64 j] 41)) d) os) fun e w'' => e = .returned (.bool (decide (kindX x (maskOf j)))) ∧ ∃ p : Regrown, w'' = grow (redrawn (w.alloc (.cells #[.int .u32 x, .int .i64 j] 41)) p.d) p.os := fun d os =>
      Calls.regrown_of (refKind4_any x (maskOf j) x0 x1 _)
    clear hd hrd hr
    generalize decide (kindX x (maskOf j)) = kx at *
    generalize maskOf j = mk at *
    go_enter Tryd.func44, Tryd.ntmps44
    go_wp2_with fail
    refine wp_region_quiet_below (by kernel_rfl) (by kernel_rfl) ?_
    repeat (quiet_step (first | (with_reducible exact cR _ _) | (with_reducible exact cM _ _) | (with_reducible exact cK _ _)))
    refine wpQuiet_nil ?_
    intro wq hwq
    obtain ⟨⟨dq, osq⟩, rfl⟩ := hwq
    have hb := below_regrown (w.alloc (.cells #[.int .u32 x, .int .i64 j] 41)) dq osq
    have HW := Lib.hid (HBW.out.trans (hb.mono (by simp)))
    clear cR cM cK k0 k1 hb
    generalize grow (redrawn (w.alloc (.cells #[.int .u32 x, .int .i64 j] 41)) dq) osq = w9 at *
    go_wp2_with fail
    go_ret
    exact ⟨rfl, HW.out⟩
  · have hd : decide (goodP x n) = false := decide_eq_false (fun h => hr h.1)
    rw [hd]
    have hrd : decide (right x n) = false := decide_eq_false hr
    have cR : ∀ d os, Calls Tryd.prog 39 #[pfx x n] (grow (redrawn (w.alloc (.cells #[.int .u32 x, .int .i64 n] 41)) d) os) fun e w'' => e = .returned (.bool false) ∧ ∃ p : Regrown, w'' = grow (redrawn (w.alloc (.cells #[.int .u32 x, .int .i64 n] 41)) p.d) p.os := fun d os =>
      Calls.regrown_of (by have := refRight_any x n x0 x1 (grow (redrawn (w.alloc (.cells #[.int .u32 x, .int .i64 n] 41)) d) os); rwa [hrd] at this)
    clear hd hrd hr
    go_enter Tryd.func44, Tryd.ntmps44
    go_wp2_with fail
    refine wp_region_quiet_below (by kernel_rfl) (by kernel_rfl) ?_
    repeat (quiet_step (first | (with_reducible exact cR _ _)))
    refine wpQuiet_nil ?_
    intro wq hwq
    obtain ⟨⟨dq, osq⟩, rfl⟩ := hwq
    have hb := below_regrown (w.alloc (.cells #[.int .u32 x, .int .i64 n] 41)) dq osq
    have HW := Lib.hid (HBW.out.trans (hb.mono (by simp)))
    clear cR k0 k1 hb
    generalize grow (redrawn (w.alloc (.cells #[.int .u32 x, .int .i64 n] 41)) dq) osq = w9 at *
    go_wp2_with fail
    go_ret
    exact ⟨rfl, HW.out⟩

set_option maxRecDepth 100000 in
set_option maxHeartbeats 1600000 in
theorem refOne_any (x : Int) (j : Nat) (hj : j ≤ 32) (metric : Int) (m0 : 1 ≤ metric) (m1 : metric ≤ 16) (w : World) :
    Calls Tryd.prog 45 #[pfx x j, .int .i64 metric] w fun e w' => e = .returned (entV (oneE x j metric)) ∧ Below w.heap.size w w' := by
  have HM := Lib.hid (fun W => refMask_any j hj W)
  have hoe : oneE x j metric = ⟨2, 0, x, maskOf j, 0, metric⟩ := by simp [oneE]
  rw [hoe]
  clear hoe
  generalize maskOf j = mk at *
  have hw : IntKind.u32.wrap metric = metric := by rw [IntKind.wrap_u32]; omega
  go_enter Tryd.func45, Tryd.ntmps45
  go_wp2_with fail
  go_region_held3 (fun w' => w'.cell? ⟨w.heap.size, 0, none⟩ = some (.int .u32 x) ∧ w'.cell? ⟨w.heap.size, 1, none⟩ = some (.int .i64 j)) (go_keep) (first | (go_at_call 55; refine (HM.out _).mono ?_; rintro e w' ⟨rfl, rfl⟩))
  all_goals go_wp2_with fail
  have hb := two_below w (.cells #[.int .u32 x, .int .i64 j] 41) (.cells #[.int .i64 2, .int .i64 0, .int .u32 x, .int .u32 mk, .int .u32 0, .int .u32 metric] 25)
  exact bodyPost_ret (v := entV ⟨2, 0, x, mk, 0, metric⟩) (by simp [results, Tryd.results45, go_sem]) rfl ⟨rfl, ⟨hb.os, hb.tape, hb.output, hb.size, hb.block⟩⟩

/-- What Of tells: an entry, an error. -/
def ofV (x n metric : Int) : Ent := (ofE x n metric).getD ⟨0, 0, 0, 0, 0, 0⟩
def ofNo (x n metric : Int) : Int := if goodP x n ∧ 1 ≤ metric ∧ metric ≤ 16 then 0 else 2
theorem ofV_no {x n metric : Int} (h : ¬ (goodP x n ∧ 1 ≤ metric ∧ metric ≤ 16)) : ofV x n metric = ⟨0, 0, 0, 0, 0, 0⟩ ∧ ofNo x n metric = 2 := by
  unfold ofV ofE ofNo
  rw [if_neg h, if_neg h]
  exact ⟨rfl, rfl⟩
theorem ofV_ok {x n metric : Int} (h : goodP x n ∧ 1 ≤ metric ∧ metric ≤ 16) : ofV x n metric = oneE x n metric ∧ ofNo x n metric = 0 := by
  unfold ofV ofE ofNo
  rw [if_pos h, if_pos h]
  exact ⟨rfl, rfl⟩

set_option maxRecDepth 100000 in
set_option maxHeartbeats 1600000 in
theorem refOf4_any (x n metric : Int) (x0 : 0 ≤ x) (x1 : x < 4294967296) (w : World) :
    Calls Tryd.prog 21 #[pfx x n, .int .i64 metric] w fun e w' => e = .returned (.tuple #[entV (ofV x n metric), .int .i64 (ofNo x n metric)]) ∧ Below w.heap.size w w' := by
  have HG := Lib.hid (fun W => refGood_any x n x0 x1 W)
  have hbw : Below w.heap.size w ((w.alloc (.cells #[.int .u32 x, .int .i64 n] 41)).alloc (.cells #[.int .i64 0, .int .i64 0, .int .u32 0, .int .u32 0, .int .u32 0, .int .u32 0] 25)) := two_below w _ _
  have hb2 : ∀ w1, Below ((w.alloc (.cells #[.int .u32 x, .int .i64 n] 41)).alloc (.cells #[.int .i64 0, .int .i64 0, .int .u32 0, .int .u32 0, .int .u32 0, .int .u32 0] 25)).heap.size ((w.alloc (.cells #[.int .u32 x, .int .i64 n] 41)).alloc (.cells #[.int .i64 0, .int .i64 0, .int .u32 0, .int .u32 0, .int .u32 0, .int .u32 0] 25)) w1 →
      Blk w1 w.heap.size 41 #[.int .u32 x, .int .i64 n] ∧ Blk w1 (w.heap.size + 1) 25 #[.int .i64 0, .int .i64 0, .int .u32 0, .int .u32 0, .int .u32 0, .int .u32 0] ∧ Below w.heap.size w w1 := fun w1 hb => by
    refine ⟨((Blk.new w _ _).alloc _).below hb (by simp; omega), ?_, hbw.trans (hb.mono (by simp; omega))⟩
    have := Blk.new (w.alloc (.cells #[.int .u32 x, .int .i64 n] 41)) 25 #[.int .i64 0, .int .i64 0, .int .u32 0, .int .u32 0, .int .u32 0, .int .u32 0]
    simpa using this.below hb this.lt
  have HB := Lib.hid hb2
  clear hbw hb2
  by_cases hall : goodP x n ∧ 1 ≤ metric ∧ metric ≤ 16
  · obtain ⟨e1, e2⟩ := ofV_ok hall
    rw [e1, e2]
    obtain ⟨hg, m0, m1⟩ := hall
    rw [decide_eq_true hg] at HG
    obtain ⟨j, rfl⟩ : ∃ j : Nat, n = j := ⟨n.toNat, by have := hg.1.1; omega⟩
    have HO := Lib.hid (fun W => refOne_any x j (by have := hg.1.2.1; omega) metric m0 m1 W)
    have n0 : ¬ metric < 1 := by omega
    have n1 : ¬ 16 < metric := by omega
    clear hg e1 e2
    generalize oneE x j metric = o at *
    obtain ⟨f, t, a, m, nx, k⟩ := o
    go_enter Tryd.func21, Tryd.ntmps21
    go_wp2_with fail
    refine (HG.out _).mono ?_
    rintro e w1 ⟨rfl, hb1⟩
    obtain ⟨b1, b2, hbl⟩ := HB.out w1 hb1
    have c0 := b1.cell 0
    have c1 := b1.cell 1
    simp only [List.getElem?_toArray, List.getElem?_cons_zero, List.getElem?_cons_succ] at c0 c1
    have HBL := Lib.hid hbl
    have HB2 := Lib.hid b2
    clear hb1 b1 b2 hbl HB
    go_wp2_with fail
    refine (HO.out _).mono ?_
    rintro e w2 ⟨rfl, hb2⟩
    have b2 := HB2.out.below hb2 HB2.out.lt
    have d0 := b2.cell 0
    have d1 := b2.cell 1
    have d2 := b2.cell 2
    have d3 := b2.cell 3
    have d4 := b2.cell 4
    have d5 := b2.cell 5
    have z0 := b2.frozen 0
    have z1 := b2.frozen 1
    have z2 := b2.frozen 2
    have z3 := b2.frozen 3
    have z4 := b2.frozen 4
    have z5 := b2.frozen 5
    simp only [List.getElem?_toArray, List.getElem?_cons_zero, List.getElem?_cons_succ] at d0 d1 d2 d3 d4 d5
    have HBF := Lib.hid (HBL.out.trans (hb2.mono HBL.out.size))
    clear hb2 b2 HB2 HBL c0 c1
    go_wp2_with fail
    exact bodyPost_ret (v := .tuple #[entV ⟨f, t, a, m, nx, k⟩, .int .i64 0]) (by simp [results, Tryd.results21, go_sem, d0, d1, d2, d3, d4, d5]) rfl ⟨rfl, (((((HBF.out.setCell (by simp) _).setCell (by simp) _).setCell (by simp) _).setCell (by simp) _).setCell (by simp) _).setCell (by simp) _⟩
  · obtain ⟨e1, e2⟩ := ofV_no hall
    rw [e1, e2]
    have hway : goodP x n ∧ 1 ≤ metric ∧ 16 < metric ∨ goodP x n ∧ metric < 1 ∨ ¬ goodP x n := by
      by_cases hg : goodP x n
      · by_cases h1 : metric < 1
        · exact .inr (.inl ⟨hg, h1⟩)
        · exact .inl ⟨hg, by omega, Classical.byContradiction fun h => hall ⟨hg, by omega, by omega⟩⟩
      · exact .inr (.inr hg)
    clear hall e1 e2
    rcases hway with ⟨hg, m0, m1⟩ | ⟨hg, m0⟩ | hg
    all_goals
      first
        | rw [decide_eq_true hg] at HG
        | rw [decide_eq_false hg] at HG
      clear hg
      go_enter Tryd.func21, Tryd.ntmps21
      go_wp2_with fail
      refine (HG.out _).mono ?_
      rintro e w1 ⟨rfl, hb1⟩
      obtain ⟨b1, b2, hbl⟩ := HB.out w1 hb1
      have d0 := b2.cell 0
      have d1 := b2.cell 1
      have d2 := b2.cell 2
      have d3 := b2.cell 3
      have d4 := b2.cell 4
      have d5 := b2.cell 5
      have z0 := b2.frozen 0
      have z1 := b2.frozen 1
      have z2 := b2.frozen 2
      have z3 := b2.frozen 3
      have z4 := b2.frozen 4
      have z5 := b2.frozen 5
      simp only [List.getElem?_toArray, List.getElem?_cons_zero, List.getElem?_cons_succ] at d0 d1 d2 d3 d4 d5
      have HBL := Lib.hid hbl
      clear hb1 b1 b2 hbl HB
      go_wp2_with fail
      exact bodyPost_ret (v := .tuple #[entV ⟨0, 0, 0, 0, 0, 0⟩, .int .i64 2]) (by simp [results, Tryd.results21, go_sem, d0, d1, d2, d3, d4, d5]) rfl ⟨rfl, (((((HBL.out.setCell (by simp) _).setCell (by simp) _).setCell (by simp) _).setCell (by simp) _).setCell (by simp) _).setCell (by simp) _⟩
end Go.Proofs.YtfbfdjcdjogefaaDoor
