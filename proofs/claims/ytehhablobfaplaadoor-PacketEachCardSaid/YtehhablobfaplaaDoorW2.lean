/- Merged by tools/merge.py: W1, W2. -/
import Derived.Test.YtehhablobfaplaaDoorV3
import Derived.Test.YtehhablobfaplaaDoorC4
import Derived.RegionTactic
import Derived.Deep.RegionHeld3
namespace Go.Proofs.YtehhablobfaplaaDoor
open Go Go.RowKit
attribute [local go_sem] Oper.semAt_some

/-- An entry as a value, and as it lies. -/
abbrev entV (e : Ent) : Value := .agg #[.int .i64 e.f, .int .i64 e.t, .int .u32 e.a, .int .u32 e.m, .int .u32 e.n, .int .u32 e.k]
abbrev entC (e : Ent) : Array Value := #[.int .i64 e.f, .int .i64 e.t, .int .u32 e.a, .int .u32 e.m, .int .u32 e.n, .int .u32 e.k]

theorem kindOf_range (a : Int) : kindOf a = 1 ∨ kindOf a = 2 ∨ kindOf a = 3 ∨ kindOf a = 4 ∨ kindOf a = 5 ∨ kindOf a = 6 := by
  unfold kindOf
  repeat' split
  all_goals simp

theorem kindX_is (a m : Int) : decide (kindX a m) = ((decide (2 ≤ kindOf a) && decide (kindOf a ≤ 5)) || (decide (kindOf a = 1) && decide (m ≠ 0))) := by
  rw [Bool.eq_iff_iff, decide_eq_true_iff]
  unfold kindX
  simp

set_option maxRecDepth 100000 in
set_option maxHeartbeats 800000 in
theorem refRight4_any (e : Ent) (w : World) :
    Calls Tryd.prog 28 #[entV e] w fun en w' => en = .returned (.bool (decide (rightE e))) ∧ Below w.heap.size w w' := by
  obtain ⟨f, t, a, m, n, k⟩ := e
  have hbw : Below w.heap.size w (w.alloc (.cells #[.int .i64 f, .int .i64 t, .int .u32 a, .int .u32 m, .int .u32 n, .int .u32 k] 55)) := (Below.refl _ _).alloc (Nat.le_refl _) _
  have HBW := Lib.hid hbw
  clear hbw
  have hd : decide (rightE ⟨f, t, a, m, n, k⟩) = (decide (0 ≤ f) && (decide (f ≤ 65535) && (decide (0 ≤ t) && decide (t ≤ 65535)))) := by
    rw [Bool.eq_iff_iff, decide_eq_true_iff]
    unfold rightE
    simp
  rw [hd]
  clear hd
  by_cases h1 : 0 ≤ f
  · have h1' : decide (0 ≤ f) = true := decide_eq_true h1
    by_cases h2 : f ≤ 65535
    · have h2' : decide (f ≤ 65535) = true := decide_eq_true h2
      by_cases h3 : 0 ≤ t
      · have h3' : decide (0 ≤ t) = true := decide_eq_true h3
        go_enter Tryd.func28, Tryd.ntmps28
        go_wp2_with fail
        go_ret
        exact ⟨by first | rfl | simp [*], HBW.out⟩
      · have h3' : decide (0 ≤ t) = false := decide_eq_false h3
        go_enter Tryd.func28, Tryd.ntmps28
        go_wp2_with fail
        go_ret
        exact ⟨by first | rfl | simp [*], HBW.out⟩
    · have h2' : decide (f ≤ 65535) = false := decide_eq_false h2
      go_enter Tryd.func28, Tryd.ntmps28
      go_wp2_with fail
      go_ret
      exact ⟨by first | rfl | simp [*], HBW.out⟩
  · have h1' : decide (0 ≤ f) = false := decide_eq_false h1
    go_enter Tryd.func28, Tryd.ntmps28
    go_wp2_with fail
    go_ret
    exact ⟨by first | rfl | simp [*], HBW.out⟩

def allE : Ent := ⟨0, 0, 0, 0, 0, 16⟩
set_option maxRecDepth 100000 in
theorem refAll_any (w : World) :
    Calls Tryd.prog 31 #[] w fun en w' => en = .returned (entV allE) ∧ Below w.heap.size w w' := by
  go_enter Tryd.func31, Tryd.ntmps31
  go_wp2_with fail
  refine ⟨rfl, entV allE, ?_, rfl, (Below.refl _ _).alloc (Nat.le_refl _) _⟩
  simp [results, Tryd.f31, go_sem, allE]

/-- What Prefix tells: a prefix, an error. -/
def preA (e : Ent) : Int := if whyE e = 0 then e.a else 0
def preL (e : Ent) : Int := if whyE e = 0 then ((lenF e.m).getD 0 : Nat) else 0
def preNo (e : Ent) : Int := if whyE e = 0 then 0 else 140

end Go.Proofs.YtehhablobfaplaaDoor

namespace Go.Proofs.YtehhablobfaplaaDoor
open Go Go.RowKit Go.Sort
attribute [local go_sem] Oper.semAt_some
attribute [local irreducible] wpQuiet

/-- What Of tells: an entry, an error. -/
def ofV (x n metric : Int) : Ent := (ofE x n metric).getD ⟨0, 0, 0, 0, 0, 0⟩
def ofNo (x n metric : Int) : Int := if goodP x n ∧ 1 ≤ metric ∧ metric ≤ 16 then 0 else 2
theorem ofV_no {x n metric : Int} (h : ¬ (goodP x n ∧ 1 ≤ metric ∧ metric ≤ 16)) : ofV x n metric = ⟨0, 0, 0, 0, 0, 0⟩ ∧ ofNo x n metric = 2 := by
  unfold ofV ofE ofNo
  rw [if_neg h, if_neg h]
  exact ⟨rfl, rfl⟩
theorem ofV_ok {x n metric : Int} (h : goodP x n ∧ 1 ≤ metric ∧ metric ≤ 16) : ofV x n metric = oneE x n metric ∧ ofNo x n metric = 0 := by
  unfold ofV ofE ofNo
  rw [if_pos h, if_pos h]
  exact ⟨rfl, rfl⟩

end Go.Proofs.YtehhablobfaplaaDoor
