/- Layer 4's program: why an entry is left out, rule by rule. -/
import Derived.Test.YtehhablobfaplaaDoorW2
import Derived.Test.YtehhablobfaplaaDoorD3
namespace Go.Proofs.YtehhablobfaplaaDoor
open Go Go.RowKit
attribute [local go_sem] Oper.semAt_some

def g1 (e : Ent) : Bool := e.f != 2
def g2 (e : Ent) : Bool := (lenF e.m).isNone
def g3 (e : Ent) : Bool := bits .andNot .u32 e.a e.m != 0
def told (a m : Int) : Bool := (kindOf a == 6) || (kindOf a == 1 && m == 0)
def g4 (e : Ent) : Bool := !told e.a e.m
def g5 (e : Ent) : Bool := e.n != 0
def metB (k : Int) : Bool := decide (1 ≤ k) && decide (k ≤ 16)
def g6 (e : Ent) : Bool := !metB e.k
def y6 (_ : Ent) : Int := 0
def y5 (e : Ent) : Int := if g6 e then 6 else y6 e
def y4 (e : Ent) : Int := if g5 e then 5 else y5 e
def y3 (e : Ent) : Int := if g4 e then 4 else y4 e
def y2 (e : Ent) : Int := if g3 e then 3 else y3 e
def y1 (e : Ent) : Int := if g2 e then 2 else y2 e
def y0 (e : Ent) : Int := if g1 e then 1 else y1 e

theorem told_is (a m : Int) : told a m = !decide (kindX a m) := by
  rw [kindX_is]
  unfold told
  have hq := kindOf_range a
  generalize kindOf a = q at *
  by_cases hm : m = 0
  · rcases hq with rfl | rfl | rfl | rfl | rfl | rfl <;> simp [hm]
  · rcases hq with rfl | rfl | rfl | rfl | rfl | rfl <;> simp [hm]
theorem metB_is (k : Int) : metB k = !decide (k < 1 ∨ 16 < k) := by
  unfold metB
  rw [Bool.eq_iff_iff]
  simp
theorem why_chain (e : Ent) (ho : e.Ok) : whyE e = y0 e := by
  have n0 : y0 e = bif g1 e then 1 else bif g2 e then 2 else bif g3 e then 3 else bif g4 e then 4 else bif g5 e then 5 else bif g6 e then 6 else 0 := by
    simp only [y0, y1, y2, y3, y4, y5, y6, Bool.cond_eq_ite]
  rw [n0]
  unfold whyE
  by_cases hf : e.f = 2
  · have q1 : g1 e = false := by simp [g1, hf]
    rw [if_neg (not_not_intro hf), q1, cond_false]
    cases hl : lenF e.m with
    | none =>
      have q2 : g2 e = true := by simp [g2, hl]
      rw [q2]
      rfl
    | some j =>
      obtain ⟨j32, hm⟩ := lenF_is hl
      have q2 : g2 e = false := by simp [g2, hl]
      rw [q2, cond_false]
      dsimp only
      by_cases hr : right e.a j
      · have h1 : cutTo e.a j = e.a := by have := hr.2.2; simpa using this
        have q3 : g3 e = false := by rw [g3, ← hm, andNot_mask e.a j j32 ho.a0 ho.a1, h1]; simp
        rw [if_neg (not_not_intro hr), q3, cond_false]
        by_cases hk : kindX e.a e.m
        · have q4 : g4 e = true := by rw [g4, told_is]; simpa using hk
          rw [if_pos hk, q4]
          rfl
        · have q4 : g4 e = false := by rw [g4, told_is]; simpa using hk
          rw [if_neg hk, q4, cond_false]
          by_cases hn : e.n = 0
          · have q5 : g5 e = false := by simp [g5, hn]
            rw [if_neg (not_not_intro hn), q5, cond_false]
            by_cases hq : e.k < 1 ∨ 16 < e.k
            · have q6 : g6 e = true := by rw [g6, metB_is]; simpa using hq
              rw [if_pos hq, q6]
              rfl
            · have q6 : g6 e = false := by rw [g6, metB_is]; simpa using hq
              rw [if_neg hq, q6]
              rfl
          · have q5 : g5 e = true := by simpa [g5] using hn
            rw [if_pos hn, q5]
            rfl
      · have h1 : ¬ cutTo e.a j = e.a := fun h => hr ⟨by omega, by omega, by simpa using h⟩
        have q3 : g3 e = true := by rw [g3, ← hm, andNot_mask e.a j j32 ho.a0 ho.a1]; simp; omega
        rw [if_pos hr, q3]
        rfl
  · have q1 : g1 e = true := by simpa [g1] using hf
    rw [if_pos hf, q1]
    rfl

theorem bigE (w : World) (o : Obj) : Below w.heap.size w (w.alloc o) := (Below.refl _ _).alloc (Nat.le_refl _) _

end Go.Proofs.YtehhablobfaplaaDoor
