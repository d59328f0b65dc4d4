/- Plain words of layer 2: prefixes as rows of addresses: how two stand, and what follows of it. -/
import Derived.Test.YtghkacciihocdaaC4
namespace Go.Proofs.Ytghkacciihocdaa

/-- Weights divide one another. -/
theorem wgt_div (n m : Nat) (h : n ≤ m) (hm : m ≤ 32) : ∃ c : Int, 0 < c ∧ wgt n = c * wgt m := by
  refine ⟨((2 ^ (m - n) : Nat) : Int), Int.natCast_pos.2 (Nat.pow_pos (by decide)), ?_⟩
  rw [wgt_split n m h hm, Int.mul_comm]

/-- Two multiples of a weight: the one is ahead of the other by a whole one. -/
theorem mul_gap (j k : Int) (n : Nat) (h : j * wgt n < k * wgt n) : j * wgt n + wgt n ≤ k * wgt n := by
  have hp := wgt_pos n
  have h1 : j < k := Int.lt_of_mul_lt_mul_right h (Int.le_of_lt hp)
  have h2 : (j + 1) * wgt n ≤ k * wgt n := Int.mul_le_mul_of_nonneg_right (by omega) (Int.le_of_lt hp)
  rw [Int.add_mul] at h2
  omega

/-- A prefix that may be, in numbers: so many bits, a multiple of its weight. -/
theorem right_mul {x n : Int} (h : right x n) : ∃ (k : Nat) (j : Int), n = k ∧ k ≤ 32 ∧ x = j * wgt k := by
  obtain ⟨h1, h2, h3⟩ := h
  refine ⟨n.toNat, top x n.toNat, by omega, by omega, ?_⟩
  exact h3.symm

theorem has_iff {x n : Int} (h : right x n) (a : Int) : hasP x n a ↔ x ≤ a ∧ a < x + wgt n.toNat := by
  have h3 := h.2.2
  have hc := cutTo_le a n.toNat
  constructor
  · rintro ⟨_, e⟩
    have : cutTo a n.toNat = x := by
      rw [← h3]; unfold cutTo; rw [e]
    omega
  · rintro ⟨h1, h2⟩
    refine ⟨h, ?_⟩
    have e1 : x = top x n.toNat * wgt n.toNat := h3.symm
    have e2 : cutTo a n.toNat = top a n.toNat * wgt n.toNat := rfl
    rcases Int.lt_trichotomy (top x n.toNat) (top a n.toNat) with hlt | he | hlt
    · have := mul_gap (top x n.toNat) (top a n.toNat) n.toNat (Int.mul_lt_mul_of_pos_right hlt (wgt_pos _))
      omega
    · exact he
    · have := mul_gap (top a n.toNat) (top x n.toNat) n.toNat (Int.mul_lt_mul_of_pos_right hlt (wgt_pos _))
      omega

theorem has_self {x n : Int} (h : right x n) : hasP x n x := ⟨h, rfl⟩

/-- The longer one's address is in the shorter one: all of it is. -/
theorem nest {x n y m : Int} (hx : right x n) (hy : right y m) (hnm : n ≤ m) (h : hasP x n y) : x ≤ y ∧ y + wgt m.toNat ≤ x + wgt n.toNat := by
  have h' := (has_iff hx y).1 h
  refine ⟨h'.1, ?_⟩
  have e1 : y = top y m.toNat * wgt m.toNat := hy.2.2.symm
  have e2 : x = top x n.toNat * wgt n.toNat := hx.2.2.symm
  obtain ⟨c, hc, hw⟩ := wgt_div n.toNat m.toNat (by have := hx.1; omega) (by have := hy.2.1; omega)
  have e3 : x + wgt n.toNat = ((top x n.toNat + 1) * c) * wgt m.toNat := by
    rw [Int.mul_assoc, ← hw, Int.add_mul]; omega
  have := mul_gap (top y m.toNat) ((top x n.toNat + 1) * c) m.toNat (by rw [← e3]; omega)
  omega

/-- Else they have no address in common. -/
theorem apart {x n y m : Int} (hx : right x n) (hy : right y m) (hnm : n ≤ m) (h : ¬ hasP x n y) : y + wgt m.toNat ≤ x ∨ x + wgt n.toNat ≤ y := by
  have h' : ¬ (x ≤ y ∧ y < x + wgt n.toNat) := fun e => h ((has_iff hx y).2 e)
  rcases Int.lt_or_le y x with hlt | hle
  · left
    have e1 : y = top y m.toNat * wgt m.toNat := hy.2.2.symm
    have e2 : x = top x n.toNat * wgt n.toNat := hx.2.2.symm
    obtain ⟨c, hc, hw⟩ := wgt_div n.toNat m.toNat (by have := hx.1; omega) (by have := hy.2.1; omega)
    have e3 : x = (top x n.toNat * c) * wgt m.toNat := by rw [Int.mul_assoc, ← hw]; exact e2
    have := mul_gap (top y m.toNat) (top x n.toNat * c) m.toNat (by rw [← e3]; omega)
    omega
  · right
    omega

theorem wgt_mono (n m : Nat) (h : n < m) (hm : m ≤ 32) : wgt m < wgt n := by
  obtain ⟨c, hc, hw⟩ := wgt_div (n + 1) m (by omega) hm
  have hp := wgt_pos m
  have hs := wgt_step n (by omega)
  have : wgt m ≤ wgt (n + 1) := by
    rw [hw]
    have := Int.mul_le_mul_of_nonneg_right (show (1 : Int) ≤ c by omega) (Int.le_of_lt hp)
    omega
  omega
end Go.Proofs.Ytghkacciihocdaa
