/- Plain words of layer 2: what follows of how two prefixes stand. -/
import Derived.Test.YtghkacciihocdaaC5
import Derived.Test.YtghkacciihocdaaC7
namespace Go.Proofs.Ytghkacciihocdaa

theorem same_len {x n y : Int} (hx : right x n) (hy : right y n) (h : hasP y n x) : x = y := by
  have e1 : y = top y n.toNat * wgt n.toNat := hy.2.2.symm
  have e2 : x = top x n.toNat * wgt n.toNat := hx.2.2.symm
  rw [e1, e2, h.2]

/-- The four ways: the same; within; around; apart. -/
theorem stand_cases {x n y m : Int} (hx : right x n) (hy : right y m) :
    (standF x n y m = 1 ∧ x = y ∧ n = m) ∨ (standF x n y m = 2 ∧ m < n ∧ y ≤ x ∧ x + wgt n.toNat ≤ y + wgt m.toNat) ∨ (standF x n y m = 3 ∧ n < m ∧ x ≤ y ∧ y + wgt m.toNat ≤ x + wgt n.toNat) ∨
    (standF x n y m = 4 ∧ (y + wgt m.toNat ≤ x ∨ x + wgt n.toNat ≤ y)) := by
  unfold standF
  by_cases h1 : x = y ∧ n = m
  · left; rw [if_pos h1]; exact ⟨rfl, h1⟩
  right
  rw [if_neg h1]
  by_cases h2 : m ≤ n ∧ hasP y m x
  · left
    rw [if_pos h2]
    have hne : ¬ m = n := fun e => by
      subst e
      exact h1 ⟨same_len hx hy h2.2, rfl⟩
    have i3 := nest hy hx h2.1 h2.2
    exact ⟨rfl, by omega, i3.1, i3.2⟩
  right
  rw [if_neg h2]
  by_cases h3 : n ≤ m ∧ hasP x n y
  · left
    rw [if_pos h3]
    have hne : ¬ m = n := fun e => by
      subst e
      exact h1 ⟨(same_len hy hx h3.2).symm, rfl⟩
    have i3 := nest hx hy h3.1 h3.2
    exact ⟨rfl, by omega, i3.1, i3.2⟩
  right
  rw [if_neg h3]
  refine ⟨rfl, ?_⟩
  rcases Int.le_total n m with h | h
  · exact apart hx hy h (fun e => h3 ⟨h, e⟩)
  · exact (apart hy hx h (fun e => h2 ⟨h, e⟩)).symm

/-- As they stand, so their addresses do. -/
theorem stand_addrs {x n y m : Int} (hx : right x n) (hy : right y m) (a : Int) :
    (standF x n y m = 1 → (hasP x n a ↔ hasP y m a)) ∧ (standF x n y m = 2 → hasP x n a → hasP y m a) ∧ (standF x n y m = 3 → hasP y m a → hasP x n a) ∧ (standF x n y m = 4 → hasP x n a → ¬ hasP y m a) := by
  have ix := has_iff hx a
  have iy := has_iff hy a
  have px := wgt_pos n.toNat
  have py := wgt_pos m.toNat
  rcases stand_cases hx hy with ⟨h, rfl, rfl⟩ | ⟨h, h1, h2, h3⟩ | ⟨h, h1, h2, h3⟩ | ⟨h, h1⟩
  · rw [h]; exact ⟨fun _ => Iff.rfl, fun e => absurd e (by decide), fun e => absurd e (by decide), fun e => absurd e (by decide)⟩
  · rw [h, ix, iy]; exact ⟨fun e => absurd e (by decide), fun _ _ => by omega, fun e => absurd e (by decide), fun e => absurd e (by decide)⟩
  · rw [h, ix, iy]; exact ⟨fun e => absurd e (by decide), fun e => absurd e (by decide), fun _ _ => by omega, fun e => absurd e (by decide)⟩
  · rw [h, ix, iy]; exact ⟨fun e => absurd e (by decide), fun e => absurd e (by decide), fun e => absurd e (by decide), fun _ _ => by omega⟩

/-- The other way round. -/
theorem stand_swap {x n y m : Int} (hx : right x n) (hy : right y m) :
    (standF x n y m = 1 ∧ standF y m x n = 1) ∨ (standF x n y m = 2 ∧ standF y m x n = 3) ∨ (standF x n y m = 3 ∧ standF y m x n = 2) ∨ (standF x n y m = 4 ∧ standF y m x n = 4) := by
  have px := wgt_pos n.toNat
  have py := wgt_pos m.toNat
  rcases stand_cases hx hy with ⟨h, h1, h2⟩ | ⟨h, h1, h2, h3⟩ | ⟨h, h1, h2, h3⟩ | ⟨h, h1⟩ <;>
  rcases stand_cases hy hx with ⟨g, g1, g2⟩ | ⟨g, g1, g2, g3⟩ | ⟨g, g1, g2, g3⟩ | ⟨g, g1⟩ <;>
  rw [h, g] <;> (try subst h1 h2) <;> (try subst g1 g2) <;> (try simp) <;> omega

/-- A prefix stands in the order ahead of those within it. -/
theorem within_behind {x n y m : Int} (hx : right x n) (hy : right y m) (h : standF x n y m = 2) : ordF y m x n = -1 := by
  rcases stand_cases hx hy with ⟨g, h1, h2⟩ | ⟨g, h1, h2, h3⟩ | ⟨g, h1, h2, h3⟩ | ⟨g, h1⟩
  · omega
  · unfold ordF
    rw [if_neg (by omega), if_pos (by omega)]
  · omega
  · omega

theorem ord_less {x n y m : Int} : ordF x n y m = -1 ↔ x < y ∨ (x = y ∧ n < m) := by
  unfold ordF
  split
  · constructor
    · intro h; omega
    · intro h; omega
  · split
    · simp_all
    · constructor
      · intro h; omega
      · intro h; omega

/-- Those within one stand beside one another: whatever stands between it and one within it is within it. -/
theorem between_within {x n y m z k : Int} (hx : right x n) (hy : right y m) (hz : right z k) (h1 : ordF x n y m = -1) (h2 : ordF y m z k = -1) (h : standF z k x n = 2) : standF y m x n = 2 := by
  have a1 := ord_less.1 h1
  have a2 := ord_less.1 h2
  have pz := wgt_pos k.toNat
  have py := wgt_pos m.toNat
  have px := wgt_pos n.toNat
  rcases stand_cases hz hx with ⟨g, h1, h2⟩ | ⟨g, g1, g2, g3⟩ | ⟨g, h1, h2, h3⟩ | ⟨g, h1⟩
  · omega
  · rcases stand_cases hy hx with ⟨f, f1, f2⟩ | ⟨f, f1, f2, f3⟩ | ⟨f, f1, f2, f3⟩ | ⟨f, f1⟩
    · omega
    · exact f
    · omega
    · omega
  · omega
  · omega
end Go.Proofs.Ytghkacciihocdaa
