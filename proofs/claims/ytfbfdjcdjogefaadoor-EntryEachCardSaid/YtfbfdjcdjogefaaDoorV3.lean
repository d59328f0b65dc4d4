/- Layer 4 in plain words: the entries that stand one behind the other. -/
import Derived.Test.YtfbfdjcdjogefaaDoorV1
namespace Go.Proofs.YtfbfdjcdjogefaaDoor
open Go Go.RowKit

/-- The entries of bytes, from their head on. -/
def entsF : Nat → List Int → List Ent
  | 0, _ => []
  | f + 1, xs => if 20 ≤ xs.length then readE xs :: entsF f (xs.drop 20) else []
theorem entsF_stop (f : Nat) {xs : List Int} (h : ¬ 20 ≤ xs.length) : entsF f xs = [] := by cases f <;> simp [entsF, h]
theorem entsF_go (f : Nat) {xs : List Int} (h : 20 ≤ xs.length) : entsF (f + 1) xs = readE xs :: entsF f (xs.drop 20) := by rw [entsF, if_pos h]
theorem entsF_len : ∀ (f : Nat) (xs : List Int), xs.length / 20 ≤ f → (entsF f xs).length = xs.length / 20
  | 0, xs, h => by simp only [entsF, List.length_nil]; omega
  | f + 1, xs, h => by
    by_cases hl : 20 ≤ xs.length
    · rw [entsF_go f hl, List.length_cons, entsF_len f (xs.drop 20) (by rw [List.length_drop]; omega), List.length_drop]
      omega
    · rw [entsF_stop _ hl, List.length_nil]
      omega
theorem entsF_at : ∀ (f : Nat) (xs : List Int) (i : Nat) (h : i < (entsF f xs).length), (entsF f xs)[i] = readE (xs.drop (20 * i)) ∧ 20 * i + 20 ≤ xs.length
  | 0, _, _, h => by simp [entsF] at h
  | f + 1, xs, i, h => by
    by_cases hl : 20 ≤ xs.length
    · simp only [entsF_go f hl] at h ⊢
      cases i with
      | zero => exact ⟨by simp, by omega⟩
      | succ i =>
        have := entsF_at f (xs.drop 20) i (by simpa using h)
        rw [List.length_drop, List.drop_drop] at this
        rw [List.getElem_cons_succ]
        exact ⟨by rw [this.1, show 20 + 20 * i = 20 * (i + 1) by omega], by omega⟩
    · rw [entsF_stop _ hl] at h
      simp at h
/-- All of them. -/
def ents (xs : List Int) : List Ent := entsF (xs.length + 1) xs
theorem ents_len (xs : List Int) : (ents xs).length = xs.length / 20 := entsF_len _ _ (by omega)
theorem ents_at {xs : List Int} {i : Nat} (h : i < (ents xs).length) : (ents xs)[i] = readE (xs.drop (20 * i)) ∧ 20 * i + 20 ≤ xs.length := entsF_at _ _ _ h
theorem ents_ok {xs : List Int} (hb : IsBytes xs) {i : Nat} (h : i < (ents xs).length) : rightE (ents xs)[i] ∧ ((ents xs)[i]).Ok := by
  obtain ⟨e, hl⟩ := ents_at h
  rw [e]
  exact (bytes_readE (hb.drop (20 * i)) (by rw [List.length_drop]; omega)).2
end Go.Proofs.YtfbfdjcdjogefaaDoor
