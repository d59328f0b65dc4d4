/- Each of layer 3, for a range over it; what it tells, number by number. -/
import Derived.Test.YtfbfdjcdjogefaaDoorE4
import Derived.Test.YtfbfdjcdjogefaaDoorN4
namespace Go.Proofs.YtfbfdjcdjogefaaDoor
open Go Go.RowKit Go.Shelf Go.Sort
attribute [local go_sem] Oper.semAt_some

/-- The numbers from a place on. -/
def numR (k : Nat) (xs : List Int) : Nat → Nat → List (Int × Int)
  | 0, _ => []
  | f + 1, at_ => if at_ + k ≤ xs.length then ((at_ : Int), readN xs at_ k) :: numR k xs f (at_ + k) else []

theorem readN_at {k : Nat} (hk : k = 1 ∨ k = 2 ∨ k = 4) {xs : List Int} {at_ : Nat} (h : at_ + k ≤ xs.length) : readN xs at_ k = valB ((xs.drop at_).take k) := by
  have hw : W3 (k : Int) := by rcases hk with rfl | rfl | rfl <;> simp [W3]
  have hz : readNo xs at_ k = 0 := by
    unfold readNo
    rw [if_neg (not_not_intro hw), if_neg (by omega), if_neg (by omega)]
  unfold readN
  rw [if_pos hz]
  simp

theorem pcs_numR {k : Nat} (hk : k = 1 ∨ k = 2 ∨ k = 4) (xs : List Int) : ∀ f at_ : Nat, ((pcs k xs.length f at_).takeWhile (fun x => x.2 == k)).map (tellP xs) = numR k xs f at_
  | 0, _ => rfl
  | f + 1, at_ => by
    unfold pcs numR
    by_cases h : at_ + k ≤ xs.length
    · rw [if_pos (by omega), if_pos h, List.takeWhile_cons, if_pos (by simp; omega), List.map_cons, pcs_numR hk xs f (at_ + k)]
      congr 1
      unfold tellP
      rw [readN_at hk h]
      simp only []
      rw [show min k (xs.length - at_) = k by omega]
    · rw [if_neg h]
      split
      · rw [List.takeWhile_cons, if_neg (by simp; omega)]; rfl
      · rfl

/-- What Each tells. -/
def eachN (k : Int) (xs : List Int) : List (Int × Int) := if W3 k then numR k.toNat xs (xs.length + 1) 0 else []
theorem eachN_eq (k : Int) (xs : List Int) : (if W3 k then numsF k.toNat xs else []) = eachN k xs := by
  unfold eachN numsF
  split
  · rename_i h
    obtain ⟨m, rfl, hm⟩ := h.nat
    rw [Int.toNat_natCast, pcs_numR hm]
  · rfl
theorem numR_at (k : Nat) (xs : List Int) : ∀ (f at_ i : Nat) (h : i < (numR k xs f at_).length), (numR k xs f at_)[i].1 = at_ + i * k
  | 0, _, _, h => by simp [numR] at h
  | f + 1, at_, i, h => by
    unfold numR at h ⊢
    split
    · rename_i hc
      rw [if_pos hc] at h
      cases i with
      | zero => simp
      | succ i =>
        have := numR_at k xs f (at_ + k) i (by simpa using h)
        simp only [List.getElem_cons_succ]
        rw [this]
        simp only [Int.natCast_add, Int.natCast_one, Int.add_mul]
        omega
    · rename_i hc
      rw [if_neg hc] at h
      simp at h
theorem numR_len (k : Nat) (xs : List Int) : ∀ f at_ : Nat, (numR k xs f at_).length ≤ f
  | 0, _ => by simp [numR]
  | f + 1, at_ => by
    unfold numR
    split
    · have := numR_len k xs f (at_ + k); simp; omega
    · simp
theorem eachN_at {k : Int} {xs : List Int} {i : Nat} (h : i < (eachN k xs).length) : (eachN k xs)[i].1 = i * k := by
  unfold eachN at h ⊢
  split
  · rename_i hc
    obtain ⟨m, rfl, _⟩ := hc.nat
    rw [if_pos hc] at h
    have := numR_at m xs (xs.length + 1) 0 i (by simpa using h)
    simpa using this
  · rename_i hc
    rw [if_neg hc] at h
    simp at h
theorem eachN_len (k : Int) (xs : List Int) : (eachN k xs).length ≤ xs.length + 1 := by
  unfold eachN
  split
  · exact numR_len _ _ _ _
  · simp

end Go.Proofs.YtfbfdjcdjogefaaDoor
