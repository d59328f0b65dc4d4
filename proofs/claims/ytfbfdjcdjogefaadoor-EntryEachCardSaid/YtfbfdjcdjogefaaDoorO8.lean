/- The walk of OctetReads, over what Put, Read and works promise. -/
import Derived.Test.YtfbfdjcdjogefaaDoorO7
import Derived.Lib.QuietBelow
import Derived.RegionTactic
import Derived.Deep.RegionHeld3
namespace Go.Proofs.YtfbfdjcdjogefaaDoor
open Go Go.RowKit Go.Sort
attribute [local go_sem] Oper.semAt_some
attribute [local irreducible] wpQuiet

theorem ByS.left {w : World} {p : Option Addr} {xs ys : List Int} (h : ByS w p (xs ++ ys)) : ByS w p xs := fun hn => by
  obtain ⟨b, o, e, hlt, hc⟩ := h (by simp; omega)
  refine ⟨b, o, e, hlt, fun i hi => ?_⟩
  rw [hc i (by simp; omega), List.getElem_append_left hi]
theorem ByS.window {w : World} {b o : Nat} {xs : List Int} (h : ByS w (some ⟨b, o, none⟩) xs) (q m : Nat) (hq : q + m ≤ xs.length) : ByS w (some ⟨b, o + q, none⟩) ((xs.drop q).take m) := fun hn => by
  have hl : ((xs.drop q).take m).length = m := by simp; omega
  obtain ⟨b', o', e, hlt, hc⟩ := h (by omega)
  cases e
  refine ⟨b, o + q, rfl, hlt, fun i hi => ?_⟩
  rw [Nat.add_assoc, hc (q + i) (by omega)]
  simp

/-- What is read, put again. -/
theorem read_put {xs : List Int} {at_ k : Int} (hb : IsBytes xs) (hz : readNo xs at_ k = 0) : ∃ q m : Nat, at_ = q ∧ k = m ∧ (m = 1 ∨ m = 2 ∨ m = 4) ∧ q + m ≤ xs.length ∧ 0 ≤ readN xs at_ k ∧ readN xs at_ k < 4294967296 ∧ putNo (readN xs at_ k) k = 0 ∧ putL (readN xs at_ k) k = (xs.drop q).take m := by
  have hk : W3 k := Classical.byContradiction fun hw => by unfold readNo at hz; rw [if_pos hw] at hz; cases hz
  have h2 := hz
  unfold readNo at h2
  rw [if_neg (by simpa using hk)] at h2
  by_cases ha : at_ < 0
  · rw [if_pos ha] at h2; cases h2
  · rw [if_neg ha] at h2
    by_cases hc : at_ > xs.length ∨ (xs.length : Int) - at_ < k
    · rw [if_pos hc] at h2; cases h2
    · obtain ⟨m, rfl, hm⟩ := hk.nat
      obtain ⟨q, rfl⟩ : ∃ q : Nat, at_ = q := ⟨at_.toNat, by omega⟩
      have hq : q + m ≤ xs.length := by omega
      have hv : readN xs q m = valB ((xs.drop q).take m) := by unfold readN; rw [if_pos hz]; simp
      have hl : ((xs.drop q).take m).length = m := by simp; omega
      obtain ⟨v1, v2, v3⟩ := be_val hm hl ((hb.drop q).take m)
      have hle : (256 : Int) ^ m ≤ 4294967296 := by rcases hm with rfl | rfl | rfl <;> decide
      have hno : putNo (readN xs q m) m = 0 := by
        unfold putNo
        rw [if_neg (by simpa using hk), Int.toNat_natCast, hv, if_neg]
        rw [Int.ediv_eq_zero_of_lt v2 v3]
        decide
      refine ⟨q, m, rfl, rfl, hm, hq, by rw [hv]; exact v2, by rw [hv]; omega, hno, ?_⟩
      unfold putL
      rw [if_pos hno, Int.toNat_natCast, hv, v1]

end Go.Proofs.YtfbfdjcdjogefaaDoor
