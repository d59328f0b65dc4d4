/- Layer 4 in plain words: why an entry is left out; a good entry of Tag 0 is the entry of its prefix. -/
import Derived.Test.YtfbfdjcdjogefaaDoorV1
import Derived.Test.YtfbfdjcdjogefaaDoorA2
namespace Go.Proofs.YtfbfdjcdjogefaaDoor
open Go Go.RowKit

/-- Is an address of a kind that is left out? -/
def kindX (a m : Int) : Prop := (2 ≤ kindOf a ∧ kindOf a ≤ 5) ∨ (kindOf a = 1 ∧ m ≠ 0)
instance (a m : Int) : Decidable (kindX a m) := inferInstanceAs (Decidable (_ ∨ _))
/-- Why an entry is left out. -/
def whyE (e : Ent) : Int :=
  if e.f ≠ 2 then 1 else
  match lenF e.m with
  | none => 2
  | some j => if ¬ right e.a j then 3 else if kindX e.a e.m then 4 else if e.n ≠ 0 then 5 else if e.k < 1 ∨ 16 < e.k then 6 else 0
/-- May a prefix be told? -/
def goodP (a n : Int) : Prop := right a n ∧ ¬ kindX a (maskOf n.toNat)
instance (a n : Int) : Decidable (goodP a n) := inferInstanceAs (Decidable (_ ∧ _))
/-- The entry of a prefix. -/
def oneE (a n metric : Int) : Ent := ⟨2, 0, a, maskOf n.toNat, 0, metric⟩
/-- What an answer of Of is. -/
def ofE (a n metric : Int) : Option Ent := if goodP a n ∧ 1 ≤ metric ∧ metric ≤ 16 then some (oneE a n metric) else none
/-- A good entry's prefix. -/
def preE (e : Ent) : Option (Int × Int) := if whyE e = 0 then (lenF e.m).map (fun j => (e.a, (j : Int))) else none

theorem whyE_range (e : Ent) : 0 ≤ whyE e ∧ whyE e ≤ 6 := by
  unfold whyE
  split
  · decide
  · split
    · decide
    · split
      · decide
      · split
        · decide
        · split
          · decide
          · split <;> decide
/-- What is good is so in every way. -/
theorem whyE_zero {e : Ent} : whyE e = 0 ↔ e.f = 2 ∧ (∃ j : Nat, j ≤ 32 ∧ lenF e.m = some j ∧ maskOf j = e.m ∧ goodP e.a j) ∧ e.n = 0 ∧ 1 ≤ e.k ∧ e.k ≤ 16 := by
  unfold whyE
  constructor
  · intro h
    split at h
    · cases h
    · rename_i hf
      split at h
      · cases h
      · rename_i j hj
        obtain ⟨j32, hm⟩ := lenF_is hj
        split at h
        · cases h
        · rename_i hr
          split at h
          · cases h
          · rename_i hk
            split at h
            · cases h
            · rename_i hn
              split at h
              · cases h
              · rename_i hq
                exact ⟨Decidable.not_not.1 hf, ⟨j, j32, hj, hm, Decidable.not_not.1 hr, by rw [Int.toNat_natCast, hm]; exact hk⟩, Decidable.not_not.1 hn, by omega, by omega⟩
  · rintro ⟨hf, ⟨j, j32, hj, hm, hr, hk⟩, hn, h1, h2⟩
    rw [Int.toNat_natCast, hm] at hk
    rw [if_neg (not_not_intro hf), hj]
    dsimp only
    rw [if_neg (not_not_intro hr), if_neg hk, if_neg (not_not_intro hn), if_neg (by omega)]

/-- The entry of a prefix is good, and its prefix is that. -/
theorem pre_one {a n metric : Int} (hg : goodP a n) (h1 : 1 ≤ metric) (h2 : metric ≤ 16) : whyE (oneE a n metric) = 0 ∧ preE (oneE a n metric) = some (a, n) := by
  obtain ⟨j, rfl⟩ : ∃ j : Nat, n = j := ⟨n.toNat, by have := hg.1.1; omega⟩
  have j32 : j ≤ 32 := by have := hg.1.2.1; omega
  have hl : lenF (oneE a j metric).m = some j := lenF_some j32 (by simp [oneE])
  have hw : whyE (oneE a j metric) = 0 := whyE_zero.2 ⟨rfl, ⟨j, j32, hl, by simp [oneE], hg⟩, rfl, h1, h2⟩
  refine ⟨hw, ?_⟩
  unfold preE
  rw [if_pos hw, hl]
  rfl
/-- A good entry is, but for its Tag, the entry of its prefix. -/
theorem one_pre {e : Ent} (h : whyE e = 0) : ∃ n : Int, preE e = some (e.a, n) ∧ ofE e.a n e.k = some (oneE e.a n e.k) ∧ { oneE e.a n e.k with t := e.t } = e ∧ maskOf n.toNat = e.m ∧ 0 ≤ n ∧ n ≤ 32 := by
  obtain ⟨hf, ⟨j, j32, hj, hm, hg⟩, hn, h1, h2⟩ := whyE_zero.1 h
  refine ⟨j, ?_, ?_, ?_, by simpa using hm, by omega, by omega⟩
  · unfold preE
    rw [if_pos h, hj]
    rfl
  · unfold ofE
    rw [if_pos ⟨hg, h1, h2⟩]
  · unfold oneE
    rw [Int.toNat_natCast, hm, ← hf, ← hn]
theorem preE_none {e : Ent} (h : whyE e ≠ 0) : preE e = none := if_neg h
theorem preE_same {e g : Ent} (he : whyE e = 0) (hg : whyE g = 0) : preE e = preE g ↔ e.a = g.a ∧ e.m = g.m := by
  obtain ⟨n, h1, _, _, hm, n0, n1⟩ := one_pre he
  obtain ⟨n', h1', _, _, hm', n0', n1'⟩ := one_pre hg
  rw [h1, h1', ← hm, ← hm']
  constructor
  · intro h
    have h2 := Option.some.inj h
    have h3 : n = n' := congrArg Prod.snd h2
    exact ⟨congrArg Prod.fst h2, by rw [h3]⟩
  · rintro ⟨ha, hmm⟩
    have := maskOf_inj _ _ (by omega) (by omega) hmm
    rw [ha, show n = n' by omega]
end Go.Proofs.YtfbfdjcdjogefaaDoor
