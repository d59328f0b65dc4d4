/- Merged by tools/merge.py: V1, V2, V3. -/
import Derived.Test.YtehhablobfaplaaDoorO9
import Derived.Test.YtehhablobfaplaaDoorC4
import Derived.Test.YtehhablobfaplaaDoorA2
namespace Go.Proofs.YtehhablobfaplaaDoor
open Go Go.RowKit

/-- An entry. -/
structure Ent where
  f : Int
  t : Int
  a : Int
  m : Int
  n : Int
  k : Int
deriving DecidableEq
/-- What its types ask. -/
structure Ent.Ok (e : Ent) : Prop where
  a0 : 0 ≤ e.a
  a1 : e.a < 4294967296
  m0 : 0 ≤ e.m
  m1 : e.m < 4294967296
  n0 : 0 ≤ e.n
  n1 : e.n < 4294967296
  k0 : 0 ≤ e.k
  k1 : e.k < 4294967296
def rightE (e : Ent) : Prop := 0 ≤ e.f ∧ e.f ≤ 65535 ∧ 0 ≤ e.t ∧ e.t ≤ 65535
instance (e : Ent) : Decidable (rightE e) := inferInstanceAs (Decidable (_ ∧ _ ∧ _ ∧ _))
/-- Its bytes. -/
def bytesE (e : Ent) : List Int := be 2 e.f ++ (be 2 e.t ++ (be 4 e.a ++ (be 4 e.m ++ (be 4 e.n ++ be 4 e.k))))
/-- The entry of bytes. -/
def readE (xs : List Int) : Ent := ⟨valB (xs.take 2), valB ((xs.drop 2).take 2), valB ((xs.drop 4).take 4), valB ((xs.drop 8).take 4), valB ((xs.drop 12).take 4), valB ((xs.drop 16).take 4)⟩

theorem bytesE_len (e : Ent) : (bytesE e).length = 20 := by simp [bytesE]
theorem bytesE_is (e : Ent) : IsBytes (bytesE e) := (isBytes_be _ _).app ((isBytes_be _ _).app ((isBytes_be _ _).app ((isBytes_be _ _).app ((isBytes_be _ _).app (isBytes_be _ _)))))

theorem cut_be (j : Nat) (x : Int) (l : List Int) : ((be j x) ++ l).take j = be j x ∧ ((be j x) ++ l).drop j = l :=
  ⟨List.take_left' (be_length j x), List.drop_left' (be_length j x)⟩
theorem read_bytesE {e : Ent} (hr : rightE e) (ho : e.Ok) (r : List Int) : readE (bytesE e ++ r) = e := by
  obtain ⟨f0, f1, t0, t1⟩ := hr
  have v2 : ∀ x : Int, 0 ≤ x → x ≤ 65535 → valB (be 2 x) = x := fun x h0 h1 => val_be (by omega) h0 (by omega)
  have v4 : ∀ x : Int, 0 ≤ x → x < 4294967296 → valB (be 4 x) = x := fun x h0 h1 => val_be (by omega) h0 (by omega)
  have d : ∀ (i j : Nat) (l : List Int), l.drop (i + j) = (l.drop i).drop j := fun i j l => by rw [List.drop_drop]
  have key : ∀ (j : Nat) (x : Int) (l : List Int) (i : Nat) (L : List Int), L.drop i = be j x ++ l → (L.drop i).take j = be j x ∧ L.drop (i + j) = l := fun j x l i L h => by
    rw [d, h]
    exact cut_be j x l
  unfold bytesE
  simp only [List.append_assoc]
  generalize hL : be 2 e.f ++ (be 2 e.t ++ (be 4 e.a ++ (be 4 e.m ++ (be 4 e.n ++ (be 4 e.k ++ r))))) = L
  obtain ⟨t0', d0⟩ := key _ _ _ 0 L (by rw [List.drop_zero]; exact hL.symm)
  obtain ⟨t1', d1⟩ := key _ _ _ (0 + 2) L d0
  obtain ⟨t2', d2⟩ := key _ _ _ (0 + 2 + 2) L d1
  obtain ⟨t3', d3⟩ := key _ _ _ (0 + 2 + 2 + 4) L d2
  obtain ⟨t4', d4⟩ := key _ _ _ (0 + 2 + 2 + 4 + 4) L d3
  obtain ⟨t5', _⟩ := key _ _ _ (0 + 2 + 2 + 4 + 4 + 4) L d4
  simp only [Nat.reduceAdd, List.drop_zero] at t0' t1' t2' t3' t4' t5'
  unfold readE
  rw [t0', t1', t2', t3', t4', t5', v2 _ f0 f1, v2 _ t0 t1, v4 _ ho.a0 ho.a1, v4 _ ho.m0 ho.m1, v4 _ ho.n0 ho.n1, v4 _ ho.k0 ho.k1]
theorem bytesE_inj {e g : Ent} (hr : rightE e) (ho : e.Ok) (hr' : rightE g) (ho' : g.Ok) (h : bytesE e = bytesE g) : e = g := by
  have h1 := read_bytesE hr ho []
  rw [h, read_bytesE hr' ho' []] at h1
  exact h1.symm

theorem bytes_readE {xs : List Int} (hb : IsBytes xs) (hl : 20 ≤ xs.length) : bytesE (readE xs) = xs.take 20 ∧ rightE (readE xs) ∧ (readE xs).Ok := by
  have p : ∀ i j : Nat, (j = 1 ∨ j = 2 ∨ j = 4) → i + j ≤ xs.length → be j (valB ((xs.drop i).take j)) = (xs.drop i).take j ∧ 0 ≤ valB ((xs.drop i).take j) ∧ valB ((xs.drop i).take j) < 256 ^ j := fun i j hj h =>
    be_val hj (by simp; omega) ((hb.drop i).take j)
  obtain ⟨e0, l0, u0⟩ := p 0 2 (by omega) (by omega)
  obtain ⟨e1, l1, u1⟩ := p 2 2 (by omega) (by omega)
  obtain ⟨e2, l2, u2⟩ := p 4 4 (by omega) (by omega)
  obtain ⟨e3, l3, u3⟩ := p 8 4 (by omega) (by omega)
  obtain ⟨e4, l4, u4⟩ := p 12 4 (by omega) (by omega)
  obtain ⟨e5, l5, u5⟩ := p 16 4 (by omega) (by omega)
  simp only [List.drop_zero] at e0 l0 u0
  have cat : ∀ i j : Nat, ∀ l : List Int, l.take i ++ (l.drop i).take j = l.take (i + j) := fun i j l => by rw [List.take_add]
  refine ⟨?_, ⟨l0, by show valB _ ≤ _; omega, l1, by show valB _ ≤ _; omega⟩, ⟨l2, u2, l3, u3, l4, u4, l5, u5⟩⟩
  show be 2 _ ++ (be 2 _ ++ (be 4 _ ++ (be 4 _ ++ (be 4 _ ++ be 4 _)))) = _
  dsimp only [readE]
  rw [e0, e1, e2, e3, e4, e5, ← List.append_assoc, ← List.append_assoc, ← List.append_assoc, ← List.append_assoc, cat, cat, cat, cat, cat]

/-- A mask's length. -/
def lenF (m : Int) : Option Nat := (List.range 33).find? (fun j => maskOf j == m)
theorem lenF_some {m : Int} {j : Nat} (hj : j ≤ 32) (h : maskOf j = m) : lenF m = some j := by
  unfold lenF
  cases hf : (List.range 33).find? (fun j => maskOf j == m) with
  | none => exact absurd (List.find?_eq_none.1 hf j (by simp; omega)) (by simp [h])
  | some i =>
    have h1 : maskOf i = m := by simpa using List.find?_some hf
    have h2 : i < 33 := by simpa using List.mem_of_find?_eq_some hf
    rw [maskOf_inj i j (by omega) hj (h1.trans h.symm)]
theorem lenF_none {m : Int} (h : ∀ j, j ≤ 32 → maskOf j ≠ m) : lenF m = none :=
  List.find?_eq_none.2 fun j hj => by simpa using h j (by have : j < 33 := by simpa using hj
                                                          omega)
theorem lenF_is {m : Int} {j : Nat} (h : lenF m = some j) : j ≤ 32 ∧ maskOf j = m := by
  have h1 : maskOf j = m := by simpa using List.find?_some h
  have h2 : j < 33 := by simpa using List.mem_of_find?_eq_some h
  exact ⟨by omega, h1⟩
end Go.Proofs.YtehhablobfaplaaDoor

namespace Go.Proofs.YtehhablobfaplaaDoor
open Go Go.RowKit

/-- Is an address of a kind that is left out? -/
def kindX (a m : Int) : Prop := (2 ≤ kindOf a ∧ kindOf a ≤ 5) ∨ (kindOf a = 1 ∧ m ≠ 0)
instance (a m : Int) : Decidable (kindX a m) := inferInstanceAs (Decidable (_ ∨ _))
/-- Why an entry is left out. -/
def whyE (e : Ent) : Int :=
  if e.f ≠ 2 then 1 else
  match lenF e.m with
  | none => 2
  | some j => if ¬ right e.a j then 3 else if kindX e.a e.m then 4 else if e.n ≠ 0 then 5 else if e.k < 1 ∨ 16 < e.k then 6 else 0
/-- May a prefix be told? -/
def goodP (a n : Int) : Prop := right a n ∧ ¬ kindX a (maskOf n.toNat)
instance (a n : Int) : Decidable (goodP a n) := inferInstanceAs (Decidable (_ ∧ _))
/-- The entry of a prefix. -/
def oneE (a n metric : Int) : Ent := ⟨2, 0, a, maskOf n.toNat, 0, metric⟩
/-- What an answer of Of is. -/
def ofE (a n metric : Int) : Option Ent := if goodP a n ∧ 1 ≤ metric ∧ metric ≤ 16 then some (oneE a n metric) else none
/-- A good entry's prefix. -/
def preE (e : Ent) : Option (Int × Int) := if whyE e = 0 then (lenF e.m).map (fun j => (e.a, (j : Int))) else none

theorem whyE_range (e : Ent) : 0 ≤ whyE e ∧ whyE e ≤ 6 := by
  unfold whyE
  split
  · decide
  · split
    · decide
    · split
      · decide
      · split
        · decide
        · split
          · decide
          · split <;> decide
/-- What is good is so in every way. -/
theorem whyE_zero {e : Ent} : whyE e = 0 ↔ e.f = 2 ∧ (∃ j : Nat, j ≤ 32 ∧ lenF e.m = some j ∧ maskOf j = e.m ∧ goodP e.a j) ∧ e.n = 0 ∧ 1 ≤ e.k ∧ e.k ≤ 16 := by
  unfold whyE
  constructor
  · intro h
    split at h
    · cases h
    · rename_i hf
      split at h
      · cases h
      · rename_i j hj
        obtain ⟨j32, hm⟩ := lenF_is hj
        split at h
        · cases h
        · rename_i hr
          split at h
          · cases h
          · rename_i hk
            split at h
            · cases h
            · rename_i hn
              split at h
              · cases h
              · rename_i hq
                exact ⟨Decidable.not_not.1 hf, ⟨j, j32, hj, hm, Decidable.not_not.1 hr, by rw [Int.toNat_natCast, hm]; exact hk⟩, Decidable.not_not.1 hn, by omega, by omega⟩
  · rintro ⟨hf, ⟨j, j32, hj, hm, hr, hk⟩, hn, h1, h2⟩
    rw [Int.toNat_natCast, hm] at hk
    rw [if_neg (not_not_intro hf), hj]
    dsimp only
    rw [if_neg (not_not_intro hr), if_neg hk, if_neg (not_not_intro hn), if_neg (by omega)]

/-- The entry of a prefix is good, and its prefix is that. -/
theorem pre_one {a n metric : Int} (hg : goodP a n) (h1 : 1 ≤ metric) (h2 : metric ≤ 16) : whyE (oneE a n metric) = 0 ∧ preE (oneE a n metric) = some (a, n) := by
  obtain ⟨j, rfl⟩ : ∃ j : Nat, n = j := ⟨n.toNat, by have := hg.1.1; omega⟩
  have j32 : j ≤ 32 := by have := hg.1.2.1; omega
  have hl : lenF (oneE a j metric).m = some j := lenF_some j32 (by simp [oneE])
  have hw : whyE (oneE a j metric) = 0 := whyE_zero.2 ⟨rfl, ⟨j, j32, hl, by simp [oneE], hg⟩, rfl, h1, h2⟩
  refine ⟨hw, ?_⟩
  unfold preE
  rw [if_pos hw, hl]
  rfl
/-- A good entry is, but for its Tag, the entry of its prefix. -/
theorem one_pre {e : Ent} (h : whyE e = 0) : ∃ n : Int, preE e = some (e.a, n) ∧ ofE e.a n e.k = some (oneE e.a n e.k) ∧ { oneE e.a n e.k with t := e.t } = e ∧ maskOf n.toNat = e.m ∧ 0 ≤ n ∧ n ≤ 32 := by
  obtain ⟨hf, ⟨j, j32, hj, hm, hg⟩, hn, h1, h2⟩ := whyE_zero.1 h
  refine ⟨j, ?_, ?_, ?_, by simpa using hm, by omega, by omega⟩
  · unfold preE
    rw [if_pos h, hj]
    rfl
  · unfold ofE
    rw [if_pos ⟨hg, h1, h2⟩]
  · unfold oneE
    rw [Int.toNat_natCast, hm, ← hf, ← hn]
theorem preE_none {e : Ent} (h : whyE e ≠ 0) : preE e = none := if_neg h
theorem preE_same {e g : Ent} (he : whyE e = 0) (hg : whyE g = 0) : preE e = preE g ↔ e.a = g.a ∧ e.m = g.m := by
  obtain ⟨n, h1, _, _, hm, n0, n1⟩ := one_pre he
  obtain ⟨n', h1', _, _, hm', n0', n1'⟩ := one_pre hg
  rw [h1, h1', ← hm, ← hm']
  constructor
  · intro h
    have h2 := Option.some.inj h
    have h3 : n = n' := congrArg Prod.snd h2
    exact ⟨congrArg Prod.fst h2, by rw [h3]⟩
  · rintro ⟨ha, hmm⟩
    have := maskOf_inj _ _ (by omega) (by omega) hmm
    rw [ha, show n = n' by omega]
end Go.Proofs.YtehhablobfaplaaDoor

namespace Go.Proofs.YtehhablobfaplaaDoor
open Go Go.RowKit

/-- The entries of bytes, from their head on. -/
def entsF : Nat → List Int → List Ent
  | 0, _ => []
  | f + 1, xs => if 20 ≤ xs.length then readE xs :: entsF f (xs.drop 20) else []
theorem entsF_stop (f : Nat) {xs : List Int} (h : ¬ 20 ≤ xs.length) : entsF f xs = [] := by cases f <;> simp [entsF, h]
theorem entsF_go (f : Nat) {xs : List Int} (h : 20 ≤ xs.length) : entsF (f + 1) xs = readE xs :: entsF f (xs.drop 20) := by rw [entsF, if_pos h]
theorem entsF_len : ∀ (f : Nat) (xs : List Int), xs.length / 20 ≤ f → (entsF f xs).length = xs.length / 20
  | 0, xs, h => by simp only [entsF, List.length_nil]; omega
  | f + 1, xs, h => by
    by_cases hl : 20 ≤ xs.length
    · rw [entsF_go f hl, List.length_cons, entsF_len f (xs.drop 20) (by rw [List.length_drop]; omega), List.length_drop]
      omega
    · rw [entsF_stop _ hl, List.length_nil]
      omega
theorem entsF_at : ∀ (f : Nat) (xs : List Int) (i : Nat) (h : i < (entsF f xs).length), (entsF f xs)[i] = readE (xs.drop (20 * i)) ∧ 20 * i + 20 ≤ xs.length
  | 0, _, _, h => by simp [entsF] at h
  | f + 1, xs, i, h => by
    by_cases hl : 20 ≤ xs.length
    · simp only [entsF_go f hl] at h ⊢
      cases i with
      | zero => exact ⟨by simp, by omega⟩
      | succ i =>
        have := entsF_at f (xs.drop 20) i (by simpa using h)
        rw [List.length_drop, List.drop_drop] at this
        rw [List.getElem_cons_succ]
        exact ⟨by rw [this.1, show 20 + 20 * i = 20 * (i + 1) by omega], by omega⟩
    · rw [entsF_stop _ hl] at h
      simp at h
/-- All of them. -/
def ents (xs : List Int) : List Ent := entsF (xs.length + 1) xs
theorem ents_len (xs : List Int) : (ents xs).length = xs.length / 20 := entsF_len _ _ (by omega)
theorem ents_at {xs : List Int} {i : Nat} (h : i < (ents xs).length) : (ents xs)[i] = readE (xs.drop (20 * i)) ∧ 20 * i + 20 ≤ xs.length := entsF_at _ _ _ h
theorem ents_ok {xs : List Int} (hb : IsBytes xs) {i : Nat} (h : i < (ents xs).length) : rightE (ents xs)[i] ∧ ((ents xs)[i]).Ok := by
  obtain ⟨e, hl⟩ := ents_at h
  rw [e]
  exact (bytes_readE (hb.drop (20 * i)) (by rw [List.length_drop]; omega)).2
end Go.Proofs.YtehhablobfaplaaDoor
