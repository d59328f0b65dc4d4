/- Layer 4 in plain words: an entry, its bytes, why it is left out, its prefix; that each is read back. -/
import Derived.Test.YtfbfdjcdjogefaaDoorO1
import Derived.Test.YtfbfdjcdjogefaaDoorC1
namespace Go.Proofs.YtfbfdjcdjogefaaDoor
open Go Go.RowKit

/-- An entry. -/
structure Ent where
  f : Int
  t : Int
  a : Int
  m : Int
  n : Int
  k : Int
deriving DecidableEq
/-- What its types ask. -/
structure Ent.Ok (e : Ent) : Prop where
  a0 : 0 ≤ e.a
  a1 : e.a < 4294967296
  m0 : 0 ≤ e.m
  m1 : e.m < 4294967296
  n0 : 0 ≤ e.n
  n1 : e.n < 4294967296
  k0 : 0 ≤ e.k
  k1 : e.k < 4294967296
def rightE (e : Ent) : Prop := 0 ≤ e.f ∧ e.f ≤ 65535 ∧ 0 ≤ e.t ∧ e.t ≤ 65535
instance (e : Ent) : Decidable (rightE e) := inferInstanceAs (Decidable (_ ∧ _ ∧ _ ∧ _))
/-- Its bytes. -/
def bytesE (e : Ent) : List Int := be 2 e.f ++ (be 2 e.t ++ (be 4 e.a ++ (be 4 e.m ++ (be 4 e.n ++ be 4 e.k))))
/-- The entry of bytes. -/
def readE (xs : List Int) : Ent := ⟨valB (xs.take 2), valB ((xs.drop 2).take 2), valB ((xs.drop 4).take 4), valB ((xs.drop 8).take 4), valB ((xs.drop 12).take 4), valB ((xs.drop 16).take 4)⟩

theorem bytesE_len (e : Ent) : (bytesE e).length = 20 := by simp [bytesE]
theorem bytesE_is (e : Ent) : IsBytes (bytesE e) := (isBytes_be _ _).app ((isBytes_be _ _).app ((isBytes_be _ _).app ((isBytes_be _ _).app ((isBytes_be _ _).app (isBytes_be _ _)))))

theorem cut_be (j : Nat) (x : Int) (l : List Int) : ((be j x) ++ l).take j = be j x ∧ ((be j x) ++ l).drop j = l :=
  ⟨List.take_left' (be_length j x), List.drop_left' (be_length j x)⟩
theorem read_bytesE {e : Ent} (hr : rightE e) (ho : e.Ok) (r : List Int) : readE (bytesE e ++ r) = e := by
  obtain ⟨f0, f1, t0, t1⟩ := hr
  have v2 : ∀ x : Int, 0 ≤ x → x ≤ 65535 → valB (be 2 x) = x := fun x h0 h1 => val_be (by omega) h0 (by omega)
  have v4 : ∀ x : Int, 0 ≤ x → x < 4294967296 → valB (be 4 x) = x := fun x h0 h1 => val_be (by omega) h0 (by omega)
  have d : ∀ (i j : Nat) (l : List Int), l.drop (i + j) = (l.drop i).drop j := fun i j l => by rw [List.drop_drop]
  have key : ∀ (j : Nat) (x : Int) (l : List Int) (i : Nat) (L : List Int), L.drop i = be j x ++ l → (L.drop i).take j = be j x ∧ L.drop (i + j) = l := fun j x l i L h => by
    rw [d, h]
    exact cut_be j x l
  unfold bytesE
  simp only [List.append_assoc]
  generalize hL : be 2 e.f ++ (be 2 e.t ++ (be 4 e.a ++ (be 4 e.m ++ (be 4 e.n ++ (be 4 e.k ++ r))))) = L
  obtain ⟨t0', d0⟩ := key _ _ _ 0 L (by rw [List.drop_zero]; exact hL.symm)
  obtain ⟨t1', d1⟩ := key _ _ _ (0 + 2) L d0
  obtain ⟨t2', d2⟩ := key _ _ _ (0 + 2 + 2) L d1
  obtain ⟨t3', d3⟩ := key _ _ _ (0 + 2 + 2 + 4) L d2
  obtain ⟨t4', d4⟩ := key _ _ _ (0 + 2 + 2 + 4 + 4) L d3
  obtain ⟨t5', _⟩ := key _ _ _ (0 + 2 + 2 + 4 + 4 + 4) L d4
  simp only [Nat.reduceAdd, List.drop_zero] at t0' t1' t2' t3' t4' t5'
  unfold readE
  rw [t0', t1', t2', t3', t4', t5', v2 _ f0 f1, v2 _ t0 t1, v4 _ ho.a0 ho.a1, v4 _ ho.m0 ho.m1, v4 _ ho.n0 ho.n1, v4 _ ho.k0 ho.k1]
theorem bytesE_inj {e g : Ent} (hr : rightE e) (ho : e.Ok) (hr' : rightE g) (ho' : g.Ok) (h : bytesE e = bytesE g) : e = g := by
  have h1 := read_bytesE hr ho []
  rw [h, read_bytesE hr' ho' []] at h1
  exact h1.symm

theorem bytes_readE {xs : List Int} (hb : IsBytes xs) (hl : 20 ≤ xs.length) : bytesE (readE xs) = xs.take 20 ∧ rightE (readE xs) ∧ (readE xs).Ok := by
  have p : ∀ i j : Nat, (j = 1 ∨ j = 2 ∨ j = 4) → i + j ≤ xs.length → be j (valB ((xs.drop i).take j)) = (xs.drop i).take j ∧ 0 ≤ valB ((xs.drop i).take j) ∧ valB ((xs.drop i).take j) < 256 ^ j := fun i j hj h =>
    be_val hj (by simp; omega) ((hb.drop i).take j)
  obtain ⟨e0, l0, u0⟩ := p 0 2 (by omega) (by omega)
  obtain ⟨e1, l1, u1⟩ := p 2 2 (by omega) (by omega)
  obtain ⟨e2, l2, u2⟩ := p 4 4 (by omega) (by omega)
  obtain ⟨e3, l3, u3⟩ := p 8 4 (by omega) (by omega)
  obtain ⟨e4, l4, u4⟩ := p 12 4 (by omega) (by omega)
  obtain ⟨e5, l5, u5⟩ := p 16 4 (by omega) (by omega)
  simp only [List.drop_zero] at e0 l0 u0
  have cat : ∀ i j : Nat, ∀ l : List Int, l.take i ++ (l.drop i).take j = l.take (i + j) := fun i j l => by rw [List.take_add]
  refine ⟨?_, ⟨l0, by show valB _ ≤ _; omega, l1, by show valB _ ≤ _; omega⟩, ⟨l2, u2, l3, u3, l4, u4, l5, u5⟩⟩
  show be 2 _ ++ (be 2 _ ++ (be 4 _ ++ (be 4 _ ++ (be 4 _ ++ be 4 _)))) = _
  dsimp only [readE]
  rw [e0, e1, e2, e3, e4, e5, ← List.append_assoc, ← List.append_assoc, ← List.append_assoc, ← List.append_assoc, cat, cat, cat, cat, cat]

/-- A mask's length. -/
def lenF (m : Int) : Option Nat := (List.range 33).find? (fun j => maskOf j == m)
theorem lenF_some {m : Int} {j : Nat} (hj : j ≤ 32) (h : maskOf j = m) : lenF m = some j := by
  unfold lenF
  cases hf : (List.range 33).find? (fun j => maskOf j == m) with
  | none => exact absurd (List.find?_eq_none.1 hf j (by simp; omega)) (by simp [h])
  | some i =>
    have h1 : maskOf i = m := by simpa using List.find?_some hf
    have h2 : i < 33 := by simpa using List.mem_of_find?_eq_some hf
    rw [maskOf_inj i j (by omega) hj (h1.trans h.symm)]
theorem lenF_none {m : Int} (h : ∀ j, j ≤ 32 → maskOf j ≠ m) : lenF m = none :=
  List.find?_eq_none.2 fun j hj => by simpa using h j (by have : j < 33 := by simpa using hj
                                                          omega)
theorem lenF_is {m : Int} {j : Nat} (h : lenF m = some j) : j ≤ 32 ∧ maskOf j = m := by
  have h1 : maskOf j = m := by simpa using List.find?_some h
  have h2 : j < 33 := by simpa using List.mem_of_find?_eq_some h
  exact ⟨by omega, h1⟩
end Go.Proofs.YtfbfdjcdjogefaaDoor
