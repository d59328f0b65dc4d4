/- Contract of layer 3's Each: the numbers that stand one behind the other. -/
import Derived.Test.YtfbfdjcdjogefaaDoorE3
import Derived.Test.YtfbfdjcdjogefaaDoorG0
namespace Go.Proofs.YtfbfdjcdjogefaaDoor
open Go Go.RowKit Go.Shelf Go.Sort
attribute [local go_sem] Oper.semAt_some

theorem yield_wide {a : Nat} {P : Program} {l : Nat} {args : Array Value} {W : World} {R : Ending → World → Prop} (h : YieldAt Fence.wide a P l args W R) (b l2 : Nat) : YieldAt (Fence.wide.inRound l2) b P l args W R := by
  obtain ⟨fn, tmps, assign, body, hy, hF, hc⟩ := h
  exact ⟨fn, tmps, assign, body, hy, hF, fun c cs _ => hc c cs (fun d hd => by cases hd)⟩

theorem below_drewE (w : World) : Below w.heap.size w w.drew := ⟨rfl, rfl, rfl, Nat.le_refl _, fun _ _ => rfl⟩
/-- The number of a piece, with its place. -/
def tellP (xs : List Int) (x : Nat × Nat) : Int × Int := (x.1, valB ((xs.drop x.1).take x.2))
/-- What Each tells: the pieces that are whole. -/
def numsF (k : Nat) (xs : List Int) : List (Int × Int) := ((pcs k xs.length (xs.length + 1) 0).takeWhile (fun x => x.2 == k)).map (tellP xs)

theorem pcs_mem {k n : Nat} (hk : 1 ≤ k) : ∀ (f at_ : Nat) (x : Nat × Nat), x ∈ pcs k n f at_ → x.1 < n ∧ x.1 + x.2 ≤ n ∧ 1 ≤ x.2 ∧ x.2 ≤ k
  | 0, _, _, h => by simp [pcs] at h
  | f + 1, at_, x, h => by
    unfold pcs at h
    split at h
    · rcases List.mem_cons.1 h with rfl | h
      · simp; omega
      · exact pcs_mem hk f _ x h
    · cases h

theorem takeWhile_all {α : Type} (p : α → Bool) : ∀ l : List α, (∀ x ∈ l, p x = true) → l.takeWhile p = l
  | [], _ => rfl
  | a :: l, h => by rw [List.takeWhile_cons, if_pos (h a (by simp)), takeWhile_all p l (fun x hx => h x (by simp [hx]))]
theorem takeWhile_stop {α : Type} (p : α → Bool) : ∀ (l : List α) (x : α) (r : List α), (∀ y ∈ l, p y = true) → p x = false → (l ++ x :: r).takeWhile p = l
  | [], x, r, _, hx => by simp [hx]
  | a :: l, x, r, h, hx => by rw [List.cons_append, List.takeWhile_cons, if_pos (h a (by simp)), takeWhile_stop p l x r (fun y hy => h y (by simp [hy])) hx]
theorem takeWhile_pre {α : Type} (p : α → Bool) : ∀ (l r : List α), (∀ y ∈ l, p y = true) → l <+: (l ++ r).takeWhile p
  | [], r, _ => List.nil_prefix
  | a :: l, r, h => by
    rw [List.cons_append, List.takeWhile_cons, if_pos (h a (by simp))]
    exact (List.cons_prefix_cons).2 ⟨rfl, takeWhile_pre p l r (fun y hy => h y (by simp [hy]))⟩

theorem nums_done {α : Type} {β : Type} (K : Nat) (f : Nat × Nat → β) (v : α → Nat × Nat) (q : List α) (P : List (Nat × Nat)) (h : q.map v = P) (hq : ∀ z ∈ q, (v z).2 = K) : (q.map fun z => f (v z)) = (P.takeWhile (fun x => x.2 == K)).map f := by
  subst h
  rw [takeWhile_all _ _ (fun y hy => by obtain ⟨z, hz, rfl⟩ := List.mem_map.1 hy; simp [hq z hz]), List.map_map]
  rfl
theorem nums_stop {α : Type} {β : Type} (K : Nat) (f : Nat × Nat → β) (v : α → Nat × Nat) (q : List α) (x : α) (P : List (Nat × Nat)) (h : (q ++ [x]).map v <+: P) (hq : ∀ z ∈ q, (v z).2 = K) (hx : (v x).2 ≠ K) : (q.map fun z => f (v z)) = (P.takeWhile (fun x => x.2 == K)).map f := by
  obtain ⟨r, rfl⟩ := h
  rw [List.map_append, List.map_singleton, List.append_assoc, List.singleton_append, takeWhile_stop _ _ _ _ (fun y hy => by obtain ⟨z, hz, rfl⟩ := List.mem_map.1 hy; simp [hq z hz]) (by simpa using hx), List.map_map]
  rfl
theorem nums_left {α : Type} {β : Type} (K : Nat) (f : Nat × Nat → β) (v : α → Nat × Nat) (q : List α) (P : List (Nat × Nat)) (h : q.map v <+: P) (hq : ∀ z ∈ q, (v z).2 = K) : (q.map fun z => f (v z)) <+: (P.takeWhile (fun x => x.2 == K)).map f := by
  obtain ⟨r, rfl⟩ := h
  have h2 := (takeWhile_pre (fun y : Nat × Nat => y.2 == K) (q.map v) r (fun y hy => by obtain ⟨z, hz, rfl⟩ := List.mem_map.1 hy; simp [hq z hz])).map f
  rw [List.map_map] at h2
  exact h2

/-- How a round leaves: at a piece that is not whole, or as the caller wants no more. -/
def EachX (K : Nat) (xs : List Int) (J Jx : List (Int × Int) → World → Prop) (q : List (Pc K xs.length)) (W : World) : Prop := ∃ (pre : List (Pc K xs.length)) (x : Pc K xs.length), q = pre ++ [x] ∧ (∀ y ∈ pre, y.1.2 = K) ∧ ((x.1.2 ≠ K ∧ J (pre.map fun y => tellP xs y.1) W) ∨ (x.1.2 = K ∧ Jx ((pre ++ [x]).map fun y => tellP xs y.1) W))

/-- The blocks of K are as they were. -/
def AsIn (K : Nat → Prop) (W2 W : World) : Prop := W2.heap.size ≤ W.heap.size ∧ ∀ k, k < W2.heap.size → K k → W.heap[k]? = W2.heap[k]?
theorem AsIn.cell {K : Nat → Prop} {W2 W : World} (h : AsIn K W2 W) {b i : Nat} {v : Value} (hb : K b) (hc : W2.cell? ⟨b, i, none⟩ = some v) : W.cell? ⟨b, i, none⟩ = some v := by
  have hl := World.block_lt_of_cell? _ _ hc
  simp only [World.cell?, h.2 b hl hb] at hc ⊢
  exact hc
theorem AsIn.kept {K : Nat → Prop} {E : Nat} {W2 A B : World} (h : AsIn K W2 A) (k : Kept2 K E A B) : AsIn K W2 B :=
  ⟨Nat.le_trans h.1 k.size, fun i hl hi => (k.block i (Nat.lt_of_lt_of_le hl h.1) (.inl hi)).trans (h.2 i hl hi)⟩
theorem AsIn.byS {K : Nat → Prop} {W2 W : World} (h : AsIn K W2 W) {g : Nat} {xs : List Int} (hb : K g) (hx : ByS W2 (some ⟨g, 0, none⟩) xs) : ByS W (some ⟨g, 0, none⟩) xs := fun hn => by
  obtain ⟨b, o, e, hl, hc⟩ := hx hn
  cases e
  exact ⟨g, 0, rfl, Nat.lt_of_lt_of_le hl h.1, fun i hi => h.cell hb (hc i hi)⟩
theorem asIn_own {β : Type} {M : Obj → Bool} {K : Nat → Prop} {W2 : World} : OwnM M W2.heap.size (fun (_ : β) W => AsIn K W2 W) := fun _ A B hs ⟨row, hg, hr⟩ =>
  ⟨Nat.le_trans hs.1 hg.size, fun k hl hk => (hg.block k (Nat.lt_of_lt_of_le hl hs.1) (fun e => by have := (hr k e.symm).1; omega)).trans (hs.2 k hl hk)⟩

end Go.Proofs.YtfbfdjcdjogefaaDoor
