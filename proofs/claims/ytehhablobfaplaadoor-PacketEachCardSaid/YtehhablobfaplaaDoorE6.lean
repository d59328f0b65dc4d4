/- Merged by tools/merge.py: E3, E4, E5, E6. -/
import Derived.RangeFuncFrom
import Derived.RangeFuncNested
import Derived.RangeFuncBound
import Derived.RangeFuncCalls
import Derived.RangeFuncLeaves
import Derived.Shelf.Abstract
import Derived.Shelf.RegionOpen
import Derived.WalkKit
import Derived.OwnWalkIn
import Derived.TacticsInMore
import Derived.LoopNIn
import Derived.LoopIn
import Derived.RegionIn
import Derived.BigRegionIn
import Derived.Test.YtehhablobfaplaaDoorN2
import Derived.Test.YtehhablobfaplaaDoorR2
import Derived.Test.YtehhablobfaplaaDoorG0
import Derived.Test.YtehhablobfaplaaDoorN4
namespace Go.Proofs.YtehhablobfaplaaDoor
open Go Go.RowKit Go.Shelf Go.Sort
attribute [local go_sem] Oper.semAt_some

/-- The pieces, from a place on: each with its place and its length. -/
def pcs (k n : Nat) : Nat → Nat → List (Nat × Nat)
  | 0, _ => []
  | f + 1, at_ => if at_ < n then (at_, min k (n - at_)) :: pcs k n f (at_ + k) else []

/-- A piece, as it is told. -/
abbrev Pc (k N : Nat) := { x : Nat × Nat // x ∈ pcs k N (N + 1) 0 }
end Go.Proofs.YtehhablobfaplaaDoor

namespace Go.Proofs.YtehhablobfaplaaDoor
open Go Go.RowKit Go.Shelf Go.Sort
attribute [local go_sem] Oper.semAt_some

theorem yield_wide {a : Nat} {P : Program} {l : Nat} {args : Array Value} {W : World} {R : Ending → World → Prop} (h : YieldAt Fence.wide a P l args W R) (b l2 : Nat) : YieldAt (Fence.wide.inRound l2) b P l args W R := by
  obtain ⟨fn, tmps, assign, body, hy, hF, hc⟩ := h
  exact ⟨fn, tmps, assign, body, hy, hF, fun c cs _ => hc c cs (fun d hd => by cases hd)⟩

theorem below_drewE (w : World) : Below w.heap.size w w.drew := ⟨rfl, rfl, rfl, Nat.le_refl _, fun _ _ => rfl⟩
/-- The number of a piece, with its place. -/
def tellP (xs : List Int) (x : Nat × Nat) : Int × Int := (x.1, valB ((xs.drop x.1).take x.2))
/-- What Each tells: the pieces that are whole. -/
def numsF (k : Nat) (xs : List Int) : List (Int × Int) := ((pcs k xs.length (xs.length + 1) 0).takeWhile (fun x => x.2 == k)).map (tellP xs)

theorem pcs_mem {k n : Nat} (hk : 1 ≤ k) : ∀ (f at_ : Nat) (x : Nat × Nat), x ∈ pcs k n f at_ → x.1 < n ∧ x.1 + x.2 ≤ n ∧ 1 ≤ x.2 ∧ x.2 ≤ k
  | 0, _, _, h => by simp [pcs] at h
  | f + 1, at_, x, h => by
    unfold pcs at h
    split at h
    · rcases List.mem_cons.1 h with rfl | h
      · simp; omega
      · exact pcs_mem hk f _ x h
    · cases h

theorem takeWhile_all {α : Type} (p : α → Bool) : ∀ l : List α, (∀ x ∈ l, p x = true) → l.takeWhile p = l
  | [], _ => rfl
  | a :: l, h => by rw [List.takeWhile_cons, if_pos (h a (by simp)), takeWhile_all p l (fun x hx => h x (by simp [hx]))]
theorem takeWhile_stop {α : Type} (p : α → Bool) : ∀ (l : List α) (x : α) (r : List α), (∀ y ∈ l, p y = true) → p x = false → (l ++ x :: r).takeWhile p = l
  | [], x, r, _, hx => by simp [hx]
  | a :: l, x, r, h, hx => by rw [List.cons_append, List.takeWhile_cons, if_pos (h a (by simp)), takeWhile_stop p l x r (fun y hy => h y (by simp [hy])) hx]
theorem takeWhile_pre {α : Type} (p : α → Bool) : ∀ (l r : List α), (∀ y ∈ l, p y = true) → l <+: (l ++ r).takeWhile p
  | [], r, _ => List.nil_prefix
  | a :: l, r, h => by
    rw [List.cons_append, List.takeWhile_cons, if_pos (h a (by simp))]
    exact (List.cons_prefix_cons).2 ⟨rfl, takeWhile_pre p l r (fun y hy => h y (by simp [hy]))⟩

theorem nums_done {α : Type} {β : Type} (K : Nat) (f : Nat × Nat → β) (v : α → Nat × Nat) (q : List α) (P : List (Nat × Nat)) (h : q.map v = P) (hq : ∀ z ∈ q, (v z).2 = K) : (q.map fun z => f (v z)) = (P.takeWhile (fun x => x.2 == K)).map f := by
  subst h
  rw [takeWhile_all _ _ (fun y hy => by obtain ⟨z, hz, rfl⟩ := List.mem_map.1 hy; simp [hq z hz]), List.map_map]
  rfl
theorem nums_stop {α : Type} {β : Type} (K : Nat) (f : Nat × Nat → β) (v : α → Nat × Nat) (q : List α) (x : α) (P : List (Nat × Nat)) (h : (q ++ [x]).map v <+: P) (hq : ∀ z ∈ q, (v z).2 = K) (hx : (v x).2 ≠ K) : (q.map fun z => f (v z)) = (P.takeWhile (fun x => x.2 == K)).map f := by
  obtain ⟨r, rfl⟩ := h
  rw [List.map_append, List.map_singleton, List.append_assoc, List.singleton_append, takeWhile_stop _ _ _ _ (fun y hy => by obtain ⟨z, hz, rfl⟩ := List.mem_map.1 hy; simp [hq z hz]) (by simpa using hx), List.map_map]
  rfl
theorem nums_left {α : Type} {β : Type} (K : Nat) (f : Nat × Nat → β) (v : α → Nat × Nat) (q : List α) (P : List (Nat × Nat)) (h : q.map v <+: P) (hq : ∀ z ∈ q, (v z).2 = K) : (q.map fun z => f (v z)) <+: (P.takeWhile (fun x => x.2 == K)).map f := by
  obtain ⟨r, rfl⟩ := h
  have h2 := (takeWhile_pre (fun y : Nat × Nat => y.2 == K) (q.map v) r (fun y hy => by obtain ⟨z, hz, rfl⟩ := List.mem_map.1 hy; simp [hq z hz])).map f
  rw [List.map_map] at h2
  exact h2

/-- How a round leaves: at a piece that is not whole, or as the caller wants no more. -/
def EachX (K : Nat) (xs : List Int) (J Jx : List (Int × Int) → World → Prop) (q : List (Pc K xs.length)) (W : World) : Prop := ∃ (pre : List (Pc K xs.length)) (x : Pc K xs.length), q = pre ++ [x] ∧ (∀ y ∈ pre, y.1.2 = K) ∧ ((x.1.2 ≠ K ∧ J (pre.map fun y => tellP xs y.1) W) ∨ (x.1.2 = K ∧ Jx ((pre ++ [x]).map fun y => tellP xs y.1) W))

/-- The blocks of K are as they were. -/
def AsIn (K : Nat → Prop) (W2 W : World) : Prop := W2.heap.size ≤ W.heap.size ∧ ∀ k, k < W2.heap.size → K k → W.heap[k]? = W2.heap[k]?
theorem AsIn.cell {K : Nat → Prop} {W2 W : World} (h : AsIn K W2 W) {b i : Nat} {v : Value} (hb : K b) (hc : W2.cell? ⟨b, i, none⟩ = some v) : W.cell? ⟨b, i, none⟩ = some v := by
  have hl := World.block_lt_of_cell? _ _ hc
  simp only [World.cell?, h.2 b hl hb] at hc ⊢
  exact hc
theorem AsIn.kept {K : Nat → Prop} {E : Nat} {W2 A B : World} (h : AsIn K W2 A) (k : Kept2 K E A B) : AsIn K W2 B :=
  ⟨Nat.le_trans h.1 k.size, fun i hl hi => (k.block i (Nat.lt_of_lt_of_le hl h.1) (.inl hi)).trans (h.2 i hl hi)⟩
theorem AsIn.byS {K : Nat → Prop} {W2 W : World} (h : AsIn K W2 W) {g : Nat} {xs : List Int} (hb : K g) (hx : ByS W2 (some ⟨g, 0, none⟩) xs) : ByS W (some ⟨g, 0, none⟩) xs := fun hn => by
  obtain ⟨b, o, e, hl, hc⟩ := hx hn
  cases e
  exact ⟨g, 0, rfl, Nat.lt_of_lt_of_le hl h.1, fun i hi => h.cell hb (hc i hi)⟩
theorem asIn_own {β : Type} {M : Obj → Bool} {K : Nat → Prop} {W2 : World} : OwnM M W2.heap.size (fun (_ : β) W => AsIn K W2 W) := fun _ A B hs ⟨row, hg, hr⟩ =>
  ⟨Nat.le_trans hs.1 hg.size, fun k hl hk => (hg.block k (Nat.lt_of_lt_of_le hl hs.1) (fun e => by have := (hr k e.symm).1; omega)).trans (hs.2 k hl hk)⟩

end Go.Proofs.YtehhablobfaplaaDoor

namespace Go.Proofs.YtehhablobfaplaaDoor
open Go Go.RowKit Go.Shelf Go.Sort
attribute [local go_sem] Oper.semAt_some

/-- The numbers from a place on. -/
def numR (k : Nat) (xs : List Int) : Nat → Nat → List (Int × Int)
  | 0, _ => []
  | f + 1, at_ => if at_ + k ≤ xs.length then ((at_ : Int), readN xs at_ k) :: numR k xs f (at_ + k) else []

theorem readN_at {k : Nat} (hk : k = 1 ∨ k = 2 ∨ k = 4) {xs : List Int} {at_ : Nat} (h : at_ + k ≤ xs.length) : readN xs at_ k = valB ((xs.drop at_).take k) := by
  have hw : W3 (k : Int) := by rcases hk with rfl | rfl | rfl <;> simp [W3]
  have hz : readNo xs at_ k = 0 := by
    unfold readNo
    rw [if_neg (not_not_intro hw), if_neg (by omega), if_neg (by omega)]
  unfold readN
  rw [if_pos hz]
  simp

theorem pcs_numR {k : Nat} (hk : k = 1 ∨ k = 2 ∨ k = 4) (xs : List Int) : ∀ f at_ : Nat, ((pcs k xs.length f at_).takeWhile (fun x => x.2 == k)).map (tellP xs) = numR k xs f at_
  | 0, _ => rfl
  | f + 1, at_ => by
    unfold pcs numR
    by_cases h : at_ + k ≤ xs.length
    · rw [if_pos (by omega), if_pos h, List.takeWhile_cons, if_pos (by simp; omega), List.map_cons, pcs_numR hk xs f (at_ + k)]
      congr 1
      unfold tellP
      rw [readN_at hk h]
      simp only []
      rw [show min k (xs.length - at_) = k by omega]
    · rw [if_neg h]
      split
      · rw [List.takeWhile_cons, if_neg (by simp; omega)]; rfl
      · rfl

/-- What Each tells. -/
def eachN (k : Int) (xs : List Int) : List (Int × Int) := if W3 k then numR k.toNat xs (xs.length + 1) 0 else []
theorem eachN_eq (k : Int) (xs : List Int) : (if W3 k then numsF k.toNat xs else []) = eachN k xs := by
  unfold eachN numsF
  split
  · rename_i h
    obtain ⟨m, rfl, hm⟩ := h.nat
    rw [Int.toNat_natCast, pcs_numR hm]
  · rfl
theorem numR_at (k : Nat) (xs : List Int) : ∀ (f at_ i : Nat) (h : i < (numR k xs f at_).length), (numR k xs f at_)[i].1 = at_ + i * k
  | 0, _, _, h => by simp [numR] at h
  | f + 1, at_, i, h => by
    unfold numR at h ⊢
    split
    · rename_i hc
      rw [if_pos hc] at h
      cases i with
      | zero => simp
      | succ i =>
        have := numR_at k xs f (at_ + k) i (by simpa using h)
        simp only [List.getElem_cons_succ]
        rw [this]
        simp only [Int.natCast_add, Int.natCast_one, Int.add_mul]
        omega
    · rename_i hc
      rw [if_neg hc] at h
      simp at h
theorem numR_len (k : Nat) (xs : List Int) : ∀ f at_ : Nat, (numR k xs f at_).length ≤ f
  | 0, _ => by simp [numR]
  | f + 1, at_ => by
    unfold numR
    split
    · have := numR_len k xs f (at_ + k); simp; omega
    · simp
theorem eachN_at {k : Int} {xs : List Int} {i : Nat} (h : i < (eachN k xs).length) : (eachN k xs)[i].1 = i * k := by
  unfold eachN at h ⊢
  split
  · rename_i hc
    obtain ⟨m, rfl, _⟩ := hc.nat
    rw [if_pos hc] at h
    have := numR_at m xs (xs.length + 1) 0 i (by simpa using h)
    simpa using this
  · rename_i hc
    rw [if_neg hc] at h
    simp at h
theorem eachN_len (k : Int) (xs : List Int) : (eachN k xs).length ≤ xs.length + 1 := by
  unfold eachN
  split
  · exact numR_len _ _ _ _
  · simp

end Go.Proofs.YtehhablobfaplaaDoor

namespace Go.Proofs.YtehhablobfaplaaDoor
open Go Go.RowKit Go.Shelf Go.Sort
attribute [local go_sem] Oper.semAt_some

theorem infoU32e : (Tryd.prog.info? 52).map (fun i => (i.zero, i.size, i.bytes)) = some (some (.int .u32 0), 1, 4) := by kernel_rfl
/-- The numbers' cells. -/
def numCells (l : List (Int × Int)) : List Value := l.map (fun x => .int .u32 x.2)
theorem numCells_snoc (l : List (Int × Int)) (x : Int × Int) : numCells (l ++ [x]) = numCells l ++ [.int .u32 x.2] := by simp [numCells]

theorem numR_stop {k : Nat} (xs : List Int) (f at_ : Nat) (h : ¬ at_ + k ≤ xs.length) : numR k xs f at_ = [] := by
  cases f <;> simp [numR, h]
theorem numR_go {k : Nat} (xs : List Int) (f at_ : Nat) (h : at_ + k ≤ xs.length) : numR k xs (f + 1) at_ = ((at_ : Int), readN xs at_ k) :: numR k xs f (at_ + k) := by
  rw [numR, if_pos h]

/-- An own slice stays through a call. -/
theorem row_past {w w' : World} {base : Nat} {e : TypeId} {size : Nat} {v : Value} {n : Nat} {xs : List Value} (h : w.ownsRow base e size v n xs) (hb : Below w.heap.size w w') : w'.ownsRow base e size v n xs := by
  refine ⟨h.1, ?_⟩
  rcases h.2 with hn | ⟨g, cap, cur, rfl, hb', hgg, rest⟩
  · exact .inl hn
  · exact .inr ⟨g, cap, cur, rfl, hb', (hb.block g (Array.getElem?_eq_some_iff.1 hgg).1).trans hgg, rest⟩

/-- What is left to be told at a place. -/
def restN (k : Int) (xs : List Int) (f at_ : Nat) : List (Int × Int) := if W3 k then numR k.toNat xs f at_ else []
theorem restN_start (k : Int) (xs : List Int) : restN k xs (xs.length + 1) 0 = eachN k xs := rfl
theorem restN_stop {k : Int} {xs : List Int} {at_ : Nat} (f : Nat) (h : ¬ readNo xs at_ k = 0) : restN k xs f at_ = [] := by
  unfold restN
  split
  · rename_i hk
    obtain ⟨m, rfl, _⟩ := hk.nat
    refine numR_stop _ _ _ fun hh => h ?_
    simp only [Int.toNat_natCast] at hh
    unfold readNo
    rw [if_neg (not_not_intro hk), if_neg (by omega), if_neg (by omega)]
  · rfl
theorem restN_go {k : Int} {xs : List Int} {at_ : Nat} (f : Nat) (h : readNo xs at_ k = 0) : ∃ m : Nat, k = m ∧ 1 ≤ m ∧ m ≤ 4 ∧ at_ + m ≤ xs.length ∧ restN k xs (f + 1) at_ = ((at_ : Int), readN xs at_ k) :: restN k xs f (at_ + m) := by
  unfold readNo at h
  by_cases hk : W3 k
  · obtain ⟨m, rfl, hm⟩ := hk.nat
    rw [if_neg (not_not_intro hk), if_neg (by omega)] at h
    by_cases hl : (at_ : Int) + m > xs.length
    · exfalso
      split at h <;> simp_all <;> omega
    · have hl' : at_ + m ≤ xs.length := by omega
      refine ⟨m, rfl, by omega, by omega, hl', ?_⟩
      unfold restN
      rw [if_pos hk, if_pos hk, Int.toNat_natCast, numR_go _ _ _ hl']
  · rw [if_pos hk] at h
    exact absurd h (by decide)

/-- A range over such an iterator whose body may break out of it, or may return where what has come is none of what comes. -/
theorem rangeFuncT_brk {F : Fence} {n : Nat} {P : Program} {α : Type} {g : Operand} {ps : Array Tmp} {assign body : Code} {id : Nat} {Q : Exit → Act → World → Prop} {a : Act} {w : World}
    (hro : F.round = none) (h1 : 1 ≤ n) {gf : Nat} {lb : Array Value} (hg : a.eval g = .func (.func gf) #[] lb) (hFg : F.fn gf) (eg : ∀ args w, (callFunc gf args).run P w = .ok (.enter gf args) w)
    {encs : α → Array Value} {K₀ : Nat → Prop} {S Sp : List α → Prop} {N : Nat} {w0 : World} (hseq : SeqStopsT F (n - 1) P gf lb encs K₀ S Sp N w0)
    (hK₀ : ¬ K₀ (w.heap.size + 1)) (hb0 : Below w0.heap.size w0 w) (hps : ∀ x, (encs x).size = ps.size)
    (I : List α → World → Prop) (Iy : List α → World → Prop) (hI : OwnM (fun _ => true) w.heap.size I) (hIy : OwnM (fun _ => true) w.heap.size Iy) (h0 : I [] w) (a₁ : α → Act)
    (hassign : ∀ (l : Nat) (x : α) (W : World) (K : Act → World → Prop), K (a₁ x) W →
      assign.wpIn (F.inRound l) (n - 1 - 1) P (Exit.then K (fun _ _ _ => False)) { tmps := (ps.zip (encs x)).foldl (fun t (p, v) => t.setIfInBounds p v) a.tmps, defers := [] } W)
    (hbody : ∀ (l : Nat) (pre : List α) (x : α) (W : World), I pre W → pre.length < N → body.wpIn (F.inRound l) (n - 1 - 1) P (ownPostT w.heap.size K₀ (w.heap.size + 2) I (fun c pre W => (c = .ret ∧ ¬ Sp pre) ∨ (c = .exit id ∧ Iy pre W)) (pre ++ [x]) W) (a₁ x) W)
    (hafter : ∀ (D : Nat) (xs : List α) (W : World), w.heap.size ≤ D → (S xs ∧ I xs W ∨ Sp xs ∧ Iy xs W) → W.heap[D]? = some (.deferred (some [])) → Q .normal { a with defers := { target := .collected D, args := #[] } :: a.defers } W) :
    (Code.rangeFunc g ps assign body).wpIn F n P (Exit.inBlock id Q) a w := by
  refine wpIn_rangeFunc_T1 hro h1 hg hFg eg hseq hK₀ hb0 hps I (fun c pre W => (c = .ret ∧ ¬ Sp pre) ∨ (c = .exit id ∧ Iy pre W)) hI ?_ h0 a₁ hassign hbody ?_ ?_
  · intro c s A B hs ht
    exact hs.imp (fun h => h) (fun h => ⟨h.1, hIy s A B h.2 ht⟩)
  · intro D xs W hD hS hi hK
    simpa [Exit.inBlock] using hafter D xs W hD (.inl ⟨hS, hi⟩) hK
  · rintro D c pre W hD hS (⟨rfl, h⟩ | ⟨rfl, h⟩) hK
    · exact absurd hS h
    · have := hafter D pre W hD (.inr ⟨hS, h⟩) hK
      refine wpIn_exit ?_
      simpa [Exit.inBlock] using this

/-- The counter's block, and whatever lay ahead of it. -/
def Hold3 (W₁ : World) (bn : Nat) (k : Nat) (W : World) : Prop := Blk W bn 3 #[.int .i64 k] ∧ Below bn W₁ W
theorem hold3_own {β : Type} {M : Obj → Bool} {W₁ : World} {bn B : Nat} (h1 : bn ≤ W₁.heap.size) (h2 : bn < B) (f : β → Nat) : OwnM M B (fun s W => Hold3 W₁ bn (f s) W) := fun _ A B hs ht =>
  ⟨by
    obtain ⟨row, hg, hr⟩ := ht
    exact hs.1.grown hg (fun e => by have := (hr _ e.symm).1; omega),
   hs.2.trans (ht.below (by omega) (Nat.le_trans h1 hs.2.size))⟩
theorem Hold3.set {W₁ W : World} {h k : Nat} (hh : Hold3 W₁ h k W) : Hold3 W₁ h (k + 1) (W.setCell ⟨h, 0, none⟩ (.int .i64 ((k : Int) + 1))) := by
  refine ⟨?_, hh.2.setCell (p := ⟨h, 0, none⟩) (Nat.le_refl _) _⟩
  have := hh.1.set_ 0 (.int .i64 ((k : Int) + 1))
  simpa using this

def goes3 (many : Int) (pre : List (Int × Int)) : Prop := pre = [] ∨ (pre.length : Int) < many
def breaks3 (many : Int) (pre : List (Int × Int)) : Prop := 0 < pre.length ∧ many ≤ pre.length ∧ (pre.length = 1 ∨ ((pre.length - 1 : Nat) : Int) < many)
theorem goes3.brk {many : Int} {pre : List (Int × Int)} (h : goes3 many pre) : pre.length = 0 ∨ (pre.length : Int) < many := h.imp (fun e => by rw [e]; rfl) id
theorem not_pre3 {pre L : List (Int × Int)} {x : Int × Int} (hlt : pre.length < L.length) (hne : ¬ x = L[pre.length]'hlt) : ¬ (pre ++ [x]) <+: L := by
  rintro ⟨r, hr⟩
  apply hne
  subst hr
  simp
theorem long_pre3 {pre L : List (Int × Int)} {x : Int × Int} (hlt : ¬ pre.length < L.length) : ¬ (pre ++ [x]) <+: L := fun h => by
  have := h.length_le
  simp at this
  omega

/-- A slice of its own, as the walk wants it. -/
theorem own3_open {w : World} {base : Nat} {v : Value} {l : List (Int × Int)} (h : w.ownsRow base 52 1 v l.length (numCells l)) :
    ∃ (A : Option Addr) (cap : Nat), v = .slice A l.length cap ∧ l.length ≤ cap ∧ (0 < l.length → ∃ g, A = some ⟨g, 0, none⟩ ∧ g < w.heap.size ∧ ∀ j (hj : j < l.length), w.cell? ⟨g, j, none⟩ = some (.int .u32 (l[j]'hj).2)) := by
  have hlt := h.lt
  have hcl := fun g hg => h.cells (g := g) hg
  obtain ⟨hlen, h⟩ := h
  rcases h with ⟨rfl, h0⟩ | ⟨g, cap, cur, rfl, _, hh, hcap, _⟩
  · exact ⟨none, 0, by rw [h0], by omega, fun x => absurd x (by omega)⟩
  · refine ⟨some ⟨g, 0, none⟩, cap, rfl, hcap, fun _ => ⟨g, rfl, (hlt g rfl).2, fun j hj => ?_⟩⟩
    have e1 := hcl g rfl j (.int .u32 (l[j]'hj).2) (by simp [numCells, hj])
    have ad : ∀ n, (⟨g, 0, none⟩ : Addr).add n = ⟨g, n, none⟩ := fun n => by unfold Addr.add; split <;> simp_all
    rw [ad] at e1
    exact e1

end Go.Proofs.YtehhablobfaplaaDoor
