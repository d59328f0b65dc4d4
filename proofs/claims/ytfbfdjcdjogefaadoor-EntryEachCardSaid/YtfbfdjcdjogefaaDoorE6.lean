/- The walk of OctetEach. -/
import Derived.Test.YtfbfdjcdjogefaaDoorE5
import Derived.Test.YtfbfdjcdjogefaaDoorN2
namespace Go.Proofs.YtfbfdjcdjogefaaDoor
open Go Go.RowKit Go.Shelf Go.Sort
attribute [local go_sem] Oper.semAt_some

theorem infoU32e : (Tryd.prog.info? 22).map (fun i => (i.zero, i.size, i.bytes)) = some (some (.int .u32 0), 1, 4) := by kernel_rfl
/-- The numbers' cells. -/
def numCells (l : List (Int × Int)) : List Value := l.map (fun x => .int .u32 x.2)
theorem numCells_snoc (l : List (Int × Int)) (x : Int × Int) : numCells (l ++ [x]) = numCells l ++ [.int .u32 x.2] := by simp [numCells]

theorem numR_stop {k : Nat} (xs : List Int) (f at_ : Nat) (h : ¬ at_ + k ≤ xs.length) : numR k xs f at_ = [] := by
  cases f <;> simp [numR, h]
theorem numR_go {k : Nat} (xs : List Int) (f at_ : Nat) (h : at_ + k ≤ xs.length) : numR k xs (f + 1) at_ = ((at_ : Int), readN xs at_ k) :: numR k xs f (at_ + k) := by
  rw [numR, if_pos h]

/-- An own slice stays through a call. -/
theorem row_past {w w' : World} {base : Nat} {e : TypeId} {size : Nat} {v : Value} {n : Nat} {xs : List Value} (h : w.ownsRow base e size v n xs) (hb : Below w.heap.size w w') : w'.ownsRow base e size v n xs := by
  refine ⟨h.1, ?_⟩
  rcases h.2 with hn | ⟨g, cap, cur, rfl, hb', hgg, rest⟩
  · exact .inl hn
  · exact .inr ⟨g, cap, cur, rfl, hb', (hb.block g (Array.getElem?_eq_some_iff.1 hgg).1).trans hgg, rest⟩

/-- What is left to be told at a place. -/
def restN (k : Int) (xs : List Int) (f at_ : Nat) : List (Int × Int) := if W3 k then numR k.toNat xs f at_ else []
theorem restN_start (k : Int) (xs : List Int) : restN k xs (xs.length + 1) 0 = eachN k xs := rfl
theorem restN_stop {k : Int} {xs : List Int} {at_ : Nat} (f : Nat) (h : ¬ readNo xs at_ k = 0) : restN k xs f at_ = [] := by
  unfold restN
  split
  · rename_i hk
    obtain ⟨m, rfl, _⟩ := hk.nat
    refine numR_stop _ _ _ fun hh => h ?_
    simp only [Int.toNat_natCast] at hh
    unfold readNo
    rw [if_neg (not_not_intro hk), if_neg (by omega), if_neg (by omega)]
  · rfl
theorem restN_go {k : Int} {xs : List Int} {at_ : Nat} (f : Nat) (h : readNo xs at_ k = 0) : ∃ m : Nat, k = m ∧ 1 ≤ m ∧ m ≤ 4 ∧ at_ + m ≤ xs.length ∧ restN k xs (f + 1) at_ = ((at_ : Int), readN xs at_ k) :: restN k xs f (at_ + m) := by
  unfold readNo at h
  by_cases hk : W3 k
  · obtain ⟨m, rfl, hm⟩ := hk.nat
    rw [if_neg (not_not_intro hk), if_neg (by omega)] at h
    by_cases hl : (at_ : Int) + m > xs.length
    · exfalso
      split at h <;> simp_all <;> omega
    · have hl' : at_ + m ≤ xs.length := by omega
      refine ⟨m, rfl, by omega, by omega, hl', ?_⟩
      unfold restN
      rw [if_pos hk, if_pos hk, Int.toNat_natCast, numR_go _ _ _ hl']
  · rw [if_pos hk] at h
    exact absurd h (by decide)

/-- A range over such an iterator whose body may break out of it, or may return where what has come is none of what comes. -/
theorem rangeFuncT_brk {F : Fence} {n : Nat} {P : Program} {α : Type} {g : Operand} {ps : Array Tmp} {assign body : Code} {id : Nat} {Q : Exit → Act → World → Prop} {a : Act} {w : World}
    (hro : F.round = none) (h1 : 1 ≤ n) {gf : Nat} {lb : Array Value} (hg : a.eval g = .func (.func gf) #[] lb) (hFg : F.fn gf) (eg : ∀ args w, (callFunc gf args).run P w = .ok (.enter gf args) w)
    {encs : α → Array Value} {K₀ : Nat → Prop} {S Sp : List α → Prop} {N : Nat} {w0 : World} (hseq : SeqStopsT F (n - 1) P gf lb encs K₀ S Sp N w0)
    (hK₀ : ¬ K₀ (w.heap.size + 1)) (hb0 : Below w0.heap.size w0 w) (hps : ∀ x, (encs x).size = ps.size)
    (I : List α → World → Prop) (Iy : List α → World → Prop) (hI : OwnM (fun _ => true) w.heap.size I) (hIy : OwnM (fun _ => true) w.heap.size Iy) (h0 : I [] w) (a₁ : α → Act)
    (hassign : ∀ (l : Nat) (x : α) (W : World) (K : Act → World → Prop), K (a₁ x) W →
      assign.wpIn (F.inRound l) (n - 1 - 1) P (Exit.then K (fun _ _ _ => False)) { tmps := (ps.zip (encs x)).foldl (fun t (p, v) => t.setIfInBounds p v) a.tmps, defers := [] } W)
    (hbody : ∀ (l : Nat) (pre : List α) (x : α) (W : World), I pre W → pre.length < N → body.wpIn (F.inRound l) (n - 1 - 1) P (ownPostT w.heap.size K₀ (w.heap.size + 2) I (fun c pre W => (c = .ret ∧ ¬ Sp pre) ∨ (c = .exit id ∧ Iy pre W)) (pre ++ [x]) W) (a₁ x) W)
    (hafter : ∀ (D : Nat) (xs : List α) (W : World), w.heap.size ≤ D → (S xs ∧ I xs W ∨ Sp xs ∧ Iy xs W) → W.heap[D]? = some (.deferred (some [])) → Q .normal { a with defers := { target := .collected D, args := #[] } :: a.defers } W) :
    (Code.rangeFunc g ps assign body).wpIn F n P (Exit.inBlock id Q) a w := by
  refine wpIn_rangeFunc_T1 hro h1 hg hFg eg hseq hK₀ hb0 hps I (fun c pre W => (c = .ret ∧ ¬ Sp pre) ∨ (c = .exit id ∧ Iy pre W)) hI ?_ h0 a₁ hassign hbody ?_ ?_
  · intro c s A B hs ht
    exact hs.imp (fun h => h) (fun h => ⟨h.1, hIy s A B h.2 ht⟩)
  · intro D xs W hD hS hi hK
    simpa [Exit.inBlock] using hafter D xs W hD (.inl ⟨hS, hi⟩) hK
  · rintro D c pre W hD hS (⟨rfl, h⟩ | ⟨rfl, h⟩) hK
    · exact absurd hS h
    · have := hafter D pre W hD (.inr ⟨hS, h⟩) hK
      refine wpIn_exit ?_
      simpa [Exit.inBlock] using this

/-- The counter's block, and whatever lay ahead of it. -/
def Hold3 (W₁ : World) (bn : Nat) (k : Nat) (W : World) : Prop := Blk W bn 3 #[.int .i64 k] ∧ Below bn W₁ W
theorem hold3_own {β : Type} {M : Obj → Bool} {W₁ : World} {bn B : Nat} (h1 : bn ≤ W₁.heap.size) (h2 : bn < B) (f : β → Nat) : OwnM M B (fun s W => Hold3 W₁ bn (f s) W) := fun _ A B hs ht =>
  ⟨by
    obtain ⟨row, hg, hr⟩ := ht
    exact hs.1.grown hg (fun e => by have := (hr _ e.symm).1; omega),
   hs.2.trans (ht.below (by omega) (Nat.le_trans h1 hs.2.size))⟩
theorem Hold3.set {W₁ W : World} {h k : Nat} (hh : Hold3 W₁ h k W) : Hold3 W₁ h (k + 1) (W.setCell ⟨h, 0, none⟩ (.int .i64 ((k : Int) + 1))) := by
  refine ⟨?_, hh.2.setCell (p := ⟨h, 0, none⟩) (Nat.le_refl _) _⟩
  have := hh.1.set_ 0 (.int .i64 ((k : Int) + 1))
  simpa using this

def goes3 (many : Int) (pre : List (Int × Int)) : Prop := pre = [] ∨ (pre.length : Int) < many
def breaks3 (many : Int) (pre : List (Int × Int)) : Prop := 0 < pre.length ∧ many ≤ pre.length ∧ (pre.length = 1 ∨ ((pre.length - 1 : Nat) : Int) < many)
theorem goes3.brk {many : Int} {pre : List (Int × Int)} (h : goes3 many pre) : pre.length = 0 ∨ (pre.length : Int) < many := h.imp (fun e => by rw [e]; rfl) id
theorem not_pre3 {pre L : List (Int × Int)} {x : Int × Int} (hlt : pre.length < L.length) (hne : ¬ x = L[pre.length]'hlt) : ¬ (pre ++ [x]) <+: L := by
  rintro ⟨r, hr⟩
  apply hne
  subst hr
  simp
theorem long_pre3 {pre L : List (Int × Int)} {x : Int × Int} (hlt : ¬ pre.length < L.length) : ¬ (pre ++ [x]) <+: L := fun h => by
  have := h.length_le
  simp at this
  omega

/-- A slice of its own, as the walk wants it. -/
theorem own3_open {w : World} {base : Nat} {v : Value} {l : List (Int × Int)} (h : w.ownsRow base 22 1 v l.length (numCells l)) :
    ∃ (A : Option Addr) (cap : Nat), v = .slice A l.length cap ∧ l.length ≤ cap ∧ (0 < l.length → ∃ g, A = some ⟨g, 0, none⟩ ∧ g < w.heap.size ∧ ∀ j (hj : j < l.length), w.cell? ⟨g, j, none⟩ = some (.int .u32 (l[j]'hj).2)) := by
  have hlt := h.lt
  have hcl := fun g hg => h.cells (g := g) hg
  obtain ⟨hlen, h⟩ := h
  rcases h with ⟨rfl, h0⟩ | ⟨g, cap, cur, rfl, _, hh, hcap, _⟩
  · exact ⟨none, 0, by rw [h0], by omega, fun x => absurd x (by omega)⟩
  · refine ⟨some ⟨g, 0, none⟩, cap, rfl, hcap, fun _ => ⟨g, rfl, (hlt g rfl).2, fun j hj => ?_⟩⟩
    have e1 := hcl g rfl j (.int .u32 (l[j]'hj).2) (by simp [numCells, hj])
    have ad : ∀ n, (⟨g, 0, none⟩ : Addr).add n = ⟨g, n, none⟩ := fun n => by unfold Addr.add; split <;> simp_all
    rw [ad] at e1
    exact e1

end Go.Proofs.YtfbfdjcdjogefaaDoor
