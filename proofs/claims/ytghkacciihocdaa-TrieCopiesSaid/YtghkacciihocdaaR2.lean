/- Merged by tools/merge.py: R1, R2. -/
import Derived.RangeFuncNested
import Derived.RangeFuncBound
import Derived.RangeFuncCalls
import Derived.RangeFuncLeaves
import Derived.Test.YtghkacciihocdaaA0
namespace Go.Proofs.Ytghkacciihocdaa
open Go Go.RowKit

/-- A step of the iterator's: it grows, and turns at most one block, from B on, which bears the mark. -/
def Turns (M : Obj → Bool) (B : Nat) (W W' : World) : Prop := ∃ row, W.grownBy W' row ∧ ∀ r, row = some r → B ≤ r ∧ ∃ o : Obj, W.heap[r]? = some o ∧ M o = true
/-- What minds no step of the iterator's. -/
def AbidesM {β : Type} (M : Obj → Bool) (B : Nat) (J : β → World → Prop) : Prop := ∀ s W W', J s W → Turns M B W W' → J s W'
/-- What minds neither such a step nor a turn of what is no cells. -/
def OwnM {β : Type} (M : Obj → Bool) (B : Nat) (I : β → World → Prop) : Prop := AbidesM (fun o => M o || !o.isCells) B I

theorem Turns.below {M : Obj → Bool} {B n₀ : Nat} {W W' : World} (h : Turns M B W W') (hB : n₀ ≤ B) (hn : n₀ ≤ W.heap.size) : Below n₀ W W' := by
  obtain ⟨row, hg, hr⟩ := h
  exact (Below.refl n₀ W).grown hg hn (fun k e => by have := (hr k e).1; omega)
theorem Turns.size {M : Obj → Bool} {B : Nat} {W W' : World} (h : Turns M B W W') : W.heap.size ≤ W'.heap.size := by
  obtain ⟨row, hg, _⟩ := h
  exact hg.size
theorem Turns.grow {M : Obj → Bool} {B : Nat} {W W' : World} (h : W.grownBy W' none) : Turns M B W W' := ⟨none, h, fun _ e => by cases e⟩
theorem Turns.calls {M : Obj → Bool} {B : Nat} {W W' : World} (h : Below W.heap.size W W') : Turns M B W W' := .grow ⟨h.os, h.tape, h.output, h.size, fun k hk _ => h.block k hk⟩
theorem Turns.wide {M : Obj → Bool} {B : Nat} {W W' : World} (h : Turns M B W W') : Turns (fun o => M o || !o.isCells) B W W' := by
  obtain ⟨row, hg, hr⟩ := h
  exact ⟨row, hg, fun r e => by obtain ⟨a, o, b, c⟩ := hr r e; exact ⟨a, o, b, by simp [c]⟩⟩
theorem Turns.mono {M : Obj → Bool} {B B' : Nat} {W W' : World} (h : Turns M B W W') (hB : B' ≤ B) : Turns M B' W W' := by
  obtain ⟨row, hg, hr⟩ := h
  exact ⟨row, hg, fun r e => by obtain ⟨a, b⟩ := hr r e; exact ⟨by omega, b⟩⟩
theorem Turns.spares {M : Obj → Bool} {B : Nat} {W W' : World} (h : Turns M B W W') {k : Nat} {o : Obj} (hk : W.heap[k]? = some o) (hM : M o = false) : W'.heap[k]? = some o := by
  obtain ⟨row, hg, hr⟩ := h
  refine (hg.block k (Array.getElem?_eq_some_iff.1 hk).1 (fun e => ?_)).trans hk
  obtain ⟨_, o', h1, h2⟩ := hr k e.symm
  rw [hk] at h1; cases h1; rw [hM] at h2; cases h2
theorem OwnM.put {β : Type} {M : Obj → Bool} {B : Nat} {I : β → World → Prop} (h : OwnM M B I) {s : β} {W : World} {l : Nat} {o : Obj} (o' : Obj) (hs : I s W) (hB : B ≤ l) (hl : W.heap[l]? = some o) (ho : o.isCells = false) : I s (W.putObj l o') :=
  h s W _ hs ⟨some l, grownBy_putObj' W l o', fun r e => by cases e; exact ⟨hB, o, hl, by simp [ho]⟩⟩
theorem OwnM.alloc {β : Type} {M : Obj → Bool} {B : Nat} {I : β → World → Prop} (h : OwnM M B I) {s : β} {W : World} (o : Obj) (hs : I s W) : I s (W.alloc o) := h s W _ hs (.grow (World.grownBy_alloc W o none))
theorem OwnM.and {β : Type} {M : Obj → Bool} {B : Nat} {I J : β → World → Prop} (h : OwnM M B I) (k : OwnM M B J) : OwnM M B (fun s W => I s W ∧ J s W) := fun s W W' hs ht => ⟨h s W W' hs.1 ht, k s W W' hs.2 ht⟩
theorem ownM_below {β : Type} {M : Obj → Bool} {w0 : World} {n₀ B : Nat} (h1 : n₀ ≤ w0.heap.size) (h2 : n₀ ≤ B) : OwnM M B (fun (_ : β) W => Below n₀ w0 W) := fun _ _ _ hs ht =>
  hs.trans (ht.below h2 (Nat.le_trans h1 hs.size))
theorem ownM_pure {β : Type} {M : Obj → Bool} {B : Nat} (p : β → Prop) : OwnM M B (fun s _ => p s) := fun _ _ _ hs _ => hs

/-- The contract of such an iterator. -/
def SeqStopsM {α : Type} (M : Obj → Bool) (F : Fence) (n : Nat) (P : Program) (g : Nat) (lb : Array Value) (encs : α → Array Value) (Kp : World → World → Prop) (S Sp : List α → Prop) (N : Nat) (w : World) : Prop :=
  ∀ (l : Nat) (J Jx : List α → World → Prop) (W : World), Below w.heap.size w W → AbidesM M W.heap.size J → AbidesM M W.heap.size Jx →
    (∀ pre x W1, J pre W1 → pre.length < N → YieldAt F (n - 1) P l (encs x) W1 fun e W' =>
      (e = .returned (.bool true) ∧ J (pre ++ [x]) W' ∧ Kp W1 W') ∨ (e = .returned (.bool false) ∧ Jx (pre ++ [x]) W')) → J [] W →
    CallsIn F n P g (#[.func (.yield l) #[] #[]] ++ lb) W fun e W' => (∃ v, e = .returned v) ∧ ((∃ xs, S xs ∧ J xs W') ∨ (∃ pre, Sp pre ∧ Jx pre W'))

variable {F : Fence} {n : Nat} {P : Program}

/-- The loop's two blocks: its record, and the one for what is put off. -/
def Books (w : World) (rec : Loop) (W : World) : Prop := W.heap[w.heap.size + 1]? = some (.loop rec) ∧ W.heap[w.heap.size]? = some (.deferred (some []))
theorem Books.lt {w W : World} {r : Loop} (h : Books w r W) : w.heap.size + 1 < W.heap.size := (Array.getElem?_eq_some_iff.1 h.1).1
theorem Books.put {w W : World} {r : Loop} (h : Books w r W) (r' : Loop) : Books w r' (W.putObj (w.heap.size + 1) (.loop r')) :=
  ⟨World.putObj_heap_same h.lt, (World.putObj_heap_other (by omega)).trans h.2⟩
theorem Books.kept {w W W' : World} {r : Loop} (h : Books w r W) (k : KeepsFrom w.heap.size W W') : Books w r W' := ⟨k.same _ _ (by omega) h.1 rfl, k.same _ _ (Nat.le_refl _) h.2 rfl⟩
theorem Books.turned {M : Obj → Bool} {w W W' : World} {B : Nat} {r : Loop} (hM : ∀ r, M (.loop r) = false) (hD : ∀ d, M (.deferred d) = false) (h : Books w r W) (k : Turns M B W W') : Books w r W' :=
  ⟨k.spares h.1 (hM _), k.spares h.2 (hD _)⟩

theorem wpIn_rangeFunc_M {α : Type} (M : Obj → Bool) (hML : ∀ r, M (.loop r) = false) (hMD : ∀ d, M (.deferred d) = false)
    {g : Operand} {ps : Array Tmp} {assign body : Code} {Q : Exit → Act → World → Prop} {a : Act} {w : World}
    (hro : F.round = none) (h1 : 1 ≤ n) {gf : Nat} {lb : Array Value} (hg : a.eval g = .func (.func gf) #[] lb) (hFg : F.fn gf) (eg : ∀ args w, (callFunc gf args).run P w = .ok (.enter gf args) w)
    {encs : α → Array Value} {Kp : World → World → Prop} {S Sp : List α → Prop} {N : Nat} {w0 : World} (hseq : SeqStopsM M F (n - 1) P gf lb encs Kp S Sp N w0)
    (hKt : ∀ {A B C : World}, Kp A B → Kp B C → Kp A C) (hKb : ∀ (W : World) (l : Nat) (o o' : Obj), w.heap.size ≤ l → W.heap[l]? = some o → o.isCells = false → Kp W (W.putObj l o')) (hb0 : Below w0.heap.size w0 w) (hps : ∀ x, (encs x).size = ps.size)
    (I : List α → World → Prop) (Ix : Code → List α → World → Prop) (hI : OwnM M w.heap.size I) (hIx : ∀ c, OwnM M w.heap.size (Ix c)) (h0 : I [] w) (Ax : α → Act → World → Prop) (hAx : ∀ x a', OwnM M w.heap.size (fun (_ : Unit) W => Ax x a' W))
    (hassign : ∀ (l : Nat) (pre : List α) (x : α) (W : World) (K : Act → World → Prop), I pre W → (∀ a' W', KeepsFrom w.heap.size W W' → Kp W W' → I pre W' → Ax x a' W' → K a' W') →
      assign.wpIn (F.inRound l) (n - 1 - 1) P (Exit.then K (fun _ _ _ => False)) { tmps := (ps.zip (encs x)).foldl (fun t (p, v) => t.setIfInBounds p v) a.tmps, defers := [] } W)
    (hbody : ∀ (l : Nat) (pre : List α) (x : α) (a' : Act) (W : World), I pre W → Ax x a' W → pre.length < N → body.wpIn (F.inRound l) (n - 1 - 1) P (ownPostG w.heap.size Kp I Ix (pre ++ [x]) W) a' W)
    (hdone : ∀ (D : Nat) (xs : List α) (W : World), w.heap.size ≤ D → S xs → I xs W → W.heap[D]? = some (.deferred (some [])) → Q .normal { a with defers := { target := .collected D, args := #[] } :: a.defers } W)
    (hstop : ∀ (D : Nat) (c : Code) (pre : List α) (W : World), w.heap.size ≤ D → Sp pre → Ix c pre W → W.heap[D]? = some (.deferred (some [])) → c.wpIn F n P Q { a with defers := { target := .collected D, args := #[] } :: a.defers } W) :
    (Code.rangeFunc g ps assign body).wpIn F n P Q a w := by
  refine wpIn_rangeFunc fun fn hfn => ?_
  rw [hro]
  generalize hrec : (fun (st : LoopState) (pe : Option Code) => ({ state := st, pending := pe, fn, tmps := a.tmps, params := ps, assign, body, defers := w.heap.size } : Loop)) = rec
  have hfld : ∀ st pe, (rec st pe).state = st ∧ (rec st pe).pending = pe ∧ (rec st pe).params = ps ∧ (rec st pe).body = body ∧ (rec st pe).assign = assign ∧ (rec st pe).fn = fn ∧ (rec st pe).tmps = a.tmps ∧ (rec st pe).defers = w.heap.size := fun st pe => by subst hrec; exact ⟨rfl, rfl, rfl, rfl, rfl, rfl, rfl, rfl⟩
  generalize hW1 : (w.alloc (.deferred (some []))).alloc (.loop (rec .ready none)) = W1
  have hbk : Books w (rec .ready none) W1 := by
    subst hW1
    exact ⟨by have := World.alloc_heap_new (w.alloc (.deferred (some []))) (.loop (rec .ready none)); rwa [World.size_alloc] at this, (Below.heap_alloc _ _ _ (by simp)).trans (World.alloc_heap_new w _)⟩
  have hs1 : W1.heap.size = w.heap.size + 2 := by subst hW1; simp
  have hI1 : I [] W1 := by subst hW1; exact hI.alloc _ (hI.alloc _ h0)
  have hb1 : Below w0.heap.size w0 W1 := by subst hW1; exact hb0.trans ((((Below.refl _ w).alloc (Nat.le_refl _) _).alloc (by simp) _).mono hb0.size)
  refine ⟨w.heap.size + 1, [{ target := .collected w.heap.size, args := #[] }], W1, { target := .fn (.func gf) lb, args := #[.func (.yield (w.heap.size + 1)) #[] #[]] }, W1, gf,
    #[.func (.yield (w.heap.size + 1)) #[] #[]] ++ lb, W1, ?enter, ?who, fun f' hf' => ?led, ?call, fun _ => h1, ?run⟩
  case enter => subst hW1 hrec; exact run_enterLoop_outer _ _ _ _ _
  case who => simp only [resolve, hg]; simp [go_sem]
  case led => simp [Target.leads] at hf'; subst hf'; exact hFg
  case call => simp [invoke, go_sem, eg]
  have wide : ∀ {A B : World}, Turns M W1.heap.size A B → Turns (fun o => M o || !o.isCells) w.heap.size A B := fun h => (h.mono (by omega)).wide
  refine (hseq (w.heap.size + 1) (fun pre W => I pre W ∧ Books w (rec .ready none) W) (fun pre W => ∃ c, Ix c pre W ∧ Books w (rec .done (some c)) W) W1 hb1
    (fun s A B hs ht => ⟨hI s A B hs.1 (wide ht), hs.2.turned hML hMD ht⟩)
    (fun s A B ⟨c, hc, hk⟩ ht => ⟨c, hIx c s A B hc (wide ht), hk.turned hML hMD ht⟩) ?round ⟨hI1, hbk⟩).mono ?after
  case after =>
    rintro e W2 ⟨⟨v, rfl⟩, ⟨xs, hS, hi, hk⟩ | ⟨pre, hSp, c, hi, hk⟩⟩
    · have hend := run_endLoop (P := P) hk.1 (by rw [(hfld .ready none).1]; simp)
      subst hrec
      exact ⟨none, _, hend, hdone _ xs _ (Nat.le_refl _) hS (hI.put _ hi (by omega) hk.1 rfl) (hk.put _).2⟩
    · have hend := run_endLoop (P := P) hk.1 (by rw [(hfld .done (some c)).1]; simp)
      subst hrec
      exact ⟨some c, _, hend, hstop _ c pre _ (Nat.le_refl _) hSp ((hIx c).put _ hi (by omega) hk.1 rfl) (hk.put _).2⟩
  case round =>
    rintro pre x W ⟨hi, hk⟩ hlen
    have hy := run_yield (P := P) (args := encs x) hk.1 (by rw [(hfld .ready none).2.2.1]; exact hps x)
    have hbeg := fun (V : World) (hv : Books w (rec .ready none) V) => run_beginRound (P := P) hv.1 (by rw [(hfld .ready none).1])
    have hend := fun (V : World) (j : Option Code) (hv : Books w { rec .ready none with state := .busy } V) => run_endRound (P := P) j hv.1
    subst hrec
    refine ⟨fn, _, assign, body, hy, roundIn_of_wpIn hfn (hassign _ pre x W _ hi fun a' V hkf hkp hia hax => ?_)⟩
    have hkV := hk.kept hkf
    refine ⟨_, hbeg V hkV, ?_⟩
    have hkB := hkV.put { state := .busy, pending := none, fn := fn, tmps := a.tmps, params := ps, assign := assign, body := body, defers := w.heap.size }
    have hpB : Kp V (V.putObj (w.heap.size + 1) _) := hKb V _ _ (.loop { state := .busy, pending := none, fn := fn, tmps := a.tmps, params := ps, assign := assign, body := body, defers := w.heap.size }) (by omega) hkV.1 rfl
    refine wpIn_mono (hbody _ pre x a' _ (hI.put _ hia (by omega) hkV.1 rfl) ((hAx x a').put (s := ()) _ hax (by omega) hkV.1 rfl) hlen) ?_
    rintro e a3 W3 hp
    cases e with
    | normal =>
      obtain ⟨hk3, hkp3, hi3⟩ := hp
      have hb3 := hkB.kept hk3
      exact ⟨_, _, hend W3 none hb3, .inl ⟨rfl, ⟨hI.put _ hi3 (by omega) hb3.1 rfl, hb3.put _⟩, hKt hkp (hKt (hKt hpB hkp3) (hKb _ _ _ _ (by omega) hb3.1 rfl))⟩⟩
    | ret =>
      have hb3 := hkB.kept hp.1
      exact ⟨_, _, hend W3 (some .ret) hb3, .inr ⟨rfl, .ret, (hIx _).put _ hp.2 (by omega) hb3.1 rfl, hb3.put _⟩⟩
    | exit id =>
      have hb3 := hkB.kept hp.1
      exact ⟨_, _, hend W3 (some (.exit id)) hb3, .inr ⟨rfl, .exit id, (hIx _).put _ hp.2 (by omega) hb3.1 rfl, hb3.put _⟩⟩
    | goto t =>
      have hb3 := hkB.kept hp.1
      exact ⟨_, _, hend W3 (some (.goto t)) hb3, .inr ⟨rfl, .goto t, (hIx _).put _ hp.2 (by omega) hb3.1 rfl, hb3.put _⟩⟩
    | panic ch => exact hp.elim
    | outgrown => exact hp.elim

theorem Blk.turned {M : Obj → Bool} {B g : Nat} {t : TypeId} {cs : Array Value} {W W' : World} (h : Blk W g t cs) (k : Turns M B W W') (hg : g < B) : Blk W' g t cs := by
  obtain ⟨row, hgr, hr⟩ := k
  exact h.grown hgr (fun e => by have := (hr g e.symm).1; omega)
theorem Blk.spared {M : Obj → Bool} {B g : Nat} {t : TypeId} {cs : Array Value} {W W' : World} (h : Blk W g t cs) (k : Turns M B W W') (hM : M (.cells cs t (0, 0)) = false) : Blk W' g t cs := k.spares h hM
end Go.Proofs.Ytghkacciihocdaa

namespace Go.Proofs.Ytghkacciihocdaa
open Go Go.RowKit
variable {F : Fence} {n : Nat} {P : Program}

theorem Books.aside {M : Obj → Bool} {w W W' : World} {B : Nat} {r : Loop} (h : Books w r W) (k : Turns M B W W') (hB : w.heap.size + 1 < B) : Books w r W' := by
  obtain ⟨row, hg, hr⟩ := k
  have hl := h.lt
  exact ⟨(hg.block _ hl (fun e => by have := (hr _ e.symm).1; omega)).trans h.1, (hg.block _ (by omega) (fun e => by have := (hr _ e.symm).1; omega)).trans h.2⟩

/-- What a round keeps: the blocks of K₀, and what lies from E on. -/
structure Kept2 (K₀ : Nat → Prop) (E : Nat) (W W' : World) : Prop where
  os : W'.os = W.os
  tape : W'.tape = W.tape
  output : W'.output = W.output
  size : W.heap.size ≤ W'.heap.size
  block : ∀ k, k < W.heap.size → K₀ k ∨ E ≤ k → W'.heap[k]? = W.heap[k]?
theorem Kept2.refl (K₀ : Nat → Prop) (E : Nat) (W : World) : Kept2 K₀ E W W := ⟨rfl, rfl, rfl, Nat.le_refl _, fun _ _ _ => rfl⟩
theorem Kept2.trans {K₀ : Nat → Prop} {E : Nat} {A B C : World} (h : Kept2 K₀ E A B) (k : Kept2 K₀ E B C) : Kept2 K₀ E A C :=
  ⟨k.os.trans h.os, k.tape.trans h.tape, k.output.trans h.output, Nat.le_trans h.size k.size, fun i hl hi => (k.block i (Nat.lt_of_lt_of_le hl h.size) hi).trans (h.block i hl hi)⟩
theorem Kept2.calls {K₀ : Nat → Prop} {E : Nat} {W W' : World} (h : Below W.heap.size W W') : Kept2 K₀ E W W' := ⟨h.os, h.tape, h.output, h.size, fun k hk _ => h.block k hk⟩
theorem Kept2.grown {K₀ : Nat → Prop} {E : Nat} {W W' : World} {r : Nat} (h : W.grownBy W' (some r)) (hr : ¬ K₀ r) (hE : r < E) : Kept2 K₀ E W W' :=
  ⟨h.os, h.tape, h.output, h.size, fun k hl hk => h.block k hl (fun e => by cases e; rcases hk with hk | hk; exact hr hk; omega)⟩
theorem Kept2.sub {K₀ K₁ : Nat → Prop} {E E' : Nat} {W W' : World} (h : Kept2 K₀ E W W') (hs : ∀ k, K₁ k ∨ E' ≤ k → K₀ k ∨ E ≤ k) : Kept2 K₁ E' W W' :=
  ⟨h.os, h.tape, h.output, h.size, fun k hl hk => h.block k hl (hs k hk)⟩
theorem Kept2.low {n₀ E : Nat} {W W' : World} (h : Kept2 (fun k => k < n₀) E W W') (hn : n₀ ≤ W.heap.size) : Below n₀ W W' := ⟨h.os, h.tape, h.output, h.size, fun k hk => h.block k (by omega) (.inl hk)⟩
theorem Kept2.cell {K₀ : Nat → Prop} {E : Nat} {W W' : World} (h : Kept2 K₀ E W W') {b i : Nat} (hl : b < W.heap.size) (hb : K₀ b ∨ E ≤ b) : W'.cell? ⟨b, i, none⟩ = W.cell? ⟨b, i, none⟩ := by
  simp only [World.cell?, h.block b hl hb]

/-- What a round's body owes. -/
def ownPostT {α : Type} (B : Nat) (K₀ : Nat → Prop) (E : Nat) (I : List α → World → Prop) (Ix : Code → List α → World → Prop) (xs : List α) (W : World) : Exit → Act → World → Prop
  | .normal, _, W' => KeepsFrom B W W' ∧ Kept2 K₀ E W W' ∧ I xs W'
  | .ret, _, W' => KeepsFrom B W W' ∧ Kept2 K₀ E W W' ∧ Ix .ret xs W'
  | .exit id, _, W' => KeepsFrom B W W' ∧ Kept2 K₀ E W W' ∧ Ix (.exit id) xs W'
  | .goto t, _, W' => KeepsFrom B W W' ∧ Kept2 K₀ E W W' ∧ Ix (.goto t) xs W'
  | .panic _, _, _ => False
  | .outgrown, _, _ => False

/-- The contract of such an iterator. -/
def SeqStopsT {α : Type} (F : Fence) (n : Nat) (P : Program) (g : Nat) (lb : Array Value) (encs : α → Array Value) (K₀ : Nat → Prop) (S Sp : List α → Prop) (N : Nat) (w : World) : Prop :=
  ∀ (l : Nat) (J Jx : List α → World → Prop) (W : World), Below w.heap.size w W → AbidesM (fun _ => true) W.heap.size J → AbidesM (fun _ => true) W.heap.size Jx →
    (∀ pre x W1, J pre W1 → pre.length < N → YieldAt F (n - 1) P l (encs x) W1 fun e W' =>
      Kept2 K₀ W.heap.size W1 W' ∧ ((e = .returned (.bool true) ∧ J (pre ++ [x]) W') ∨ (e = .returned (.bool false) ∧ Jx (pre ++ [x]) W'))) → J [] W →
    CallsIn F n P g (#[.func (.yield l) #[] #[]] ++ lb) W fun e W' => (∃ v, e = .returned v) ∧ ((∃ xs, S xs ∧ J xs W') ∨ (∃ pre, Sp pre ∧ Jx pre W'))

theorem wpIn_rangeFunc_T {α : Type}
    {g : Operand} {ps : Array Tmp} {assign body : Code} {Q : Exit → Act → World → Prop} {a : Act} {w : World}
    (hro : F.round = none) (h1 : 1 ≤ n) {gf : Nat} {lb : Array Value} (hg : a.eval g = .func (.func gf) #[] lb) (hFg : F.fn gf) (eg : ∀ args w, (callFunc gf args).run P w = .ok (.enter gf args) w)
    {encs : α → Array Value} {K₀ : Nat → Prop} {S Sp : List α → Prop} {N : Nat} {w0 : World} (hseq : SeqStopsT F (n - 1) P gf lb encs K₀ S Sp N w0)
    (hK₀ : ¬ K₀ (w.heap.size + 1)) (hb0 : Below w0.heap.size w0 w) (hps : ∀ x, (encs x).size = ps.size)
    (I : List α → World → Prop) (Ix : Code → List α → World → Prop) (hI : OwnM (fun _ => true) w.heap.size I) (hIx : ∀ c, OwnM (fun _ => true) w.heap.size (Ix c)) (h0 : I [] w) (Ax : α → Act → World → Prop) (hAx : ∀ x a', OwnM (fun _ => true) w.heap.size (fun (_ : Unit) W => Ax x a' W))
    (hassign : ∀ (l : Nat) (pre : List α) (x : α) (W : World) (K : Act → World → Prop), I pre W → (∀ a' W', KeepsFrom w.heap.size W W' → Kept2 K₀ (w.heap.size + 2) W W' → I pre W' → Ax x a' W' → K a' W') →
      assign.wpIn (F.inRound l) (n - 1 - 1) P (Exit.then K (fun _ _ _ => False)) { tmps := (ps.zip (encs x)).foldl (fun t (p, v) => t.setIfInBounds p v) a.tmps, defers := [] } W)
    (hbody : ∀ (l : Nat) (pre : List α) (x : α) (a' : Act) (W : World), I pre W → Ax x a' W → pre.length < N → body.wpIn (F.inRound l) (n - 1 - 1) P (ownPostT w.heap.size K₀ (w.heap.size + 2) I Ix (pre ++ [x]) W) a' W)
    (hdone : ∀ (D : Nat) (xs : List α) (W : World), w.heap.size ≤ D → S xs → I xs W → W.heap[D]? = some (.deferred (some [])) → Q .normal { a with defers := { target := .collected D, args := #[] } :: a.defers } W)
    (hstop : ∀ (D : Nat) (c : Code) (pre : List α) (W : World), w.heap.size ≤ D → Sp pre → Ix c pre W → W.heap[D]? = some (.deferred (some [])) → c.wpIn F n P Q { a with defers := { target := .collected D, args := #[] } :: a.defers } W) :
    (Code.rangeFunc g ps assign body).wpIn F n P Q a w := by
  refine wpIn_rangeFunc fun fn hfn => ?_
  rw [hro]
  generalize hrec : (fun (st : LoopState) (pe : Option Code) => ({ state := st, pending := pe, fn, tmps := a.tmps, params := ps, assign, body, defers := w.heap.size } : Loop)) = rec
  have hfld : ∀ st pe, (rec st pe).state = st ∧ (rec st pe).pending = pe ∧ (rec st pe).params = ps ∧ (rec st pe).body = body ∧ (rec st pe).assign = assign ∧ (rec st pe).fn = fn ∧ (rec st pe).tmps = a.tmps ∧ (rec st pe).defers = w.heap.size := fun st pe => by subst hrec; exact ⟨rfl, rfl, rfl, rfl, rfl, rfl, rfl, rfl⟩
  generalize hW1 : (w.alloc (.deferred (some []))).alloc (.loop (rec .ready none)) = W1
  have hbk : Books w (rec .ready none) W1 := by
    subst hW1
    exact ⟨by have := World.alloc_heap_new (w.alloc (.deferred (some []))) (.loop (rec .ready none)); rwa [World.size_alloc] at this, (Below.heap_alloc _ _ _ (by simp)).trans (World.alloc_heap_new w _)⟩
  have hs1 : W1.heap.size = w.heap.size + 2 := by subst hW1; simp
  have hI1 : I [] W1 := by subst hW1; exact hI.alloc _ (hI.alloc _ h0)
  have hb1 : Below w0.heap.size w0 W1 := by subst hW1; exact hb0.trans ((((Below.refl _ w).alloc (Nat.le_refl _) _).alloc (by simp) _).mono hb0.size)
  refine ⟨w.heap.size + 1, [{ target := .collected w.heap.size, args := #[] }], W1, { target := .fn (.func gf) lb, args := #[.func (.yield (w.heap.size + 1)) #[] #[]] }, W1, gf,
    #[.func (.yield (w.heap.size + 1)) #[] #[]] ++ lb, W1, ?enter, ?who, fun f' hf' => ?led, ?call, fun _ => h1, ?run⟩
  case enter => subst hW1 hrec; exact run_enterLoop_outer _ _ _ _ _
  case who => simp only [resolve, hg]; simp [go_sem]
  case led => simp [Target.leads] at hf'; subst hf'; exact hFg
  case call => simp [invoke, go_sem, eg]
  have wide : ∀ {A B : World}, Turns (fun _ => true) W1.heap.size A B → Turns (fun o => true || !o.isCells) w.heap.size A B := fun h => (h.mono (by omega)).wide
  refine (hseq (w.heap.size + 1) (fun pre W => I pre W ∧ Books w (rec .ready none) W) (fun pre W => ∃ c, Ix c pre W ∧ Books w (rec .done (some c)) W) W1 hb1
    (fun s A B hs ht => ⟨hI s A B hs.1 (wide ht), hs.2.aside ht (by omega)⟩)
    (fun s A B ⟨c, hc, hk⟩ ht => ⟨c, hIx c s A B hc (wide ht), hk.aside ht (by omega)⟩) ?round ⟨hI1, hbk⟩).mono ?after
  case after =>
    rintro e W2 ⟨⟨v, rfl⟩, ⟨xs, hS, hi, hk⟩ | ⟨pre, hSp, c, hi, hk⟩⟩
    · have hend := run_endLoop (P := P) hk.1 (by rw [(hfld .ready none).1]; simp)
      subst hrec
      exact ⟨none, _, hend, hdone _ xs _ (Nat.le_refl _) hS (hI.put _ hi (by omega) hk.1 rfl) (hk.put _).2⟩
    · have hend := run_endLoop (P := P) hk.1 (by rw [(hfld .done (some c)).1]; simp)
      subst hrec
      exact ⟨some c, _, hend, hstop _ c pre _ (Nat.le_refl _) hSp ((hIx c).put _ hi (by omega) hk.1 rfl) (hk.put _).2⟩
  case round =>
    rintro pre x W ⟨hi, hk⟩ hlen
    have hy := run_yield (P := P) (args := encs x) hk.1 (by rw [(hfld .ready none).2.2.1]; exact hps x)
    have hbeg := fun (V : World) (hv : Books w (rec .ready none) V) => run_beginRound (P := P) hv.1 (by rw [(hfld .ready none).1])
    have hend := fun (V : World) (j : Option Code) (hv : Books w { rec .ready none with state := .busy } V) => run_endRound (P := P) j hv.1
    subst hrec
    refine ⟨fn, _, assign, body, hy, roundIn_of_wpIn hfn (hassign _ pre x W _ hi fun a' V hkf hkp hia hax => ?_)⟩
    have hkV := hk.kept hkf
    refine ⟨_, hbeg V hkV, ?_⟩
    have hkB := hkV.put { state := .busy, pending := none, fn := fn, tmps := a.tmps, params := ps, assign := assign, body := body, defers := w.heap.size }
    have kput : ∀ (A : World) (o : Loop), (∃ q, Books w q A) → Kept2 K₀ (w.heap.size + 2) A (A.putObj (w.heap.size + 1) (.loop o)) := fun A o _ => .grown (grownBy_putObj' A _ _) hK₀ (by omega)
    have hpB := kput V { state := .busy, pending := none, fn := fn, tmps := a.tmps, params := ps, assign := assign, body := body, defers := w.heap.size } ⟨_, hkV⟩
    refine wpIn_mono (hbody _ pre x a' _ (hI.put _ hia (by omega) hkV.1 rfl) ((hAx x a').put (s := ()) _ hax (by omega) hkV.1 rfl) hlen) ?_
    rintro e a3 W3 hp
    have fin : ∀ (c : Option Code) (A : World), Kept2 K₀ (w.heap.size + 2) (V.putObj (w.heap.size + 1) (.loop { state := .busy, pending := none, fn := fn, tmps := a.tmps, params := ps, assign := assign, body := body, defers := w.heap.size })) A → (∃ q, Books w q A) → ∀ o : Loop, Kept2 K₀ (w.heap.size + 2) W (A.putObj (w.heap.size + 1) (.loop o)) := fun c A hA hq o => hkp.trans (hpB.trans (hA.trans (kput A o hq)))
    cases e with
    | normal =>
      obtain ⟨hk3, hkp3, hi3⟩ := hp
      have hb3 := hkB.kept hk3
      exact ⟨_, _, hend W3 none hb3, (by rw [hs1]; exact fin none W3 hkp3 ⟨_, hb3⟩ _), .inl ⟨rfl, hI.put _ hi3 (by omega) hb3.1 rfl, hb3.put _⟩⟩
    | ret =>
      obtain ⟨hk3, hkp3, hi3⟩ := hp
      have hb3 := hkB.kept hk3
      exact ⟨_, _, hend W3 (some .ret) hb3, (by rw [hs1]; exact fin none W3 hkp3 ⟨_, hb3⟩ _), .inr ⟨rfl, .ret, (hIx _).put _ hi3 (by omega) hb3.1 rfl, hb3.put _⟩⟩
    | exit id =>
      obtain ⟨hk3, hkp3, hi3⟩ := hp
      have hb3 := hkB.kept hk3
      exact ⟨_, _, hend W3 (some (.exit id)) hb3, (by rw [hs1]; exact fin none W3 hkp3 ⟨_, hb3⟩ _), .inr ⟨rfl, .exit id, (hIx _).put _ hi3 (by omega) hb3.1 rfl, hb3.put _⟩⟩
    | goto t =>
      obtain ⟨hk3, hkp3, hi3⟩ := hp
      have hb3 := hkB.kept hk3
      exact ⟨_, _, hend W3 (some (.goto t)) hb3, (by rw [hs1]; exact fin none W3 hkp3 ⟨_, hb3⟩ _), .inr ⟨rfl, .goto t, (hIx _).put _ hi3 (by omega) hb3.1 rfl, hb3.put _⟩⟩
    | panic ch => exact hp.elim
    | outgrown => exact hp.elim

/-- The same, where the loop's variables lie in the frame. -/
theorem wpIn_rangeFunc_T1 {α : Type} {g : Operand} {ps : Array Tmp} {assign body : Code} {Q : Exit → Act → World → Prop} {a : Act} {w : World}
    (hro : F.round = none) (h1 : 1 ≤ n) {gf : Nat} {lb : Array Value} (hg : a.eval g = .func (.func gf) #[] lb) (hFg : F.fn gf) (eg : ∀ args w, (callFunc gf args).run P w = .ok (.enter gf args) w)
    {encs : α → Array Value} {K₀ : Nat → Prop} {S Sp : List α → Prop} {N : Nat} {w0 : World} (hseq : SeqStopsT F (n - 1) P gf lb encs K₀ S Sp N w0)
    (hK₀ : ¬ K₀ (w.heap.size + 1)) (hb0 : Below w0.heap.size w0 w) (hps : ∀ x, (encs x).size = ps.size)
    (I : List α → World → Prop) (Ix : Code → List α → World → Prop) (hI : OwnM (fun _ => true) w.heap.size I) (hIx : ∀ c, OwnM (fun _ => true) w.heap.size (Ix c)) (h0 : I [] w) (a₁ : α → Act)
    (hassign : ∀ (l : Nat) (x : α) (W : World) (K : Act → World → Prop), K (a₁ x) W →
      assign.wpIn (F.inRound l) (n - 1 - 1) P (Exit.then K (fun _ _ _ => False)) { tmps := (ps.zip (encs x)).foldl (fun t (p, v) => t.setIfInBounds p v) a.tmps, defers := [] } W)
    (hbody : ∀ (l : Nat) (pre : List α) (x : α) (W : World), I pre W → pre.length < N → body.wpIn (F.inRound l) (n - 1 - 1) P (ownPostT w.heap.size K₀ (w.heap.size + 2) I Ix (pre ++ [x]) W) (a₁ x) W)
    (hdone : ∀ (D : Nat) (xs : List α) (W : World), w.heap.size ≤ D → S xs → I xs W → W.heap[D]? = some (.deferred (some [])) → Q .normal { a with defers := { target := .collected D, args := #[] } :: a.defers } W)
    (hstop : ∀ (D : Nat) (c : Code) (pre : List α) (W : World), w.heap.size ≤ D → Sp pre → Ix c pre W → W.heap[D]? = some (.deferred (some [])) → c.wpIn F n P Q { a with defers := { target := .collected D, args := #[] } :: a.defers } W) :
    (Code.rangeFunc g ps assign body).wpIn F n P Q a w :=
  wpIn_rangeFunc_T hro h1 hg hFg eg hseq hK₀ hb0 hps I Ix hI hIx h0 (fun x a' _ => a' = a₁ x) (fun _ _ _ _ _ h _ => h)
    (fun l _ x W K hi hK => hassign l x W K (hK _ W ⟨Nat.le_refl _, fun _ _ _ h _ => h⟩ (Kept2.refl _ _ _) hi rfl))
    (fun l pre x a' W hi ha hl => by subst ha; exact hbody l pre x W hi hl) hdone hstop

/-- Any turn of what lies from B on. -/
abbrev TurnsAny (B : Nat) (W W' : World) : Prop := Turns (fun _ => true) B W W'
theorem TurnsAny.of {B : Nat} {W W' : World} {row : Option Nat} (hg : W.grownBy W' row) (hr : ∀ r, row = some r → B ≤ r ∧ r < W.heap.size) : TurnsAny B W W' :=
  ⟨row, hg, fun r e => by
    obtain ⟨h1, h2⟩ := hr r e
    exact ⟨h1, W.heap[r], by simp [h2], rfl⟩⟩
end Go.Proofs.Ytghkacciihocdaa
