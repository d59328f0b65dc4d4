/- A range over an iterator, whose rounds keep slices of their own: what a round laid earlier (objects of the kind Mb) it may turn, the iterator may not; all else that lies from E on the iterator may turn, and no round. -/
import Derived.Test.YtehhablobfaplaaDoorR2
namespace Go.Proofs.YtehhablobfaplaaDoor
open Go Go.RowKit
variable {F : Fence} {n : Nat} {P : Program}

/-- What a round keeps: the blocks of K₀, and what lies from E on and is not of its own kind. -/
structure KeptB (Mb : Obj → Bool) (K₀ : Nat → Prop) (E : Nat) (W W' : World) : Prop where
  os : W'.os = W.os
  tape : W'.tape = W.tape
  output : W'.output = W.output
  size : W.heap.size ≤ W'.heap.size
  low : ∀ k, k < W.heap.size → K₀ k → W'.heap[k]? = W.heap[k]?
  high : ∀ k o, E ≤ k → W.heap[k]? = some o → Mb o = false → W'.heap[k]? = some o
theorem KeptB.refl (Mb : Obj → Bool) (K₀ : Nat → Prop) (E : Nat) (W : World) : KeptB Mb K₀ E W W := ⟨rfl, rfl, rfl, Nat.le_refl _, fun _ _ _ => rfl, fun _ _ _ h _ => h⟩
theorem KeptB.trans {Mb : Obj → Bool} {K₀ : Nat → Prop} {E : Nat} {A B C : World} (h : KeptB Mb K₀ E A B) (k : KeptB Mb K₀ E B C) : KeptB Mb K₀ E A C :=
  ⟨k.os.trans h.os, k.tape.trans h.tape, k.output.trans h.output, Nat.le_trans h.size k.size, fun i hl hi => (k.low i (Nat.lt_of_lt_of_le hl h.size) hi).trans (h.low i hl hi), fun i o hE ho hM => k.high i o hE (h.high i o hE ho hM) hM⟩
theorem KeptB.calls {Mb : Obj → Bool} {K₀ : Nat → Prop} {E : Nat} {W W' : World} (h : Below W.heap.size W W') : KeptB Mb K₀ E W W' :=
  ⟨h.os, h.tape, h.output, h.size, fun k hk _ => h.block k hk, fun k _ _ ho _ => (h.block k (Array.getElem?_eq_some_iff.1 ho).1).trans ho⟩
theorem KeptB.grown {Mb : Obj → Bool} {K₀ : Nat → Prop} {E : Nat} {W W' : World} {r : Nat} (h : W.grownBy W' (some r)) (hr : ¬ K₀ r) (hE : r < E ∨ ∃ o, W.heap[r]? = some o ∧ Mb o = true) : KeptB Mb K₀ E W W' :=
  ⟨h.os, h.tape, h.output, h.size, fun k hl hk => h.block k hl (fun e => by cases e; exact hr hk), fun k o hk ho hM => (h.block k (Array.getElem?_eq_some_iff.1 ho).1 (fun e => by
    cases e
    rcases hE with hE | ⟨o', h1, h2⟩
    · omega
    · rw [ho] at h1; cases h1; rw [hM] at h2; cases h2)).trans ho⟩
theorem KeptB.grow {Mb : Obj → Bool} {K₀ : Nat → Prop} {E : Nat} {W W' : World} (h : W.grownBy W' none) : KeptB Mb K₀ E W W' :=
  ⟨h.os, h.tape, h.output, h.size, fun k hl _ => h.block k hl (fun e => by cases e), fun k o _ ho _ => (h.block k (Array.getElem?_eq_some_iff.1 ho).1 (fun e => by cases e)).trans ho⟩
theorem KeptB.cell {Mb : Obj → Bool} {K₀ : Nat → Prop} {E : Nat} {W W' : World} (h : KeptB Mb K₀ E W W') {b i : Nat} (hl : b < W.heap.size) (hb : K₀ b) : W'.cell? ⟨b, i, none⟩ = W.cell? ⟨b, i, none⟩ := by
  simp only [World.cell?, h.low b hl hb]
theorem KeptB.below {Mb : Obj → Bool} {n₀ E : Nat} {W W' : World} (h : KeptB Mb (fun k => k < n₀) E W W') (hn : n₀ ≤ W.heap.size) : Below n₀ W W' := ⟨h.os, h.tape, h.output, h.size, fun k hk => h.low k (by omega) hk⟩

/-- What a round's body owes. -/
def ownPostB {α : Type} (B : Nat) (Mb : Obj → Bool) (K₀ : Nat → Prop) (E : Nat) (I : List α → World → Prop) (Ix : Code → List α → World → Prop) (xs : List α) (W : World) : Exit → Act → World → Prop
  | .normal, _, W' => KeepsFrom B W W' ∧ KeptB Mb K₀ E W W' ∧ I xs W'
  | .ret, _, W' => KeepsFrom B W W' ∧ KeptB Mb K₀ E W W' ∧ Ix .ret xs W'
  | .exit id, _, W' => KeepsFrom B W W' ∧ KeptB Mb K₀ E W W' ∧ Ix (.exit id) xs W'
  | .goto t, _, W' => KeepsFrom B W W' ∧ KeptB Mb K₀ E W W' ∧ Ix (.goto t) xs W'
  | .panic _, _, _ => False
  | .outgrown, _, _ => False

/-- The contract of such an iterator. -/
def SeqStopsB {α : Type} (Mb : Obj → Bool) (F : Fence) (n : Nat) (P : Program) (g : Nat) (lb : Array Value) (encs : α → Array Value) (K₀ : Nat → Prop) (S Sp : List α → Prop) (N : Nat) (w : World) : Prop :=
  ∀ (l : Nat) (J Jx : List α → World → Prop) (W : World), Below w.heap.size w W → AbidesM (fun o => !Mb o) W.heap.size J → AbidesM (fun o => !Mb o) W.heap.size Jx →
    (∀ pre x W1, J pre W1 → pre.length < N → YieldAt F (n - 1) P l (encs x) W1 fun e W' =>
      KeptB Mb K₀ W.heap.size W1 W' ∧ ((e = .returned (.bool true) ∧ J (pre ++ [x]) W') ∨ (e = .returned (.bool false) ∧ Jx (pre ++ [x]) W'))) → J [] W →
    CallsIn F n P g (#[.func (.yield l) #[] #[]] ++ lb) W fun e W' => (∃ v, e = .returned v) ∧ ((∃ xs, S xs ∧ J xs W') ∨ (∃ pre, Sp pre ∧ Jx pre W'))

/-- What minds no turn of what is not of the kind. -/
theorem Turns.keepsKind {Mb : Obj → Bool} (hMb : ∀ o, o.isCells = false → Mb o = false) {B : Nat} {W W' : World} (h : Turns (fun o => !Mb o || !o.isCells) B W W') {k : Nat} {o : Obj} (hk : W.heap[k]? = some o) (ho : Mb o = true) : W'.heap[k]? = some o :=
  h.spares hk (by
    cases hc : o.isCells with
    | true => simp [ho]
    | false => rw [hMb o hc] at ho; cases ho)

theorem wpIn_rangeFunc_B {α : Type} {Mb : Obj → Bool}
    {g : Operand} {ps : Array Tmp} {assign body : Code} {Q : Exit → Act → World → Prop} {a : Act} {w : World}
    (hro : F.round = none) (h1 : 1 ≤ n) {gf : Nat} {lb : Array Value} (hg : a.eval g = .func (.func gf) #[] lb) (hFg : F.fn gf) (eg : ∀ args w, (callFunc gf args).run P w = .ok (.enter gf args) w)
    {encs : α → Array Value} {K₀ : Nat → Prop} {S Sp : List α → Prop} {N : Nat} {w0 : World} (hseq : SeqStopsB Mb F (n - 1) P gf lb encs K₀ S Sp N w0)
    (hK₀ : ¬ K₀ (w.heap.size + 1)) (hb0 : Below w0.heap.size w0 w) (hps : ∀ x, (encs x).size = ps.size)
    (I : List α → World → Prop) (Ix : Code → List α → World → Prop) (hI : OwnM (fun o => !Mb o) w.heap.size I) (hIx : ∀ c, OwnM (fun o => !Mb o) w.heap.size (Ix c)) (h0 : I [] w) (Ax : α → Act → World → Prop) (hAx : ∀ x a', OwnM (fun _ => false) w.heap.size (fun (_ : Unit) W => Ax x a' W))
    (hassign : ∀ (l : Nat) (pre : List α) (x : α) (W : World) (K : Act → World → Prop), I pre W → (∀ a' W', KeepsFrom w.heap.size W W' → KeptB Mb K₀ (w.heap.size + 2) W W' → I pre W' → Ax x a' W' → K a' W') →
      assign.wpIn (F.inRound l) (n - 1 - 1) P (Exit.then K (fun _ _ _ => False)) { tmps := (ps.zip (encs x)).foldl (fun t (p, v) => t.setIfInBounds p v) a.tmps, defers := [] } W)
    (hbody : ∀ (l : Nat) (pre : List α) (x : α) (a' : Act) (W : World), I pre W → Ax x a' W → pre.length < N → body.wpIn (F.inRound l) (n - 1 - 1) P (ownPostB w.heap.size Mb K₀ (w.heap.size + 2) I Ix (pre ++ [x]) W) a' W)
    (hdone : ∀ (D : Nat) (xs : List α) (W : World), w.heap.size ≤ D → S xs → I xs W → W.heap[D]? = some (.deferred (some [])) → Q .normal { a with defers := { target := .collected D, args := #[] } :: a.defers } W)
    (hstop : ∀ (D : Nat) (c : Code) (pre : List α) (W : World), w.heap.size ≤ D → Sp pre → Ix c pre W → W.heap[D]? = some (.deferred (some [])) → c.wpIn F n P Q { a with defers := { target := .collected D, args := #[] } :: a.defers } W) :
    (Code.rangeFunc g ps assign body).wpIn F n P Q a w := by
  refine wpIn_rangeFunc fun fn hfn => ?_
  rw [hro]
  generalize hrec : (fun (st : LoopState) (pe : Option Code) => ({ state := st, pending := pe, fn, tmps := a.tmps, params := ps, assign, body, defers := w.heap.size } : Loop)) = rec
  have hfld : ∀ st pe, (rec st pe).state = st ∧ (rec st pe).pending = pe ∧ (rec st pe).params = ps ∧ (rec st pe).body = body ∧ (rec st pe).assign = assign ∧ (rec st pe).fn = fn ∧ (rec st pe).tmps = a.tmps ∧ (rec st pe).defers = w.heap.size := fun st pe => by subst hrec; exact ⟨rfl, rfl, rfl, rfl, rfl, rfl, rfl, rfl⟩
  generalize hW1 : (w.alloc (.deferred (some []))).alloc (.loop (rec .ready none)) = W1
  have hbk : Books w (rec .ready none) W1 := by
    subst hW1
    exact ⟨by have := World.alloc_heap_new (w.alloc (.deferred (some []))) (.loop (rec .ready none)); rwa [World.size_alloc] at this, (Below.heap_alloc _ _ _ (by simp)).trans (World.alloc_heap_new w _)⟩
  have hs1 : W1.heap.size = w.heap.size + 2 := by subst hW1; simp
  have hI1 : I [] W1 := by subst hW1; exact hI.alloc _ (hI.alloc _ h0)
  have hb1 : Below w0.heap.size w0 W1 := by subst hW1; exact hb0.trans ((((Below.refl _ w).alloc (Nat.le_refl _) _).alloc (by simp) _).mono hb0.size)
  refine ⟨w.heap.size + 1, [{ target := .collected w.heap.size, args := #[] }], W1, { target := .fn (.func gf) lb, args := #[.func (.yield (w.heap.size + 1)) #[] #[]] }, W1, gf,
    #[.func (.yield (w.heap.size + 1)) #[] #[]] ++ lb, W1, ?enter, ?who, fun f' hf' => ?led, ?call, fun _ => h1, ?run⟩
  case enter => subst hW1 hrec; exact run_enterLoop_outer _ _ _ _ _
  case who => simp only [resolve, hg]; simp [go_sem]
  case led => simp [Target.leads] at hf'; subst hf'; exact hFg
  case call => simp [invoke, go_sem, eg]
  have wide : ∀ {A B : World}, Turns (fun o => !Mb o) W1.heap.size A B → Turns (fun o => !Mb o || !o.isCells) w.heap.size A B := fun h => (h.mono (by omega)).wide
  refine (hseq (w.heap.size + 1) (fun pre W => I pre W ∧ Books w (rec .ready none) W) (fun pre W => ∃ c, Ix c pre W ∧ Books w (rec .done (some c)) W) W1 hb1
    (fun s A B hs ht => ⟨hI s A B hs.1 (wide ht), hs.2.aside ht (by omega)⟩)
    (fun s A B ⟨c, hc, hk⟩ ht => ⟨c, hIx c s A B hc (wide ht), hk.aside ht (by omega)⟩) ?round ⟨hI1, hbk⟩).mono ?after
  case after =>
    rintro e W2 ⟨⟨v, rfl⟩, ⟨xs, hS, hi, hk⟩ | ⟨pre, hSp, c, hi, hk⟩⟩
    · have hend := run_endLoop (P := P) hk.1 (by rw [(hfld .ready none).1]; simp)
      subst hrec
      exact ⟨none, _, hend, hdone _ xs _ (Nat.le_refl _) hS (hI.put _ hi (by omega) hk.1 rfl) (hk.put _).2⟩
    · have hend := run_endLoop (P := P) hk.1 (by rw [(hfld .done (some c)).1]; simp)
      subst hrec
      exact ⟨some c, _, hend, hstop _ c pre _ (Nat.le_refl _) hSp ((hIx c).put _ hi (by omega) hk.1 rfl) (hk.put _).2⟩
  case round =>
    rintro pre x W ⟨hi, hk⟩ hlen
    have hy := run_yield (P := P) (args := encs x) hk.1 (by rw [(hfld .ready none).2.2.1]; exact hps x)
    have hbeg := fun (V : World) (hv : Books w (rec .ready none) V) => run_beginRound (P := P) hv.1 (by rw [(hfld .ready none).1])
    have hend := fun (V : World) (j : Option Code) (hv : Books w { rec .ready none with state := .busy } V) => run_endRound (P := P) j hv.1
    subst hrec
    refine ⟨fn, _, assign, body, hy, roundIn_of_wpIn hfn (hassign _ pre x W _ hi fun a' V hkf hkp hia hax => ?_)⟩
    have hkV := hk.kept hkf
    refine ⟨_, hbeg V hkV, ?_⟩
    have hkB := hkV.put { state := .busy, pending := none, fn := fn, tmps := a.tmps, params := ps, assign := assign, body := body, defers := w.heap.size }
    have kput : ∀ (A : World) (o : Loop), (∃ q, Books w q A) → KeptB Mb K₀ (w.heap.size + 2) A (A.putObj (w.heap.size + 1) (.loop o)) := fun A o _ => .grown (grownBy_putObj' A _ _) hK₀ (.inl (by omega))
    have hpB := kput V { state := .busy, pending := none, fn := fn, tmps := a.tmps, params := ps, assign := assign, body := body, defers := w.heap.size } ⟨_, hkV⟩
    refine wpIn_mono (hbody _ pre x a' _ (hI.put _ hia (by omega) hkV.1 rfl) ((hAx x a').put (s := ()) _ hax (by omega) hkV.1 rfl) hlen) ?_
    rintro e a3 W3 hp
    have fin : ∀ (c : Option Code) (A : World), KeptB Mb K₀ (w.heap.size + 2) (V.putObj (w.heap.size + 1) (.loop { state := .busy, pending := none, fn := fn, tmps := a.tmps, params := ps, assign := assign, body := body, defers := w.heap.size })) A → (∃ q, Books w q A) → ∀ o : Loop, KeptB Mb K₀ (w.heap.size + 2) W (A.putObj (w.heap.size + 1) (.loop o)) := fun c A hA hq o => hkp.trans (hpB.trans (hA.trans (kput A o hq)))
    cases e with
    | normal =>
      obtain ⟨hk3, hkp3, hi3⟩ := hp
      have hb3 := hkB.kept hk3
      exact ⟨_, _, hend W3 none hb3, (by rw [hs1]; exact fin none W3 hkp3 ⟨_, hb3⟩ _), .inl ⟨rfl, hI.put _ hi3 (by omega) hb3.1 rfl, hb3.put _⟩⟩
    | ret =>
      obtain ⟨hk3, hkp3, hi3⟩ := hp
      have hb3 := hkB.kept hk3
      exact ⟨_, _, hend W3 (some .ret) hb3, (by rw [hs1]; exact fin none W3 hkp3 ⟨_, hb3⟩ _), .inr ⟨rfl, .ret, (hIx _).put _ hi3 (by omega) hb3.1 rfl, hb3.put _⟩⟩
    | exit id =>
      obtain ⟨hk3, hkp3, hi3⟩ := hp
      have hb3 := hkB.kept hk3
      exact ⟨_, _, hend W3 (some (.exit id)) hb3, (by rw [hs1]; exact fin none W3 hkp3 ⟨_, hb3⟩ _), .inr ⟨rfl, .exit id, (hIx _).put _ hi3 (by omega) hb3.1 rfl, hb3.put _⟩⟩
    | goto t =>
      obtain ⟨hk3, hkp3, hi3⟩ := hp
      have hb3 := hkB.kept hk3
      exact ⟨_, _, hend W3 (some (.goto t)) hb3, (by rw [hs1]; exact fin none W3 hkp3 ⟨_, hb3⟩ _), .inr ⟨rfl, .goto t, (hIx _).put _ hi3 (by omega) hb3.1 rfl, hb3.put _⟩⟩
    | panic ch => exact hp.elim
    | outgrown => exact hp.elim
/-- The same, where the loop's variables lie in the frame. -/
theorem wpIn_rangeFunc_B1 {α : Type} {Mb : Obj → Bool} {g : Operand} {ps : Array Tmp} {assign body : Code} {Q : Exit → Act → World → Prop} {a : Act} {w : World}
    (hro : F.round = none) (h1 : 1 ≤ n) {gf : Nat} {lb : Array Value} (hg : a.eval g = .func (.func gf) #[] lb) (hFg : F.fn gf) (eg : ∀ args w, (callFunc gf args).run P w = .ok (.enter gf args) w)
    {encs : α → Array Value} {K₀ : Nat → Prop} {S Sp : List α → Prop} {N : Nat} {w0 : World} (hseq : SeqStopsB Mb F (n - 1) P gf lb encs K₀ S Sp N w0)
    (hK₀ : ¬ K₀ (w.heap.size + 1)) (hb0 : Below w0.heap.size w0 w) (hps : ∀ x, (encs x).size = ps.size)
    (I : List α → World → Prop) (Ix : Code → List α → World → Prop) (hI : OwnM (fun o => !Mb o) w.heap.size I) (hIx : ∀ c, OwnM (fun o => !Mb o) w.heap.size (Ix c)) (h0 : I [] w) (a₁ : α → Act)
    (hassign : ∀ (l : Nat) (x : α) (W : World) (K : Act → World → Prop), K (a₁ x) W →
      assign.wpIn (F.inRound l) (n - 1 - 1) P (Exit.then K (fun _ _ _ => False)) { tmps := (ps.zip (encs x)).foldl (fun t (p, v) => t.setIfInBounds p v) a.tmps, defers := [] } W)
    (hbody : ∀ (l : Nat) (pre : List α) (x : α) (W : World), I pre W → pre.length < N → body.wpIn (F.inRound l) (n - 1 - 1) P (ownPostB w.heap.size Mb K₀ (w.heap.size + 2) I Ix (pre ++ [x]) W) (a₁ x) W)
    (hdone : ∀ (D : Nat) (xs : List α) (W : World), w.heap.size ≤ D → S xs → I xs W → W.heap[D]? = some (.deferred (some [])) → Q .normal { a with defers := { target := .collected D, args := #[] } :: a.defers } W)
    (hstop : ∀ (D : Nat) (c : Code) (pre : List α) (W : World), w.heap.size ≤ D → Sp pre → Ix c pre W → W.heap[D]? = some (.deferred (some [])) → c.wpIn F n P Q { a with defers := { target := .collected D, args := #[] } :: a.defers } W) :
    (Code.rangeFunc g ps assign body).wpIn F n P Q a w :=
  wpIn_rangeFunc_B hro h1 hg hFg eg hseq hK₀ hb0 hps I Ix hI hIx h0 (fun x a' _ => a' = a₁ x) (fun _ _ _ _ _ h _ => h)
    (fun l _ x W K hi hK => hassign l x W K (hK _ W ⟨Nat.le_refl _, fun _ _ _ h _ => h⟩ (KeptB.refl _ _ _ _) hi rfl))
    (fun l pre x a' W hi ha hl => by subst ha; exact hbody l pre x W hi hl) hdone hstop
/-- The same, where the body never leaves, and each round has a block of its own for what has come. -/
theorem rangeFuncB_A {α : Type} {Mb : Obj → Bool} {g : Operand} {ps : Array Tmp} {assign body : Code} {Q : Exit → Act → World → Prop} {a : Act} {w : World}
    (hro : F.round = none) (h1 : 1 ≤ n) {gf : Nat} {lb : Array Value} (hg : a.eval g = .func (.func gf) #[] lb) (hFg : F.fn gf) (eg : ∀ args w, (callFunc gf args).run P w = .ok (.enter gf args) w)
    {encs : α → Array Value} {K₀ : Nat → Prop} {S Sp : List α → Prop} {N : Nat} {w0 : World} (hseq : SeqStopsB Mb F (n - 1) P gf lb encs K₀ S Sp N w0)
    (hK₀ : ¬ K₀ (w.heap.size + 1)) (hb0 : Below w0.heap.size w0 w) (hps : ∀ x, (encs x).size = ps.size)
    (I : List α → World → Prop) (hI : OwnM (fun o => !Mb o) w.heap.size I) (h0 : I [] w)
    (Ab : α → Nat → World → Prop) (hAb : ∀ x b, OwnM (fun _ => false) w.heap.size (fun (_ : Unit) W => Ab x b W)) (a₁ : α → Nat → Act)
    (hassign : ∀ (l : Nat) (pre : List α) (x : α) (W : World) (K : Act → World → Prop), I pre W → (∀ b W', KeepsFrom w.heap.size W W' → KeptB Mb K₀ (w.heap.size + 2) W W' → I pre W' → Ab x b W' → K (a₁ x b) W') →
      assign.wpIn (F.inRound l) (n - 1 - 1) P (Exit.then K (fun _ _ _ => False)) { tmps := (ps.zip (encs x)).foldl (fun t (p, v) => t.setIfInBounds p v) a.tmps, defers := [] } W)
    (hbody : ∀ (l : Nat) (pre : List α) (x : α) (b : Nat) (W : World), I pre W → Ab x b W → pre.length < N → body.wpIn (F.inRound l) (n - 1 - 1) P (ownPostB w.heap.size Mb K₀ (w.heap.size + 2) I (fun _ _ _ => False) (pre ++ [x]) W) (a₁ x b) W)
    (hdone : ∀ (D : Nat) (xs : List α) (W : World), w.heap.size ≤ D → S xs → I xs W → W.heap[D]? = some (.deferred (some [])) → Q .normal { a with defers := { target := .collected D, args := #[] } :: a.defers } W) :
    (Code.rangeFunc g ps assign body).wpIn F n P Q a w :=
  wpIn_rangeFunc_B hro h1 hg hFg eg hseq hK₀ hb0 hps I (fun _ _ _ => False) hI (fun _ _ _ _ h _ => h) h0
    (fun x a' W => ∃ b, a' = a₁ x b ∧ Ab x b W) (fun x a' s A B ⟨b, e, h⟩ ht => ⟨b, e, hAb x b s A B h ht⟩)
    (fun l pre x W K hi hK => hassign l pre x W K hi fun b W' h1 h2 h3 h4 => hK _ W' h1 h2 h3 ⟨b, rfl, h4⟩) (fun l pre x a' W hi ⟨b, e, h⟩ hl => by subst e; exact hbody l pre x b W hi h hl) hdone
    (fun _ _ _ _ _ _ h _ => h.elim)
theorem Turns.imp {M M' : Obj → Bool} {B : Nat} {W W' : World} (h : Turns M B W W') (hi : ∀ o, M o = true → M' o = true) : Turns M' B W W' := by
  obtain ⟨row, hg, hr⟩ := h
  exact ⟨row, hg, fun r e => by obtain ⟨a, o, b, c⟩ := hr r e; exact ⟨a, o, b, hi o c⟩⟩
/-- A turn of what is no cells is one of what is not of the kind. -/
theorem Turns.unkind {Mb : Obj → Bool} (hMb : ∀ o, o.isCells = false → Mb o = false) {B : Nat} {W W' : World} (h : Turns (fun o => !Mb o || !o.isCells) B W W') : Turns (fun o => !Mb o) B W W' :=
  h.imp fun o ho => by
    cases hc : o.isCells with
    | true => simpa [hc] using ho
    | false => simp [hMb o hc]
theorem Turns.record {M : Obj → Bool} {B D : Nat} {W : World} {d : Obj} (o : Obj) (h : W.heap[D]? = some d) (hM : M d = true) (hB : B ≤ D) : Turns M B W (W.putObj D o) :=
  ⟨some D, grownBy_putObj' W D o, fun r e => by cases e; exact ⟨hB, d, h, hM⟩⟩
end Go.Proofs.YtehhablobfaplaaDoor
