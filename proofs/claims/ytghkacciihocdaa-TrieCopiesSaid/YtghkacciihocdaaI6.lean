/- A range over an iterator that may see what the rounds do: its contract speaks of states, and of how one follows another. -/
import Derived.Test.YtghkacciihocdaaR2
namespace Go.Proofs.Ytghkacciihocdaa
open Go Go.RowKit
variable {F : Fence} {n : Nat} {P : Program}
namespace T6

/-- The contract of such an iterator: how it begins (St), what a round is handed in a state (encs), what follows (Stp). -/
def IterC {σ : Type} (F : Fence) (n : Nat) (P : Program) (g : Nat) (lb : Array Value) (encs : σ → Array Value) (St : (σ → World → Prop) → (World → Prop) → World → Prop) (Stp : (σ → World → Prop) → (World → Prop) → σ → World → Prop) (w : World) : Prop :=
  ∀ (l : Nat) (J J' : σ → World → Prop) (Jx Fin : World → Prop) (W : World), Below w.heap.size w W → AbidesM (fun _ => false) W.heap.size J → AbidesM (fun _ => false) W.heap.size (fun (_ : Unit) => Fin) →
    (∀ s W1, J s W1 → YieldAt F (n - 1) P l (encs s) W1 fun e W' => (e = .returned (.bool true) ∧ J' s W') ∨ (e = .returned (.bool false) ∧ Jx W')) →
    (∀ s W1, J' s W1 → Stp J Fin s W1) → St J Fin W →
    CallsIn F n P g (#[.func (.yield l) #[] #[]] ++ lb) W fun e W' => (∃ v, e = .returned v) ∧ (Fin W' ∨ Jx W')

/-- What a round's body owes. -/
def ownPostD {σ : Type} (B : Nat) (I' : σ → World → Prop) (Ix : Code → World → Prop) (s : σ) (W : World) : Exit → Act → World → Prop
  | .normal, _, W' => KeepsFrom B W W' ∧ I' s W'
  | .ret, _, W' => KeepsFrom B W W' ∧ Ix .ret W'
  | .exit id, _, W' => KeepsFrom B W W' ∧ Ix (.exit id) W'
  | .goto t, _, W' => KeepsFrom B W W' ∧ Ix (.goto t) W'
  | .panic _, _, _ => False
  | .outgrown, _, _ => False

theorem wpIn_rangeFunc_D {σ : Type}
    {g : Operand} {ps : Array Tmp} {assign body : Code} {Q : Exit → Act → World → Prop} {a : Act} {w : World}
    (hro : F.round = none) (h1 : 1 ≤ n) {gf : Nat} {lb : Array Value} (hg : a.eval g = .func (.func gf) #[] lb) (hFg : F.fn gf) (eg : ∀ args w, (callFunc gf args).run P w = .ok (.enter gf args) w)
    {encs : σ → Array Value} {St : (σ → World → Prop) → (World → Prop) → World → Prop} {Stp : (σ → World → Prop) → (World → Prop) → σ → World → Prop} {w0 : World} (hseq : IterC F (n - 1) P gf lb encs St Stp w0)
    (hSt : ∀ (J K : σ → World → Prop) (A B : World → Prop) W, (∀ s, J s W → K s W) → (A W → B W) → St J A W → St K B W)
    (hStp : ∀ (J K : σ → World → Prop) (A B : World → Prop) s W, (∀ s, J s W → K s W) → (A W → B W) → Stp J A s W → Stp K B s W)
    (hb0 : Below w0.heap.size w0 w) (hps : ∀ x, (encs x).size = ps.size)
    (I I' : σ → World → Prop) (Ix : Code → World → Prop) (Fin : World → Prop) (hI : OwnM (fun _ => false) w.heap.size I) (hI' : OwnM (fun _ => false) w.heap.size I') (hIx : ∀ c, OwnM (fun _ => false) w.heap.size (fun (_ : Unit) => Ix c)) (hFin : OwnM (fun _ => false) w.heap.size (fun (_ : Unit) => Fin))
    (h0 : ∀ W, Below w.heap.size w W → St I Fin W) (hst : ∀ s W, I' s W → Stp I Fin s W)
    (Ax : σ → Act → World → Prop) (hAx : ∀ x a', OwnM (fun _ => false) w.heap.size (fun (_ : Unit) W => Ax x a' W))
    (hassign : ∀ (l : Nat) (x : σ) (W : World) (K : Act → World → Prop), I x W → (∀ a' W', KeepsFrom w.heap.size W W' → I x W' → Ax x a' W' → K a' W') →
      assign.wpIn (F.inRound l) (n - 1 - 1) P (Exit.then K (fun _ _ _ => False)) { tmps := (ps.zip (encs x)).foldl (fun t (p, v) => t.setIfInBounds p v) a.tmps, defers := [] } W)
    (hbody : ∀ (l : Nat) (x : σ) (a' : Act) (W : World), I x W → Ax x a' W → body.wpIn (F.inRound l) (n - 1 - 1) P (ownPostD w.heap.size I' Ix x W) a' W)
    (hdone : ∀ (D : Nat) (W : World), w.heap.size ≤ D → Fin W → W.heap[D]? = some (.deferred (some [])) → Q .normal { a with defers := { target := .collected D, args := #[] } :: a.defers } W)
    (hstop : ∀ (D : Nat) (c : Code) (W : World), w.heap.size ≤ D → Ix c W → W.heap[D]? = some (.deferred (some [])) → c.wpIn F n P Q { a with defers := { target := .collected D, args := #[] } :: a.defers } W) :
    (Code.rangeFunc g ps assign body).wpIn F n P Q a w := by
  refine wpIn_rangeFunc fun fn hfn => ?_
  rw [hro]
  generalize hrec : (fun (st : LoopState) (pe : Option Code) => ({ state := st, pending := pe, fn, tmps := a.tmps, params := ps, assign, body, defers := w.heap.size } : Loop)) = rec
  have hfld : ∀ st pe, (rec st pe).state = st ∧ (rec st pe).pending = pe ∧ (rec st pe).params = ps ∧ (rec st pe).body = body ∧ (rec st pe).assign = assign ∧ (rec st pe).fn = fn ∧ (rec st pe).tmps = a.tmps ∧ (rec st pe).defers = w.heap.size := fun st pe => by subst hrec; exact ⟨rfl, rfl, rfl, rfl, rfl, rfl, rfl, rfl⟩
  generalize hW1 : (w.alloc (.deferred (some []))).alloc (.loop (rec .ready none)) = W1
  have hbk : Books w (rec .ready none) W1 := by
    subst hW1
    exact ⟨by have := World.alloc_heap_new (w.alloc (.deferred (some []))) (.loop (rec .ready none)); rwa [World.size_alloc] at this, (Below.heap_alloc _ _ _ (by simp)).trans (World.alloc_heap_new w _)⟩
  have hs1 : W1.heap.size = w.heap.size + 2 := by subst hW1; simp
  have hbw : Below w.heap.size w W1 := by subst hW1; exact ((Below.refl _ w).alloc (Nat.le_refl _) _).alloc (by simp) _
  have hb1 : Below w0.heap.size w0 W1 := hb0.trans (hbw.mono hb0.size)
  refine ⟨w.heap.size + 1, [{ target := .collected w.heap.size, args := #[] }], W1, { target := .fn (.func gf) lb, args := #[.func (.yield (w.heap.size + 1)) #[] #[]] }, W1, gf,
    #[.func (.yield (w.heap.size + 1)) #[] #[]] ++ lb, W1, ?enter, ?who, fun f' hf' => ?led, ?call, fun _ => h1, ?run⟩
  case enter => subst hW1 hrec; exact run_enterLoop_outer _ _ _ _ _
  case who => simp only [resolve, hg]; simp [go_sem]
  case led => simp [Target.leads] at hf'; subst hf'; exact hFg
  case call => simp [invoke, go_sem, eg]
  have wide : ∀ {A B : World}, Turns (fun _ => false) W1.heap.size A B → Turns (fun o => false || !o.isCells) w.heap.size A B := fun h => (h.mono (by omega)).wide
  refine (hseq (w.heap.size + 1) (fun s W => I s W ∧ Books w (rec .ready none) W) (fun s W => I' s W ∧ Books w (rec .ready none) W) (fun W => ∃ c, Ix c W ∧ Books w (rec .done (some c)) W) (fun W => Fin W ∧ Books w (rec .ready none) W) W1 hb1
    (fun s A B hs ht => ⟨hI s A B hs.1 (wide ht), hs.2.turned (fun _ => rfl) (fun _ => rfl) ht⟩)
    (fun s A B hs ht => ⟨hFin s A B hs.1 (wide ht), hs.2.turned (fun _ => rfl) (fun _ => rfl) ht⟩) ?round
    (fun s W h => hStp _ _ _ _ s W (fun _ hj => ⟨hj, h.2⟩) (fun hf => ⟨hf, h.2⟩) (hst s W h.1))
    (hSt _ _ _ _ W1 (fun _ hj => ⟨hj, hbk⟩) (fun hf => ⟨hf, hbk⟩) (h0 W1 hbw))).mono ?after
  case after =>
    rintro e W2 ⟨⟨v, rfl⟩, ⟨hi, hk⟩ | ⟨c, hi, hk⟩⟩
    · have hend := run_endLoop (P := P) hk.1 (by rw [(hfld .ready none).1]; simp)
      subst hrec
      exact ⟨none, _, hend, hdone _ _ (Nat.le_refl _) (hFin.put (s := ()) _ hi (by omega) hk.1 rfl) (hk.put _).2⟩
    · have hend := run_endLoop (P := P) hk.1 (by rw [(hfld .done (some c)).1]; simp)
      subst hrec
      exact ⟨some c, _, hend, hstop _ c _ (Nat.le_refl _) ((hIx c).put (s := ()) _ hi (by omega) hk.1 rfl) (hk.put _).2⟩
  case round =>
    rintro x W ⟨hi, hk⟩
    have hy := run_yield (P := P) (args := encs x) hk.1 (by rw [(hfld .ready none).2.2.1]; exact hps x)
    have hbeg := fun (V : World) (hv : Books w (rec .ready none) V) => run_beginRound (P := P) hv.1 (by rw [(hfld .ready none).1])
    have hend := fun (V : World) (j : Option Code) (hv : Books w { rec .ready none with state := .busy } V) => run_endRound (P := P) j hv.1
    subst hrec
    refine ⟨fn, _, assign, body, hy, roundIn_of_wpIn hfn (hassign _ x W _ hi fun a' V hkf hia hax => ?_)⟩
    have hkV := hk.kept hkf
    refine ⟨_, hbeg V hkV, ?_⟩
    have hkB := hkV.put { state := .busy, pending := none, fn := fn, tmps := a.tmps, params := ps, assign := assign, body := body, defers := w.heap.size }
    refine wpIn_mono (hbody _ x a' _ (hI.put _ hia (by omega) hkV.1 rfl) ((hAx x a').put (s := ()) _ hax (by omega) hkV.1 rfl)) ?_
    rintro e a3 W3 hp
    cases e with
    | normal =>
      obtain ⟨hk3, hi3⟩ := hp
      have hb3 := hkB.kept hk3
      exact ⟨_, _, hend W3 none hb3, .inl ⟨rfl, hI'.put _ hi3 (by omega) hb3.1 rfl, hb3.put _⟩⟩
    | ret =>
      obtain ⟨hk3, hi3⟩ := hp
      have hb3 := hkB.kept hk3
      exact ⟨_, _, hend W3 (some .ret) hb3, .inr ⟨rfl, .ret, (hIx _).put (s := ()) _ hi3 (by omega) hb3.1 rfl, hb3.put _⟩⟩
    | exit id =>
      obtain ⟨hk3, hi3⟩ := hp
      have hb3 := hkB.kept hk3
      exact ⟨_, _, hend W3 (some (.exit id)) hb3, .inr ⟨rfl, .exit id, (hIx _).put (s := ()) _ hi3 (by omega) hb3.1 rfl, hb3.put _⟩⟩
    | goto t =>
      obtain ⟨hk3, hi3⟩ := hp
      have hb3 := hkB.kept hk3
      exact ⟨_, _, hend W3 (some (.goto t)) hb3, .inr ⟨rfl, .goto t, (hIx _).put (s := ()) _ hi3 (by omega) hb3.1 rfl, hb3.put _⟩⟩
    | panic ch => exact hp.elim
    | outgrown => exact hp.elim
/-- The same, where the loop's variables lie in the frame. -/
theorem wpIn_rangeFunc_D1 {σ : Type}
    {g : Operand} {ps : Array Tmp} {assign body : Code} {Q : Exit → Act → World → Prop} {a : Act} {w : World}
    (hro : F.round = none) (h1 : 1 ≤ n) {gf : Nat} {lb : Array Value} (hg : a.eval g = .func (.func gf) #[] lb) (hFg : F.fn gf) (eg : ∀ args w, (callFunc gf args).run P w = .ok (.enter gf args) w)
    {encs : σ → Array Value} {St : (σ → World → Prop) → (World → Prop) → World → Prop} {Stp : (σ → World → Prop) → (World → Prop) → σ → World → Prop} {w0 : World} (hseq : IterC F (n - 1) P gf lb encs St Stp w0)
    (hSt : ∀ (J K : σ → World → Prop) (A B : World → Prop) W, (∀ s, J s W → K s W) → (A W → B W) → St J A W → St K B W)
    (hStp : ∀ (J K : σ → World → Prop) (A B : World → Prop) s W, (∀ s, J s W → K s W) → (A W → B W) → Stp J A s W → Stp K B s W)
    (hb0 : Below w0.heap.size w0 w) (hps : ∀ x, (encs x).size = ps.size)
    (I I' : σ → World → Prop) (Ix : Code → World → Prop) (Fin : World → Prop) (hI : OwnM (fun _ => false) w.heap.size I) (hI' : OwnM (fun _ => false) w.heap.size I') (hIx : ∀ c, OwnM (fun _ => false) w.heap.size (fun (_ : Unit) => Ix c)) (hFin : OwnM (fun _ => false) w.heap.size (fun (_ : Unit) => Fin))
    (h0 : ∀ W, Below w.heap.size w W → St I Fin W) (hst : ∀ s W, I' s W → Stp I Fin s W) (a₁ : σ → Act)
    (hassign : ∀ (l : Nat) (x : σ) (W : World) (K : Act → World → Prop), K (a₁ x) W →
      assign.wpIn (F.inRound l) (n - 1 - 1) P (Exit.then K (fun _ _ _ => False)) { tmps := (ps.zip (encs x)).foldl (fun t (p, v) => t.setIfInBounds p v) a.tmps, defers := [] } W)
    (hbody : ∀ (l : Nat) (x : σ) (W : World), I x W → body.wpIn (F.inRound l) (n - 1 - 1) P (ownPostD w.heap.size I' Ix x W) (a₁ x) W)
    (hdone : ∀ (D : Nat) (W : World), w.heap.size ≤ D → Fin W → W.heap[D]? = some (.deferred (some [])) → Q .normal { a with defers := { target := .collected D, args := #[] } :: a.defers } W)
    (hstop : ∀ (D : Nat) (c : Code) (W : World), w.heap.size ≤ D → Ix c W → W.heap[D]? = some (.deferred (some [])) → c.wpIn F n P Q { a with defers := { target := .collected D, args := #[] } :: a.defers } W) :
    (Code.rangeFunc g ps assign body).wpIn F n P Q a w :=
  wpIn_rangeFunc_D hro h1 hg hFg eg hseq hSt hStp hb0 hps I I' Ix Fin hI hI' hIx hFin h0 hst (fun x a' _ => a' = a₁ x) (fun _ _ _ _ _ h _ => h)
    (fun l x W K hi hK => hassign l x W K (hK _ W ⟨Nat.le_refl _, fun _ _ _ h _ => h⟩ hi rfl))
    (fun l x a' W hi ha => by subst ha; exact hbody l x W hi) hdone hstop
/-- What is told of blocks below B, and of cells, minds no turn of what is no cells from B on. -/
theorem ownD_of {σ : Type} {B : Nat} {I : σ → World → Prop} (h : ∀ s (W W' : World), I s W → W.heap.size ≤ W'.heap.size → W'.os = W.os → W'.tape = W.tape → W'.output = W.output → (∀ k (o : Obj), W.heap[k]? = some o → (k < B ∨ o.isCells = true) → W'.heap[k]? = some o) → I s W') : OwnM (fun _ => false) B I := fun s W W' hs ht => by
  obtain ⟨row, hg, hr⟩ := ht
  refine h s W W' hs hg.size hg.os hg.tape hg.output (fun k o hk ho => ?_)
  refine (hg.block k (Array.getElem?_eq_some_iff.1 hk).1 (fun e => ?_)).trans hk
  obtain ⟨h0, o', h1, h2⟩ := hr k e.symm
  rw [hk] at h1; cases h1
  rcases ho with ho | ho
  · omega
  · simp [ho] at h2
/-- What such a turn keeps. -/
structure KeptC (B : Nat) (W W' : World) : Prop where
  size : W.heap.size ≤ W'.heap.size
  os : W'.os = W.os
  tape : W'.tape = W.tape
  output : W'.output = W.output
  same : ∀ k (o : Obj), W.heap[k]? = some o → (k < B ∨ o.isCells = true) → W'.heap[k]? = some o
theorem ownC_of {σ : Type} {B : Nat} {I : σ → World → Prop} (h : ∀ s (W W' : World), I s W → KeptC B W W' → I s W') : OwnM (fun _ => false) B I :=
  ownD_of fun s W W' hs h1 h2 h3 h4 h5 => h s W W' hs ⟨h1, h2, h3, h4, h5⟩
theorem KeptC.calls {B : Nat} {W W' : World} (h : Below W.heap.size W W') : KeptC B W W' := ⟨h.size, h.os, h.tape, h.output, fun k _ hk _ => (h.block k (Array.getElem?_eq_some_iff.1 hk).1).trans hk⟩
theorem blkC {B : Nat} {W W' : World} {g : Nat} {t : TypeId} {cs : Array Value} (h : Blk W g t cs) (hk : KeptC B W W') : Blk W' g t cs := hk.same g _ h (.inr rfl)
theorem KeptC.cell {B : Nat} {W W' : World} (hk : KeptC B W W') {p : Addr} {v : Value} (h : W.cell? p = some v) : W'.cell? p = some v := by
  unfold World.cell? at h ⊢
  split at h
  · rename_i cs T z he
    rw [hk.same _ _ he (.inr rfl)]
    exact h
  · cases h
theorem KeptC.below {B n₀ : Nat} {w W W' : World} (hk : KeptC B W W') (h : Below n₀ w W) (h1 : n₀ ≤ B) (h2 : n₀ ≤ W.heap.size) : Below n₀ w W' :=
  ⟨hk.os.trans h.os, hk.tape.trans h.tape, hk.output.trans h.output, Nat.le_trans h.size hk.size, fun k hlt => by
    rw [← h.block k hlt, hk.same k (W.heap[k]'(by omega)) (Array.getElem?_eq_getElem (by omega)) (.inl (by omega)), Array.getElem?_eq_getElem (by omega)]⟩
theorem KeptC.own {B : Nat} {W W' : World} (hk : KeptC B W W') {base : Nat} {e : TypeId} {size : Nat} {v : Value} {n : Nat} {xs : List Value} (h : W.ownsRow base e size v n xs) : W'.ownsRow base e size v n xs := by
  refine ⟨h.1, ?_⟩
  rcases h.2 with hz | ⟨g, cap, cur, rfl, hg, hh, rest⟩
  · exact .inl hz
  · exact .inr ⟨g, cap, cur, rfl, hg, hk.same g _ hh (.inr rfl), rest⟩
end T6
end Go.Proofs.Ytghkacciihocdaa
