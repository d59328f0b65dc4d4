/- Merged by tools/merge.py: I10, I11, I12. -/
import Derived.Test.YtghkacciihocdaaI9
namespace Go.Proofs.Ytghkacciihocdaa
open Go Go.RowKit Go.Shelf Go.Sort
attribute [local go_sem] Oper.semAt_some
namespace T6

/-- A node, or a trie. -/
def treeO : Obj → Bool
  | .cells _ t _ => t == 73 || t == 81
  | _ => false
theorem treeO_cells {o : Obj} (h : treeO o = true) : o.isCells = true := by cases o <;> simp_all [treeO, Obj.isCells]
/-- What may have changed: the blocks of S; and, from B on, what is no node and no trie. -/
structure PastC (B : Nat) (S : List Nat) (W W' : World) : Prop where
  size : W.heap.size ≤ W'.heap.size
  os : W'.os = W.os
  tape : W'.tape = W.tape
  output : W'.output = W.output
  same : ∀ k (o : Obj), W.heap[k]? = some o → k ∉ S → (k < B ∨ treeO o = true) → W'.heap[k]? = some o
theorem PastC.kept {B : Nat} {S : List Nat} {A W W' : World} (hk : KeptC B A W) (h : PastC B S W W') : PastC B S A W' :=
  ⟨Nat.le_trans hk.size h.size, h.os.trans hk.os, h.tape.trans hk.tape, h.output.trans hk.output, fun k o ho hS hc => h.same k o (hk.same k o ho (hc.imp id treeO_cells)) hS hc⟩
theorem PastC.of {B : Nat} {S : List Nat} {W W' : World} (hk : KeptC B W W') : PastC B S W W' := ⟨hk.size, hk.os, hk.tape, hk.output, fun k o ho _ hc => hk.same k o ho (hc.imp id treeO_cells)⟩
theorem PastC.mono {B : Nat} {S S' : List Nat} {W W' : World} (h : PastC B S W W') (hS : ∀ k ∈ S, k ∈ S' ∨ W.heap.size ≤ k) : PastC B S' W W' :=
  ⟨h.size, h.os, h.tape, h.output, fun k o ho hk hc => h.same k o ho (fun e => (hS k e).elim hk (fun hge => by have := (Array.getElem?_eq_some_iff.1 ho).1; omega)) hc⟩
theorem PastC.trans {B : Nat} {S : List Nat} {A W W' : World} (h : PastC B S A W) (k : PastC B S W W') : PastC B S A W' :=
  ⟨Nat.le_trans h.size k.size, k.os.trans h.os, k.tape.trans h.tape, k.output.trans h.output, fun i o ho hS hc => k.same i o (h.same i o ho hS hc) hS hc⟩
theorem PastC.blk {B : Nat} {S : List Nat} {W W' : World} (h : PastC B S W W') {g : Nat} {T : TypeId} {cs : Array Value} (hb : Blk W g T cs) (hT : T = 73 ∨ T = 81) (hS : g ∉ S) : Blk W' g T cs := h.same g _ hb hS (.inr (by rcases hT with rfl | rfl <;> rfl))
theorem PastC.lies {B : Nat} {S : List Nat} {W W' : World} (h : PastC B S W W') : ∀ {t : Tr}, Lies W t → (∀ b ∈ t.blks, b ∉ S) → Lies W' t
  | .nil, _, _ => trivial
  | .node b k hh v l r, ⟨h1, h2, h3⟩, hS => ⟨h.blk h1 (.inr rfl) (hS b (by simp [Tr.blks])), PastC.lies h h2 fun c hc => hS c (by simp [Tr.blks, hc]), PastC.lies h h3 fun c hc => hS c (by simp [Tr.blks, hc])⟩
theorem liesC {B : Nat} {W W' : World} (hk : KeptC B W W') {t : Tr} (h : Lies W t) : Lies W' t := (PastC.of (S := []) hk).lies h (fun _ _ => by simp)
theorem PastC.set_ {B : Nat} {W : World} (b i : Nat) (u : Value) : PastC B [b] W (W.setCell ⟨b, i, none⟩ u) :=
  ⟨by simp [World.setCell], rfl, rfl, rfl, fun k o ho hk _ => (Below.heap_setCell _ _ _ _ (by simpa using hk)).trans ho⟩

theorem PastC.off {B : Nat} {W : World} (b i : Nat) (u : Value) (hB : B ≤ b) (ht : ∀ o, W.heap[b]? = some o → treeO o = false) : PastC B [] W (W.setCell ⟨b, i, none⟩ u) :=
  ⟨by simp [World.setCell], rfl, rfl, rfl, fun k o ho hk hc => by
    refine (Below.heap_setCell _ _ _ _ (fun e => ?_)).trans ho
    simp only at e
    subst e
    rcases hc with hc | hc
    · omega
    · rw [ht o ho] at hc; cases hc⟩
/-- What becomes of a tree where p gets the value v. -/
structure PutOf (p : Key) (v : Int) (s s' : Tr) : Prop where
  wf : s'.WF
  ne : s' ≠ .nil
  rows : ∀ q u, (q, u) ∈ s'.rows ↔ (q = p ∧ u = v) ∨ (q ≠ p ∧ (q, u) ∈ s.rows)
  ext : ∀ q, q <+: p → s.Ext q → s'.Ext q
/-- What a place owes: whatever stands there instead, such as it should, serves all that is around. -/
def PutWand (B : Nat) (p : Key) (v : Int) (Done : World → Prop) (W : World) (a : Addr) (T : TypeId) (cs : Array Value) (s : Tr) : Prop :=
  ∀ W' s', PastC B (a.block :: s.blks) W W' → Blk W' a.block T (cs.setIfInBounds a.off (.pointer (ptr s'))) → Lies W' s' → PutOf p v s s' → s'.blks.Nodup → (∀ b ∈ s'.blks, b ∈ s.blks ∨ W.heap.size ≤ b) → Done W'
theorem PutWand.keptC {B : Nat} {p : Key} {v : Int} {Done : World → Prop} {W W' : World} {a : Addr} {T : TypeId} {cs : Array Value} {s : Tr} (h : PutWand B p v Done W a T cs s) (hk : KeptC B W W') : PutWand B p v Done W' a T cs s :=
  fun W2 s' h1 h2 h3 h4 h5 h6 => h W2 s' (PastC.kept hk h1) h2 h3 h4 h5 fun b hb => (h6 b hb).imp id fun hge => Nat.le_trans hk.size hge
/-- A place, and what hangs there. -/
structure Spot (B : Nat) (p : Key) (v : Int) (Done : World → Prop) (a : Addr) (T : TypeId) (cs : Array Value) (s : Tr) (W : World) : Prop where
  near : a = ⟨a.block, a.off, none⟩
  blk : Blk W a.block T cs
  kind : T = 73 ∨ T = 81
  cell : cs[a.off]? = some (.pointer (ptr s))
  lies : Lies W s
  nd : (a.block :: s.blks).Nodup
  wand : PutWand B p v Done W a T cs s
theorem Spot.keptC {B : Nat} {p : Key} {v : Int} {Done : World → Prop} {W W' : World} {a : Addr} {T : TypeId} {cs : Array Value} {s : Tr} (h : Spot B p v Done a T cs s W) (hk : KeptC B W W') : Spot B p v Done a T cs s W' :=
  ⟨h.near, blkC h.blk hk, h.kind, h.cell, liesC hk h.lies, h.nd, h.wand.keptC hk⟩
/-- A node that stands as it may, but for what it is there for. -/
def Half (k : Key) (l r : Tr) : Prop := k.length ≤ 32 ∧ l.WF ∧ r.WF ∧ l.Ext (k ++ [false]) ∧ r.Ext (k ++ [true])
theorem half_of {b : Nat} {k : Key} {h : Bool} {v : Int} {l r : Tr} (hw : (Tr.node b k h v l r).WF) : Half k l r := ⟨hw.1, hw.2.1, hw.2.2.1, hw.2.2.2.1, hw.2.2.2.2.1⟩
theorem not_in {k : Key} {x : Bool} {t : Tr} (he : t.Ext (k ++ [x])) {q : Key} {u : Int} (h : (q, u) ∈ t.rows) : k ++ [x] <+: q := he q (rows_keys h)
theorem ext_ne {k q : Key} {x : Bool} (h : k ++ [x] <+: q) : q ≠ k := fun e => by
  subst e
  have := h.length_le
  simp at this
  omega
theorem set_same {cs : Array Value} {i : Nat} {x : Value} (h : cs[i]? = some x) : cs.setIfInBounds i x = cs := by
  obtain ⟨hi, rfl⟩ := Array.getElem?_eq_some_iff.1 h
  apply Array.ext
  · simp
  · intro j h1 h2
    rw [Array.getElem_setIfInBounds]
    split
    · rename_i e; subst e; rfl
    · rfl
theorem ext_apart {k q : Key} {x : Bool} (h : k ++ [x] <+: q) (h2 : k ++ [!x] <+: q) : False := by
  obtain ⟨m, e1⟩ := ext_side h
  obtain ⟨n, e2⟩ := ext_side h2
  rw [e1] at e2
  have := List.append_cancel_left e2
  injection this with e
  cases x <;> simp at e
theorem rows_mem {b : Nat} {k : Key} {h : Bool} {v : Int} {l r : Tr} {q : Key} {u : Int} : (q, u) ∈ (Tr.node b k h v l r).rows ↔ (h = true ∧ q = k ∧ u = v) ∨ (q, u) ∈ l.rows ∨ (q, u) ∈ r.rows := by
  simp only [Tr.rows, List.mem_append]
  cases h <;> simp
/-- The node of p itself gets the value. -/
theorem putOf_here {b : Nat} {p : Key} {h : Bool} {v0 v : Int} {l r : Tr} (hh : Half p l r) : PutOf p v (.node b p h v0 l r) (.node b p true v l r) := by
  obtain ⟨h1, h2, h3, h4, h5⟩ := hh
  refine ⟨⟨h1, h2, h3, h4, h5, .inl rfl⟩, by simp, fun q u => ?_, fun q _ he => ?_⟩
  · rw [rows_mem, rows_mem]
    constructor
    · rintro (⟨_, rfl, rfl⟩ | hm | hm)
      · exact .inl ⟨rfl, rfl⟩
      · exact .inr ⟨ext_ne (not_in h4 hm), .inr (.inl hm)⟩
      · exact .inr ⟨ext_ne (not_in h5 hm), .inr (.inr hm)⟩
    · rintro (⟨rfl, rfl⟩ | ⟨hne, ⟨_, e, _⟩ | hm | hm⟩)
      · exact .inl ⟨rfl, rfl, rfl⟩
      · exact absurd e hne
      · exact .inr (.inl hm)
      · exact .inr (.inr hm)
  · exact ext_node.2 (ext_node.1 he)
/-- It gets it beneath, on the false side. -/
theorem putOf_left {b : Nat} {k p : Key} {h : Bool} {v0 v : Int} {l l' r : Tr} (hh : Half k l r) (hx : k ++ [false] <+: p) (hn : h = true ∨ r ≠ .nil) (hp : PutOf p v l l') : PutOf p v (.node b k h v0 l r) (.node b k h v0 l' r) := by
  obtain ⟨h1, h2, h3, h4, h5⟩ := hh
  refine ⟨⟨h1, hp.wf, h3, hp.ext _ hx h4, h5, hn.imp id fun h => ⟨hp.ne, h⟩⟩, by simp, fun q u => ?_, fun q hq he => ?_⟩
  · rw [rows_mem, rows_mem, hp.rows]
    constructor
    · rintro (⟨e1, rfl, rfl⟩ | (⟨rfl, rfl⟩ | ⟨hne, hm⟩) | hm)
      · exact .inr ⟨(ext_ne hx).symm, .inl ⟨e1, rfl, rfl⟩⟩
      · exact .inl ⟨rfl, rfl⟩
      · exact .inr ⟨hne, .inr (.inl hm)⟩
      · exact .inr ⟨fun e => by subst e; exact ext_apart (x := false) hx (not_in h5 hm), .inr (.inr hm)⟩
    · rintro (⟨rfl, rfl⟩ | ⟨hne, e | hm | hm⟩)
      · exact .inr (.inl (.inl ⟨rfl, rfl⟩))
      · exact .inl e
      · exact .inr (.inl (.inr ⟨hne, hm⟩))
      · exact .inr (.inr hm)
  · obtain ⟨e1, e2, e3⟩ := ext_node.1 he
    exact ext_node.2 ⟨e1, hp.ext q hq e2, e3⟩
/-- On the true side. -/
theorem putOf_right {b : Nat} {k p : Key} {h : Bool} {v0 v : Int} {l r r' : Tr} (hh : Half k l r) (hx : k ++ [true] <+: p) (hn : h = true ∨ l ≠ .nil) (hp : PutOf p v r r') : PutOf p v (.node b k h v0 l r) (.node b k h v0 l r') := by
  obtain ⟨h1, h2, h3, h4, h5⟩ := hh
  refine ⟨⟨h1, h2, hp.wf, h4, hp.ext _ hx h5, hn.imp id fun h => ⟨h, hp.ne⟩⟩, by simp, fun q u => ?_, fun q hq he => ?_⟩
  · rw [rows_mem, rows_mem, hp.rows]
    constructor
    · rintro (⟨e1, rfl, rfl⟩ | hm | (⟨rfl, rfl⟩ | ⟨hne, hm⟩))
      · exact .inr ⟨(ext_ne hx).symm, .inl ⟨e1, rfl, rfl⟩⟩
      · exact .inr ⟨fun e => by subst e; exact ext_apart (x := true) hx (not_in h4 hm), .inr (.inl hm)⟩
      · exact .inl ⟨rfl, rfl⟩
      · exact .inr ⟨hne, .inr (.inr hm)⟩
    · rintro (⟨rfl, rfl⟩ | ⟨hne, e | hm | hm⟩)
      · exact .inr (.inr (.inl ⟨rfl, rfl⟩))
      · exact .inl e
      · exact .inr (.inl hm)
      · exact .inr (.inr (.inr ⟨hne, hm⟩))
  · obtain ⟨e1, e2, e3⟩ := ext_node.1 he
    exact ext_node.2 ⟨e1, e2, hp.ext q hq e3⟩
/-- One that has the same rows. -/
theorem PutOf.of_same {p : Key} {v : Int} {s s1 s' : Tr} (h : PutOf p v s1 s') (hr : ∀ q u, (q, u) ∈ s1.rows ↔ (q, u) ∈ s.rows) (he : ∀ q, q <+: p → s.Ext q → s1.Ext q) : PutOf p v s s' :=
  ⟨h.wf, h.ne, fun q u => by rw [h.rows, hr], fun q hq hs => h.ext q hq (he q hq hs)⟩

/-- The step down on a side: the place beneath owes what the place above owes. -/
theorem spot_down {B : Nat} {p : Key} {v : Int} {Done : World → Prop} {a : Addr} {T : TypeId} {cs : Array Value} {b : Nat} {k : Key} {h : Bool} {v0 : Int} {l r : Tr} {W : World} {x : Bool}
    (hs : Spot B p v Done a T cs (.node b k h v0 l r) W) (hh : Half k l r) (hx : k ++ [x] <+: p) (hn : h = true ∨ (if x then l else r) ≠ .nil) :
    Spot B p v Done ⟨b, side x, none⟩ 81 (cellsN k h v0 l r) (if x then r else l) W := by
  obtain ⟨h1, h2, h3, h4, h5, h6, h7⟩ := hs
  obtain ⟨l1, l2, l3⟩ := h5
  have hnd := h6
  simp only [Tr.blks, List.nodup_cons, List.mem_cons, List.mem_append, not_or, List.nodup_append] at hnd
  obtain ⟨⟨na1, na2, na3⟩, ⟨nb1, nb2⟩, nl, nr, nlr⟩ := hnd
  cases x
  · simp only [Bool.false_eq_true, if_false] at hn ⊢
    refine ⟨rfl, l1, .inr rfl, rfl, l2, List.nodup_cons.2 ⟨nb1, nl⟩, fun W' s' g1 g2 g3 g4 g5 g6 => ?_⟩
    have hbW : Blk W' b 81 (cellsN k h v0 s' r) := g2
    have hr' : Lies W' r := g1.lies l3 fun c hc e => by
      rcases List.mem_cons.1 e with e | e
      · simp only at e; subst e; exact nb2 hc
      · exact nlr c e c hc rfl
    have hlt : ∀ c ∈ r.blks, c < W.heap.size := l3.lt
    have hlb := l1.lt
    refine h7 W' (.node b k h v0 s' r) (g1.mono fun c hc => ?_) ?_ ⟨hbW, g3, hr'⟩ (putOf_left hh hx hn g4) ?_ fun c hc => ?_
    · left; simp only [Tr.blks, List.mem_cons, List.mem_append] at hc ⊢
      rcases hc with hc | hc
      · exact .inr (.inl hc)
      · exact .inr (.inr (.inl hc))
    · have := g1.blk h2 h3 (by simp only [List.mem_cons, not_or]; exact ⟨na1, na2⟩)
      rw [set_same (by exact h4)]; exact this
    · simp only [Tr.blks, List.nodup_cons, List.mem_append, not_or, List.nodup_append]
      refine ⟨⟨fun hc => ?_, nb2⟩, g5, nr, fun c hc d hd e => ?_⟩
      · rcases g6 _ hc with hc | hc
        · exact nb1 hc
        · omega
      · subst e
        rcases g6 _ hc with hc | hc
        · exact nlr c hc c hd rfl
        · have := hlt c hd; omega
    · simp only [Tr.blks, List.mem_cons, List.mem_append] at hc ⊢
      rcases hc with hc | hc | hc
      · exact .inl (.inl hc)
      · exact (g6 c hc).imp (fun h => .inr (.inl h)) id
      · exact .inl (.inr (.inr hc))
  · simp only [if_true] at hn ⊢
    refine ⟨rfl, l1, .inr rfl, rfl, l3, List.nodup_cons.2 ⟨nb2, nr⟩, fun W' s' g1 g2 g3 g4 g5 g6 => ?_⟩
    have hbW : Blk W' b 81 (cellsN k h v0 l s') := g2
    have hl' : Lies W' l := g1.lies l2 fun c hc e => by
      rcases List.mem_cons.1 e with e | e
      · simp only at e; subst e; exact nb1 hc
      · exact nlr c hc c e rfl
    have hlt : ∀ c ∈ l.blks, c < W.heap.size := l2.lt
    have hlb := l1.lt
    refine h7 W' (.node b k h v0 l s') (g1.mono fun c hc => ?_) ?_ ⟨hbW, hl', g3⟩ (putOf_right hh hx hn g4) ?_ fun c hc => ?_
    · left; simp only [Tr.blks, List.mem_cons, List.mem_append] at hc ⊢
      rcases hc with hc | hc
      · exact .inr (.inl hc)
      · exact .inr (.inr (.inr hc))
    · have := g1.blk h2 h3 (by simp only [List.mem_cons, not_or]; exact ⟨na1, na3⟩)
      rw [set_same (by exact h4)]; exact this
    · simp only [Tr.blks, List.nodup_cons, List.mem_append, not_or, List.nodup_append]
      refine ⟨⟨nb1, fun hc => ?_⟩, nl, g5, fun c hc d hd e => ?_⟩
      · rcases g6 _ hc with hc | hc
        · exact nb2 hc
        · omega
      · subst e
        rcases g6 _ hd with hd | hd
        · exact nlr c hc c hd rfl
        · have := hlt c hc; omega
    · simp only [Tr.blks, List.mem_cons, List.mem_append] at hc ⊢
      rcases hc with hc | hc | hc
      · exact .inl (.inl hc)
      · exact .inl (.inr (.inl hc))
      · exact (g6 c hc).imp (fun h => .inr (.inr h)) id
/-- Another tree with the same rows is put in at a place: what the place owes then. -/
theorem spot_swap {B : Nat} {p : Key} {v : Int} {Done : World → Prop} {a : Addr} {T : TypeId} {cs : Array Value} {s s1 : Tr} {W W1 W2 : World}
    (hs : Spot B p v Done a T cs s W) (hb : Below W.heap.size W W1) (hP : PastC B [a.block] W1 W2) (hB2 : Blk W2 a.block T (cs.setIfInBounds a.off (.pointer (ptr s1)))) (hl : Lies W2 s1)
    (hn : s1.blks.Nodup) (hf : ∀ b ∈ s1.blks, b ∈ s.blks ∨ W.heap.size ≤ b) (hr : ∀ q u, (q, u) ∈ s1.rows ↔ (q, u) ∈ s.rows) (he : ∀ q, q <+: p → s.Ext q → s1.Ext q) :
    Spot B p v Done a T (cs.setIfInBounds a.off (.pointer (ptr s1))) s1 W2 := by
  obtain ⟨h1, h2, h3, h4, h5, h6, h7⟩ := hs
  have hnd := List.nodup_cons.1 h6
  have hlt := h2.lt
  obtain ⟨hi, _⟩ := Array.getElem?_eq_some_iff.1 h4
  refine ⟨h1, hB2, h3, by rw [Array.getElem?_setIfInBounds_self_of_lt hi], hl, List.nodup_cons.2 ⟨fun e => ?_, hn⟩, fun W' s' g1 g2 g3 g4 g5 g6 => ?_⟩
  · rcases hf _ e with e | e
    · exact hnd.1 e
    · omega
  · have hsz := Nat.le_trans hb.size hP.size
    have hP1 : PastC B (a.block :: s.blks) W W2 := (PastC.kept (KeptC.calls hb) hP).mono fun k hk => by simp at hk; subst hk; exact .inl (by simp)
    have hP2 : PastC B (a.block :: s.blks) W W' := by
      refine ⟨Nat.le_trans hP1.size g1.size, g1.os.trans hP1.os, g1.tape.trans hP1.tape, g1.output.trans hP1.output, fun k o ho hk hc => ?_⟩
      refine g1.same k o (hP1.same k o ho hk hc) (fun e => ?_) hc
      have hklt := (Array.getElem?_eq_some_iff.1 ho).1
      rcases List.mem_cons.1 e with e | e
      · exact hk (by rw [e]; simp)
      · rcases hf _ e with e | e
        · exact hk (List.mem_cons_of_mem _ e)
        · omega
    refine h7 W' s' hP2 ?_ g3 (g4.of_same hr he) g5 fun b hb' => ?_
    · rw [Array.setIfInBounds_setIfInBounds] at g2; exact g2
    · rcases g6 b hb' with h | h
      · exact hf b h
      · exact .inr (by omega)
/-- At the end: the node of p is there; once it has the value, all is done. -/
theorem spot_end {B : Nat} {p : Key} {v : Int} {Done : World → Prop} {a : Addr} {T : TypeId} {cs : Array Value} {b : Nat} {h : Bool} {v0 : Int} {l r : Tr} {W : World}
    (hs : Spot B p v Done a T cs (.node b p h v0 l r) W) (hh : Half p l r) : ∀ W', PastC B [b] W W' → Blk W' b 81 (cellsN p true v l r) → Done W' := fun W' g1 g2 => by
  obtain ⟨h1, h2, h3, h4, h5, h6, h7⟩ := hs
  obtain ⟨l1, l2, l3⟩ := h5
  have hnd := h6
  simp only [Tr.blks, List.nodup_cons, List.mem_cons, List.mem_append, not_or, List.nodup_append] at hnd
  obtain ⟨⟨na1, na2, na3⟩, ⟨nb1, nb2⟩, nl, nr, nlr⟩ := hnd
  refine h7 W' (.node b p true v l r) (g1.mono fun c hc => ?_) ?_ ⟨g2, g1.lies l2 fun c hc e => ?_, g1.lies l3 fun c hc e => ?_⟩ (putOf_here hh) ?_ fun c hc => .inl hc
  · simp at hc; subst hc; exact .inl (by simp [Tr.blks])
  · rw [set_same (by exact h4)]
    exact g1.blk h2 h3 (by simpa using na1)
  · simp at e; subst e; exact nb1 hc
  · simp at e; subst e; exact nb2 hc
  · exact (List.nodup_cons.1 h6).2
end T6
end Go.Proofs.Ytghkacciihocdaa

namespace Go.Proofs.Ytghkacciihocdaa
open Go Go.RowKit Go.Shelf Go.Sort
attribute [local go_sem] Oper.semAt_some
namespace T6

/-- What toward makes of what stands at a place: the node that stands there then. -/
def TwR (p : Key) (W : World) (b1 : Nat) (w1 : World) : Tr → Prop
  | .nil => W.heap.size ≤ b1 ∧ Blk w1 b1 81 (cellsN p false 0 .nil .nil)
  | .node b k h v l r => (k <+: p ∧ b1 = b) ∨ (¬ k <+: p ∧ ∃ x, W.heap.size ≤ b1 ∧ lcp k p ++ [x] <+: k ∧ Blk w1 b1 81 (cellsN (lcp k p) false 0 (if x then .nil else .node b k h v l r) (if x then .node b k h v l r else .nil)))
theorem toward6 (p : Key) (hp : p.length ≤ 32) (s : Tr) (W : World) (hl : Lies W s) (hw : s.WF) :
    Calls Try.prog 67 #[.pointer (ptr s), pfx (kx p) (kn p)] W fun e w1 => ∃ b1, e = .returned (.pointer (some ⟨b1, 0, none⟩)) ∧ (Below W.heap.size W w1 ∧ TwR p W b1 w1 s) := by
  cases s with
  | nil => exact (toward0_any p W).mono fun e w1 ⟨⟨b, h1, h2, h3⟩, hb⟩ => ⟨b, h2, hb, h1, h3⟩
  | node b k h v l r =>
    refine (toward_any k p hw.1 hp h v l r b W hl.1).mono fun e w1 hh => ?_
    obtain ⟨⟨h1, h2⟩ | ⟨h1, f, x, h2, h3, h4, h5⟩, hb⟩ := hh
    · exact ⟨b, h2, hb, .inl ⟨h1, rfl⟩⟩
    · exact ⟨f, h4, hb, .inr ⟨h1, x, h2, h3, h5⟩⟩
/-- The blocks of its own. -/
structure GrC (w : World) (g : Nat) (p : Key) (q : Option Addr) (W : World) : Prop where
  pb : Blk W w.heap.size 34 #[.int .u32 (kx p), .int .i64 (kn p)]
  nb : Blk W (w.heap.size + 1) 71 #[.pointer q]
  b1 : Blk W (w.heap.size + 2) 24 #[.pointer (some ⟨g, 0, none⟩)]
  b2 : Blk W (w.heap.size + 3) 34 #[.int .u32 (kx p), .int .i64 (kn p)]
theorem GrC.keptC {B : Nat} {w : World} {g : Nat} {p : Key} {q : Option Addr} {W W' : World} (h : GrC w g p q W) (hk : KeptC B W W') : GrC w g p q W' := ⟨blkC h.pb hk, blkC h.nb hk, blkC h.b1 hk, blkC h.b2 hk⟩
theorem GrC.boxes {w : World} {g : Nat} {p : Key} {q : Option Addr} {W : World} (h : GrC w g p q W) : Boxes (w.heap.size + 2) (w.heap.size + 3) g p W := ⟨h.b1.cell 0, h.b2.cell 0, h.b2.cell 1⟩
def GrI (w : World) (g : Nat) (p : Key) (v : Int) (Done : World → Prop) (s : Nat × Addr) (W : World) : Prop := ∃ T cs u, u.depth = s.1 ∧ u.WF ∧ Spot w.heap.size p v Done s.2 T cs u W ∧ ∃ q, GrC w g p q W
def GrI' (w : World) (g : Nat) (p : Key) (v : Int) (Done : World → Prop) (s : Nat × Addr) (W : World) : Prop := ∃ T cs b k h v0 l r, Half k l r ∧ k <+: p ∧ Spot w.heap.size p v Done s.2 T cs (.node b k h v0 l r) W ∧
  (k ≠ p → ∀ x, k ++ [x] <+: p → (h = true ∨ (if x then l else r) ≠ .nil) ∧ (if x then r else l).depth < s.1) ∧ GrC w g p (some ⟨b, 0, none⟩) W
def GrF (w : World) (g : Nat) (p : Key) (v : Int) (Done : World → Prop) (W : World) : Prop := ∃ b h v0 l r, GrC w g p (some ⟨b, 0, none⟩) W ∧ Blk W b 81 (cellsN p h v0 l r) ∧ ∀ W', PastC w.heap.size [b] W W' → Blk W' b 81 (cellsN p true v l r) → Done W'
theorem GrI.keptC {w : World} {g : Nat} {p : Key} {v : Int} {Done : World → Prop} {s : Nat × Addr} {B : Nat} {W W' : World} (h : GrI w g p v Done s W) (hk : KeptC B W W') (hB : w.heap.size ≤ B) : GrI w g p v Done s W' := by
  obtain ⟨T, cs, u, h1, h2, h3, q, h4⟩ := h
  exact ⟨T, cs, u, h1, h2, h3.keptC ⟨hk.size, hk.os, hk.tape, hk.output, fun k o ho hc => hk.same k o ho (hc.imp (fun h => by omega) id)⟩, q, h4.keptC hk⟩
theorem GrI'.keptC {w : World} {g : Nat} {p : Key} {v : Int} {Done : World → Prop} {s : Nat × Addr} {B : Nat} {W W' : World} (h : GrI' w g p v Done s W) (hk : KeptC B W W') (hB : w.heap.size ≤ B) : GrI' w g p v Done s W' := by
  obtain ⟨T, cs, b, k, hh, v0, l, r, h1, h2, h3, h4, h5⟩ := h
  exact ⟨T, cs, b, k, hh, v0, l, r, h1, h2, h3.keptC ⟨hk.size, hk.os, hk.tape, hk.output, fun k o ho hc => hk.same k o ho (hc.imp (fun h => by omega) id)⟩, h4, h5.keptC hk⟩
theorem GrF.keptC {w : World} {g : Nat} {p : Key} {v : Int} {Done : World → Prop} {B : Nat} {W W' : World} (h : GrF w g p v Done W) (hk : KeptC B W W') (hB : w.heap.size ≤ B) : GrF w g p v Done W' := by
  obtain ⟨b, hh, v0, l, r, h1, h2, h3⟩ := h
  exact ⟨b, hh, v0, l, r, h1.keptC hk, blkC h2 hk, fun W2 g1 g2 => h3 W2 (PastC.kept ⟨hk.size, hk.os, hk.tape, hk.output, fun k o ho hc => hk.same k o ho (hc.imp (fun h => by omega) id)⟩ g1) g2⟩
theorem GrI'.step {w : World} {g : Nat} {p : Key} {v : Int} {Done : World → Prop} {s : Nat × Addr} {W : World} (h : GrI' w g p v Done s W) : StpD (w.heap.size + 2) (w.heap.size + 3) g p (GrI w g p v Done) (GrF w g p v Done) s W := by
  obtain ⟨T, cs, b, k, hh, v0, l, r, h1, h2, h3, h4, h5⟩ := h
  have hca : W.cell? s.2 = some (.pointer (some ⟨b, 0, none⟩)) := by rw [h3.near, h3.blk.cell]; exact h3.cell
  refine ⟨h5.boxes, .inr ⟨b, k, hh, v0, l, r, hca, h3.lies.1, h1.1, ?_⟩⟩
  by_cases hs : standK k p = 3
  · left
    refine ⟨hs, ?_⟩
    obtain ⟨_, hne⟩ := stand_three.1 hs
    obtain ⟨x, hx, _⟩ := next_side h2 hne
    obtain ⟨hn, hd⟩ := h4 hne x hx
    refine ⟨x, (if x then r else l).depth, hx, hd, 81, cellsN k hh v0 l r, (if x then r else l), rfl, ?_, spot_down h3 h1 hx hn, _, h5⟩
    cases x
    · exact h1.2.1
    · exact h1.2.2.1
  · right
    refine ⟨hs, ?_⟩
    have he : k = p := by
      by_cases hne : k = p
      · exact hne
      · exact absurd (stand_three.2 ⟨h2, hne⟩) hs
    subst he
    exact ⟨b, hh, v0, l, r, h5, h3.lies.1, spot_end h3 h1⟩
theorem prefix_lcp : ∀ {q a b : Key}, q <+: a → q <+: b → q <+: lcp a b
  | [], _, _, _, _ => List.nil_prefix
  | x :: q, [], _, h, _ => by simp at h
  | x :: q, _ :: _, [], _, h => by simp at h
  | x :: q, a :: k, b :: l, h1, h2 => by
    obtain ⟨rfl, g1⟩ := List.cons_prefix_cons.1 h1
    obtain ⟨rfl, g2⟩ := List.cons_prefix_cons.1 h2
    show _ <+: (if x = x then _ else _)
    rw [if_pos rfl]
    exact List.cons_prefix_cons.2 ⟨rfl, prefix_lcp g1 g2⟩
/-- Behind a round. -/
theorem GrI.round {w : World} {g : Nat} {p : Key} (hp : p.length ≤ 32) {v : Int} {Done : World → Prop} {m : Nat} {a : Addr} {W w1 W3 : World} {T : TypeId} {cs : Array Value} {u : Tr} {q : Option Addr} {b1 : Nat}
    (hd : u.depth = m) (hw : u.WF) (hs : Spot w.heap.size p v Done a T cs u W) (hc : GrC w g p q W) (hb : Below W.heap.size W w1) (ht : TwR p W b1 w1 u)
    (h3 : W3 = (w1.setCell ⟨w.heap.size + 1, 0, none⟩ (.pointer (some ⟨b1, 0, none⟩))).setCell a (.pointer (some ⟨b1, 0, none⟩))) : GrI' w g p v Done (m, a) W3 ∧ KeepsFrom (w.heap.size + 4) W W3 := by
  have hsp := hs
  obtain ⟨h1, h2, hT, h4, h5, h6, h7⟩ := hs
  have tne : ∀ {g' : Nat} {T' : TypeId} {cs' : Array Value}, Blk W g' T' cs' → T' ≠ 73 → T' ≠ 81 → a.block ≠ g' := fun hb1 n1 n2 e => by
    subst e
    have := blk_type h2 hb1
    rcases hT with e | e
    · exact n1 (this.symm.trans e)
    · exact n2 (this.symm.trans e)
  have e1 := tne hc.nb (by decide) (by decide)
  have e0 := tne hc.pb (by decide) (by decide)
  have e2 := tne hc.b1 (by decide) (by decide)
  have e3 := tne hc.b2 (by decide) (by decide)
  have hlt := h2.lt
  have hsz := hb.size
  have hnlt := hc.nb.lt
  rw [h1] at h3
  have hP : PastC w.heap.size [a.block] w1 W3 := by
    subst h3
    refine PastC.trans (W := w1.setCell ⟨w.heap.size + 1, 0, none⟩ (.pointer (some ⟨b1, 0, none⟩))) ((PastC.off (B := w.heap.size) (w.heap.size + 1) 0 _ (by omega) fun o ho => ?_).mono (by simp)) (PastC.set_ _ _ _)
    have hn := hc.nb.below hb hc.nb.lt
    unfold Blk at hn
    rw [hn] at ho
    cases ho
    rfl
  have keep : ∀ {g' : Nat} {T' : TypeId} {cs' : Array Value}, Blk W g' T' cs' → a.block ≠ g' → g' ≠ w.heap.size + 1 → Blk W3 g' T' cs' := fun hb1 n1 n2 => by
    subst h3
    exact ((hb1.below hb hb1.lt).far (by simpa using n2) _).far (by simpa using n1.symm) _
  have hnb3 : Blk W3 (w.heap.size + 1) 71 #[.pointer (some ⟨b1, 0, none⟩)] := by
    subst h3
    have := (hc.nb.below hb hc.nb.lt).set_ 0 (.pointer (some ⟨b1, 0, none⟩))
    refine Blk.far ?_ (by simpa using e1.symm) _
    simpa using this
  have hab3 : Blk W3 a.block T (cs.setIfInBounds a.off (.pointer (some ⟨b1, 0, none⟩))) := by
    subst h3
    exact ((h2.below hb h2.lt).far (by simpa using e1) _).set_ _ _
  have hC3 : GrC w g p (some ⟨b1, 0, none⟩) W3 := ⟨keep hc.pb e0 (by omega), hnb3, keep hc.b1 e2 (by omega), keep hc.b2 e3 (by omega)⟩
  have hK : KeepsFrom (w.heap.size + 4) W W3 := by
    subst h3
    have k0 : KeepsFrom (w.heap.size + 4) W w1 := ⟨hb.size, fun i o _ hi _ => (hb.block i (Array.getElem?_eq_some_iff.1 hi).1).trans hi⟩
    exact k0.trans (((KeepsOthers.setCell _ _ _).trans (KeepsOthers.setCell _ _ _)).from _)
  have fresh : ∀ {T' : TypeId} {cs' : Array Value}, W.heap.size ≤ b1 → Blk w1 b1 T' cs' → Blk W3 b1 T' cs' := fun hge hb1 => by
    subst h3
    exact (hb1.far (by simp; omega) _).far (by simp; omega) _
  refine ⟨?_, hK⟩
  clear h3
  cases u with
  | nil =>
    obtain ⟨t1, t2⟩ := ht
    have hl3 : Lies W3 (.node b1 p false 0 .nil .nil) := ⟨fresh t1 t2, trivial, trivial⟩
    refine ⟨T, _, b1, p, false, 0, .nil, .nil, ⟨?_, trivial, trivial, ext_nil _, ext_nil _⟩, List.prefix_refl _, spot_swap hsp hb hP hab3 hl3 (by simp [Tr.blks]) (fun b hb' => by simp [Tr.blks] at hb'; subst hb'; exact .inr t1) (fun q u => by simp [Tr.rows]) (fun q hq _ => ext_node.2 ⟨hq, ext_nil _, ext_nil _⟩), fun e => absurd rfl e, hC3⟩
    exact hp
  | node b k hh v0 l r =>
    have hlu : Lies W3 (.node b k hh v0 l r) := hP.lies (h5.below hb) fun c hc' e => by
      simp at e
      subst e
      exact (List.nodup_cons.1 h6).1 hc'
    rcases ht with ⟨hkp, rfl⟩ | ⟨hkp, x, t1, t2, t3⟩
    · refine ⟨T, _, b1, k, hh, v0, l, r, half_of hw, hkp, spot_swap hsp hb hP hab3 hlu (List.nodup_cons.1 h6).2 (fun _ h => .inl h) (fun _ _ => Iff.rfl) (fun _ _ h => h), fun hne x hx => ⟨?_, ?_⟩, hC3⟩
      · refine hw.2.2.2.2.2.imp id fun hn => ?_
        cases x
        · exact hn.2
        · exact hn.1
      · have hdd : (Tr.node b1 k hh v0 l r).depth = 1 + max l.depth r.depth := rfl
        cases x <;> simp <;> omega
    · have hbl : ∀ c ∈ (Tr.node b k hh v0 l r).blks, c < W.heap.size := h5.lt
      have hc1 : (lcp k p).length ≤ 32 := Nat.le_trans (lcp_left k p).length_le hw.1
      have hnx : ∀ y, lcp k p ++ [y] <+: p → y = !x := fun y hy => by
        cases hxy : (y == x)
        · clear hc1 hbl hkp t1 t2 t3 hy
          cases x <;> cases y <;> first | rfl | (simp at hxy)
        · exfalso
          have : y = x := by simpa using hxy
          subst this
          obtain ⟨m1, g1⟩ := ext_side t2
          obtain ⟨m2, g2⟩ := ext_side hy
          have := lcp_app (lcp k p) (y :: m1) (y :: m2)
          rw [← g1, ← g2] at this
          have := congrArg List.length this
          simp [lcp] at this
      have hext := ext_of_top hw t2
      have hl3 : Lies W3 (.node b1 (lcp k p) false 0 (if x then .nil else .node b k hh v0 l r) (if x then .node b k hh v0 l r else .nil)) := by
        refine ⟨fresh t1 t3, ?_, ?_⟩ <;> cases x <;> first | exact hlu | trivial
      have hz : ∀ q (d : Int), (q, d) ∉ Tr.nil.rows := fun q d h => by simp [Tr.rows] at h
      refine ⟨T, _, b1, lcp k p, false, 0, _, _, ⟨hc1, ?_, ?_, ?_, ?_⟩, lcp_right k p, spot_swap hsp hb hP hab3 hl3 ?_ (fun c hc' => ?_) (fun q d => ?_) (fun q hq he => ?_), fun hne y hy => ?_, hC3⟩
      · cases x
        · exact hw
        · trivial
      · cases x
        · trivial
        · exact hw
      · cases x
        · exact hext
        · exact ext_nil _
      · cases x
        · exact ext_nil _
        · exact hext
      · have hnd := (List.nodup_cons.1 h6).2
        refine List.nodup_cons.2 ⟨fun e => ?_, ?_⟩
        · have : b1 ∈ (Tr.node b k hh v0 l r).blks := by
            cases x
            · simpa [Tr.blks] using e
            · simpa [Tr.blks] using e
          have := hbl _ this
          omega
        · cases x
          · simpa [Tr.blks] using hnd
          · simpa [Tr.blks] using hnd
      · rcases List.mem_cons.1 hc' with rfl | e
        · exact .inr t1
        · left
          cases x
          · simpa [Tr.blks] using e
          · simpa [Tr.blks] using e
      · rw [rows_mem]
        cases x
        · exact ⟨fun h => h.elim (fun h => by cases h.1) (fun h => h.elim id (fun h => absurd h (hz _ _))), fun h => .inr (.inl h)⟩
        · exact ⟨fun h => h.elim (fun h => by cases h.1) (fun h => h.elim (fun h => absurd h (hz _ _)) id), fun h => .inr (.inr h)⟩
      · have hqc : q <+: lcp k p := prefix_lcp (ext_node.1 he).1 hq
        refine ext_node.2 ⟨hqc, ?_, ?_⟩
        · cases x
          · exact he
          · exact ext_nil _
        · cases x
          · exact ext_nil _
          · exact he
      · have := hnx y hy
        subst this
        have hdd : (Tr.node b k hh v0 l r).depth = 1 + max l.depth r.depth := rfl
        cases x
        · exact ⟨.inr (by simp), by simp [Tr.depth]; omega⟩
        · exact ⟨.inr (by simp), by simp [Tr.depth]; omega⟩
set_option maxRecDepth 100000 in
set_option maxHeartbeats 1600000 in
/-- The walk of grow. -/
theorem grow6_any (t : Tr) (p : Key) (hp : p.length ≤ 32) (v : Int) (w : World) (g : Nat) (n2 : Value) (hw : t.WF) (Done : World → Prop)
    (hs : Spot w.heap.size p v Done ⟨g, 1, none⟩ 73 #[.bool true, .pointer (ptr t), n2] t w) :
    Calls Try.prog 42 #[.pointer (some ⟨g, 0, none⟩), pfx (kx p) (kn p)] w fun e w' => ∃ b h v0 l r, e = .returned (.pointer (some ⟨b, 0, none⟩)) ∧ Blk w' b 81 (cellsN p h v0 l r) ∧ ∀ W', PastC w.heap.size [b] w' W' → Blk W' b 81 (cellsN p true v l r) → Done W' := by
  refine callsIn_wide (n := 6) |>.1 ?_
  refine callsIn_of_wp_marks Try.func42 rfl trivial ?_ rfl
  simp only [Try.ntmps42, List.size_toArray, List.length_cons, List.length_nil, Nat.reduceAdd, Nat.reduceSub, Array.replicate_succ, Array.replicate_zero, List.push_toArray, List.append_toArray, List.nil_append, List.cons_append]
  have hpb : Blk ((w.alloc (.cells #[.int .u32 (kx p), .int .i64 (kn p)] 34)).alloc (.cells #[.pointer none] 71)) w.heap.size 34 #[.int .u32 (kx p), .int .i64 (kn p)] := (Blk.new w 34 #[.int .u32 (kx p), .int .i64 (kn p)]).alloc _
  have hlb : Blk ((w.alloc (.cells #[.int .u32 (kx p), .int .i64 (kn p)] 34)).alloc (.cells #[.pointer none] 71)) (w.heap.size + 1) 71 #[.pointer none] := by
    have := Blk.new (w.alloc (.cells #[.int .u32 (kx p), .int .i64 (kn p)] 34)) 71 #[.pointer none]
    simpa using this
  have hbw := two_below w (.cells #[.int .u32 (kx p), .int .i64 (kn p)] 34) (.cells #[.pointer none] 71)
  have d0 := hpb.cell 0
  have d1 := hpb.cell 1
  simp only [List.getElem?_toArray, List.getElem?_cons_zero, List.getElem?_cons_succ] at d0 d1
  have HPB := Lib.hid hpb
  have HLB := Lib.hid hlb
  have HBW := Lib.hid hbw
  have HS := Lib.hid hs
  have hs0 : ((w.alloc (.cells #[.int .u32 (kx p), .int .i64 (kn p)] 34)).alloc (.cells #[.pointer none] 71)).heap.size = w.heap.size + 2 := by simp
  have HS0 := Lib.hid hs0
  clear hpb hlb hbw hs hs0
  gi_wp2_with fail
  generalize ((w.alloc (.cells #[.int .u32 (kx p), .int .i64 (kn p)] 34)).alloc (.cells #[.pointer none] 71)) = W2 at *
  refine ⟨trivial, ?_⟩
  refine (callsIn_wide.2 (down_any _ _ _ _)).mono ?_
  rintro e w3 ⟨rfl, rfl⟩
  rw [HS0.out]
  clear d0 d1
  gi_wp2_with fail
  have hbtA := Blk.new W2 24 #[.pointer (some ⟨g, 0, none⟩)]
  have hb3 := two_below W2 (.cells #[.pointer (some ⟨g, 0, none⟩)] 24) (.cells #[.int .u32 (kx p), .int .i64 (kn p)] 34)
  have hbpA := Blk.new (W2.alloc (.cells #[.pointer (some ⟨g, 0, none⟩)] 24)) 34 #[.int .u32 (kx p), .int .i64 (kn p)]
  have hz3 : ((W2.alloc (.cells #[.pointer (some ⟨g, 0, none⟩)] 24)).alloc (.cells #[.int .u32 (kx p), .int .i64 (kn p)] 34)).heap.size = w.heap.size + 4 := by simp [HS0.out]
  have hbtB := hbtA.alloc (.cells #[.int .u32 (kx p), .int .i64 (kn p)] 34)
  have hsA : (W2.alloc (.cells #[.pointer (some ⟨g, 0, none⟩)] 24)).heap.size = w.heap.size + 3 := by simp [HS0.out]
  rw [hsA] at hbpA
  rw [HS0.out] at hbtB
  clear hbtA
  generalize ((W2.alloc (.cells #[.pointer (some ⟨g, 0, none⟩)] 24)).alloc (.cells #[.int .u32 (kx p), .int .i64 (kn p)] 34)) = W3 at *
  clear hsA
  have hC3 : GrC w g p none W3 := ⟨HPB.out.below hb3 HPB.out.lt, HLB.out.below hb3 HLB.out.lt, hbtB, hbpA⟩
  have hw3 := HBW.out.trans (hb3.mono HBW.out.size)
  have HC3 := Lib.hid hC3
  have HW3 := Lib.hid hw3
  clear hb3 hbtB hbpA HPB HLB HBW hC3 hw3
  have hI0 : ∀ W, Below W3.heap.size W3 W → StD (w.heap.size + 2) (w.heap.size + 3) g p (GrI w g p v Done) (GrF w g p v Done) W := fun W hb => by
    have hbw : Below w.heap.size w W := HW3.out.trans (hb.mono HW3.out.size)
    have hC4 := HC3.out.keptC (KeptC.calls (B := w.heap.size) hb)
    have hS4 := HS.out.keptC (KeptC.calls (B := w.heap.size) hbw)
    exact ⟨hC4.boxes, ⟨_, _, hS4.blk⟩, t.depth, _, _, t, rfl, hw, hS4, _, hC4⟩
  have HI0 := Lib.hid hI0
  clear hI0
  refine wpIn_rangeFunc_D1 (σ := Nat × Addr) rfl (by decide) (gf := 77) (lb := #[.pointer (some ⟨w.heap.size + 2, 0, none⟩), .pointer (some ⟨w.heap.size + 3, 0, none⟩)]) rfl trivial (enters_of Try.func77 (by kernel_rfl) rfl)
    (down_iter 5 (by decide) (w.heap.size + 2) (w.heap.size + 3) g p hp W3) StD_mono StpD_mono (Below.refl _ _) (fun _ => rfl)
    (GrI w g p v Done) (GrI' w g p v Done) (fun _ _ => False) (GrF w g p v Done)
    (ownC_of fun s A B h hk => h.keptC hk (by omega)) (ownC_of fun s A B h hk => h.keptC hk (by omega)) (fun c _ _ _ h _ => h) (ownC_of fun _ A B h hk => h.keptC hk (by omega))
    HI0.out (fun s W h => h.step)
    (fun s => { tmps := #[.pointer (some ⟨g, 0, none⟩), pfx (kx p) (kn p), undef, .pointer (some ⟨w.heap.size, 0, none⟩), .pointer (some ⟨w.heap.size + 1, 0, none⟩), .pointer (some s.2), .pointer (some ⟨g, 0, none⟩), pfx (kx p) (kn p), .func (.func 77) #[] #[.pointer (some ⟨w.heap.size + 2, 0, none⟩), .pointer (some ⟨w.heap.size + 3, 0, none⟩)], .pointer (some s.2), undef, undef, undef, undef, undef, undef, undef, undef, undef], defers := [] })
    ?assign ?body ?done ?stop
  case assign =>
    rintro l ⟨m, a⟩ W K hK
    unfold encD
    gi_wp2
    exact hK
  case stop => exact fun _ _ _ _ h => h.elim
  case body =>
    rintro l ⟨m, a⟩ W ⟨T, cs, u, h1, h2, h3, q, h4⟩
    dsimp only at h1 h3 ⊢
    have ca : W.drew.cell? a = some (.pointer (ptr u)) := by
      have : W.cell? a = some (.pointer (ptr u)) := by rw [h3.near, h3.blk.cell]; exact h3.cell
      exact this
    have d0 : W.drew.cell? ⟨w.heap.size, 0, none⟩ = some (.int .u32 (kx p)) := h4.pb.cell 0
    have d1 : W.drew.cell? ⟨w.heap.size, 1, none⟩ = some (.int .i64 (kn p)) := h4.pb.cell 1
    have HTW : Hid (∀ W', W' = W.drew → Calls Try.prog 67 #[.pointer (ptr u), pfx (kx p) (kn p)] W' fun e w1 => ∃ b1, e = .returned (.pointer (some ⟨b1, 0, none⟩)) ∧ (Below W.heap.size W w1 ∧ TwR p W b1 w1 u)) := Lib.hid (fun W' e => by
      subst e
      refine (toward6 p hp u W.drew h3.lies.drew h2).mono fun e w1 ⟨b1, g1, g2, g3⟩ => ⟨b1, g1, (below_drew W).trans g2, ?_⟩
      cases u <;> exact g3)
    have HNB : Hid (∀ w1, Below W.heap.size W w1 → Blk w1 (w.heap.size + 1) 71 #[.pointer q]) := Lib.hid (fun w1 hb => h4.nb.below hb h4.nb.lt)
    have HG := Lib.hid (fun b1 w1 W3 hb ht hW => GrI.round (b1 := b1) (w1 := w1) (W3 := W3) hp h1 h2 h3 h4 hb ht hW)
    have HAB := Lib.hid (fun w1 (hb : Below W.heap.size W w1) => And.intro h3.near (h3.blk.below hb h3.blk.lt))
    have hne : a.block ≠ w.heap.size + 1 := fun e => by
      have := blk_type h3.blk (e ▸ h4.nb)
      rcases h3.kind with e2 | e2
      · rw [e2] at this; revert this; decide
      · rw [e2] at this; revert this; decide
    have hcell := h3.cell
    clear h1 h2 h3 h4
    gi_wp2_with fail
    refine wpIn_mono (Q := fun e a' w' => e = .normal ∧ ∃ b1 w1, a' = { tmps := #[.pointer (some ⟨g, 0, none⟩), pfx (kx p) (kn p), undef, .pointer (some ⟨w.heap.size, 0, none⟩), .pointer (some ⟨w.heap.size + 1, 0, none⟩), .pointer (some a), .pointer (some ⟨g, 0, none⟩), pfx (kx p) (kn p), .func (.func 77) #[] #[.pointer (some ⟨w.heap.size + 2, 0, none⟩), .pointer (some ⟨w.heap.size + 3, 0, none⟩)], .pointer (some a), .pointer (some a), .pointer (some a), .pointer (ptr u), pfx (kx p) (kn p), .pointer (some ⟨b1, 0, none⟩), undef, undef, undef, undef], defers := [] } ∧ w' = w1.setCell ⟨w.heap.size + 1, 0, none⟩ (.pointer (some ⟨b1, 0, none⟩)) ∧ (Below W.heap.size W w1 ∧ TwR p W b1 w1 u)) ?reg ?cont
    case reg =>
      refine wpIn_region_any (by kernel_rfl) ?_
      change wpAnyIn _ _ _ _ _ _ _ _ _ W.drew
      refine readyIn_two (i := 0) (j := 3) (by kernel_rfl) (by rw [List.getElem?_toArray]; exact rfl) (by rw [List.getElem?_toArray]; exact rfl) (by kernel_rfl) (by kernel_rfl) (fun K1 hK1 => ?_) (fun K1 hK1 => ?_)
      · go_simp
        refine hK1.out _ _ ?_
        clear hK1 K1
        try simp only [Act.put, List.setIfInBounds_toArray, List.set_cons_zero, List.set_cons_succ]
        refine readyIn_two (i := 1) (j := 3) (by kernel_rfl) (by rw [List.getElem?_toArray]; exact rfl) (by rw [List.getElem?_toArray]; exact rfl) (by kernel_rfl) (by kernel_rfl) (fun K1 hK1 => ?_) (fun K1 hK1 => ?_)
        · go_simp
          refine hK1.out _ _ ?_
          clear hK1 K1
          try simp only [Act.put, List.setIfInBounds_toArray, List.set_cons_zero, List.set_cons_succ]
          refine readyIn_two (i := 2) (j := 3) (by kernel_rfl) (by rw [List.getElem?_toArray]; exact rfl) (by rw [List.getElem?_toArray]; exact rfl) (by kernel_rfl) (by kernel_rfl) (fun K1 hK1 => ?_) (fun K1 hK1 => ?_)
          · go_simp
            refine hK1.out _ _ ?_
            clear hK1 K1
            try simp only [Act.put, List.setIfInBounds_toArray, List.set_cons_zero, List.set_cons_succ]
            refine readyIn_one (i := 3) (by kernel_rfl) (by rw [List.getElem?_toArray]; exact rfl) (by kernel_rfl) (fun K1 hK1 => ?_)
            go_simp
            refine hK1.out _ _ ?_
            clear hK1 K1
            try simp only [Act.put, List.setIfInBounds_toArray, List.set_cons_zero, List.set_cons_succ]
            refine readyIn_one (i := 4) (by kernel_rfl) (by rw [List.getElem?_toArray]; exact rfl) (by kernel_rfl) (fun K1 hK1 => ?_)
            go_simp
            refine ⟨trivial, ?_⟩
            refine (CallsIn.inRound l (callsIn_wide.2 (HTW.out W.drew rfl))).mono ?_
            rintro e w1 ⟨b1, rfl, htw⟩
            go_simp
            refine hK1.out _ _ ?_
            clear hK1 K1
            try simp only [Act.put, List.setIfInBounds_toArray, List.set_cons_zero, List.set_cons_succ]
            have hnb := HNB.out _ htw.1
            have f0 := hnb.frozen 0
            have n0 := hnb.cell 0
            simp only [List.getElem?_toArray, List.getElem?_cons_zero] at n0
            refine readyIn_one (i := 5) (by kernel_rfl) (by rw [List.getElem?_toArray]; exact rfl) (by kernel_rfl) (fun K1 hK1 => ?_)
            go_simp
            refine hK1.out _ _ ?_
            clear hK1 K1
            try simp only [Act.put, List.setIfInBounds_toArray, List.set_cons_zero, List.set_cons_succ]
            refine wpAnyIn_done (by kernel_rfl) ?_ _
            exact ⟨rfl, b1, w1, rfl, rfl, htw⟩
          · go_simp
            refine hK1.out _ _ ?_
            clear hK1 K1
            try simp only [Act.put, List.setIfInBounds_toArray, List.set_cons_zero, List.set_cons_succ]
            refine readyIn_one (i := 2) (by kernel_rfl) (by rw [List.getElem?_toArray]; exact rfl) (by kernel_rfl) (fun K1 hK1 => ?_)
            go_simp
            refine hK1.out _ _ ?_
            clear hK1 K1
            try simp only [Act.put, List.setIfInBounds_toArray, List.set_cons_zero, List.set_cons_succ]
            refine readyIn_one (i := 4) (by kernel_rfl) (by rw [List.getElem?_toArray]; exact rfl) (by kernel_rfl) (fun K1 hK1 => ?_)
            go_simp
            refine ⟨trivial, ?_⟩
            refine (CallsIn.inRound l (callsIn_wide.2 (HTW.out W.drew rfl))).mono ?_
            rintro e w1 ⟨b1, rfl, htw⟩
            go_simp
            refine hK1.out _ _ ?_
            clear hK1 K1
            try simp only [Act.put, List.setIfInBounds_toArray, List.set_cons_zero, List.set_cons_succ]
            have hnb := HNB.out _ htw.1
            have f0 := hnb.frozen 0
            have n0 := hnb.cell 0
            simp only [List.getElem?_toArray, List.getElem?_cons_zero] at n0
            refine readyIn_one (i := 5) (by kernel_rfl) (by rw [List.getElem?_toArray]; exact rfl) (by kernel_rfl) (fun K1 hK1 => ?_)
            go_simp
            refine hK1.out _ _ ?_
            clear hK1 K1
            try simp only [Act.put, List.setIfInBounds_toArray, List.set_cons_zero, List.set_cons_succ]
            refine wpAnyIn_done (by kernel_rfl) ?_ _
            exact ⟨rfl, b1, w1, rfl, rfl, htw⟩
        · go_simp
          refine hK1.out _ _ ?_
          clear hK1 K1
          try simp only [Act.put, List.setIfInBounds_toArray, List.set_cons_zero, List.set_cons_succ]
          refine readyIn_one (i := 1) (by kernel_rfl) (by rw [List.getElem?_toArray]; exact rfl) (by kernel_rfl) (fun K1 hK1 => ?_)
          go_simp
          refine hK1.out _ _ ?_
          clear hK1 K1
          try simp only [Act.put, List.setIfInBounds_toArray, List.set_cons_zero, List.set_cons_succ]
          refine readyIn_one (i := 2) (by kernel_rfl) (by rw [List.getElem?_toArray]; exact rfl) (by kernel_rfl) (fun K1 hK1 => ?_)
          go_simp
          refine hK1.out _ _ ?_
          clear hK1 K1
          try simp only [Act.put, List.setIfInBounds_toArray, List.set_cons_zero, List.set_cons_succ]
          refine readyIn_one (i := 4) (by kernel_rfl) (by rw [List.getElem?_toArray]; exact rfl) (by kernel_rfl) (fun K1 hK1 => ?_)
          go_simp
          refine ⟨trivial, ?_⟩
          refine (CallsIn.inRound l (callsIn_wide.2 (HTW.out W.drew rfl))).mono ?_
          rintro e w1 ⟨b1, rfl, htw⟩
          go_simp
          refine hK1.out _ _ ?_
          clear hK1 K1
          try simp only [Act.put, List.setIfInBounds_toArray, List.set_cons_zero, List.set_cons_succ]
          have hnb := HNB.out _ htw.1
          have f0 := hnb.frozen 0
          have n0 := hnb.cell 0
          simp only [List.getElem?_toArray, List.getElem?_cons_zero] at n0
          refine readyIn_one (i := 5) (by kernel_rfl) (by rw [List.getElem?_toArray]; exact rfl) (by kernel_rfl) (fun K1 hK1 => ?_)
          go_simp
          refine hK1.out _ _ ?_
          clear hK1 K1
          try simp only [Act.put, List.setIfInBounds_toArray, List.set_cons_zero, List.set_cons_succ]
          refine wpAnyIn_done (by kernel_rfl) ?_ _
          exact ⟨rfl, b1, w1, rfl, rfl, htw⟩
      · go_simp
        refine hK1.out _ _ ?_
        clear hK1 K1
        try simp only [Act.put, List.setIfInBounds_toArray, List.set_cons_zero, List.set_cons_succ]
        refine readyIn_one (i := 0) (by kernel_rfl) (by rw [List.getElem?_toArray]; exact rfl) (by kernel_rfl) (fun K1 hK1 => ?_)
        go_simp
        refine hK1.out _ _ ?_
        clear hK1 K1
        try simp only [Act.put, List.setIfInBounds_toArray, List.set_cons_zero, List.set_cons_succ]
        refine readyIn_one (i := 1) (by kernel_rfl) (by rw [List.getElem?_toArray]; exact rfl) (by kernel_rfl) (fun K1 hK1 => ?_)
        go_simp
        refine hK1.out _ _ ?_
        clear hK1 K1
        try simp only [Act.put, List.setIfInBounds_toArray, List.set_cons_zero, List.set_cons_succ]
        refine readyIn_one (i := 2) (by kernel_rfl) (by rw [List.getElem?_toArray]; exact rfl) (by kernel_rfl) (fun K1 hK1 => ?_)
        go_simp
        refine hK1.out _ _ ?_
        clear hK1 K1
        try simp only [Act.put, List.setIfInBounds_toArray, List.set_cons_zero, List.set_cons_succ]
        refine readyIn_one (i := 4) (by kernel_rfl) (by rw [List.getElem?_toArray]; exact rfl) (by kernel_rfl) (fun K1 hK1 => ?_)
        go_simp
        refine ⟨trivial, ?_⟩
        refine (CallsIn.inRound l (callsIn_wide.2 (HTW.out W.drew rfl))).mono ?_
        rintro e w1 ⟨b1, rfl, htw⟩
        go_simp
        refine hK1.out _ _ ?_
        clear hK1 K1
        try simp only [Act.put, List.setIfInBounds_toArray, List.set_cons_zero, List.set_cons_succ]
        have hnb := HNB.out _ htw.1
        have f0 := hnb.frozen 0
        have n0 := hnb.cell 0
        simp only [List.getElem?_toArray, List.getElem?_cons_zero] at n0
        refine readyIn_one (i := 5) (by kernel_rfl) (by rw [List.getElem?_toArray]; exact rfl) (by kernel_rfl) (fun K1 hK1 => ?_)
        go_simp
        refine hK1.out _ _ ?_
        clear hK1 K1
        try simp only [Act.put, List.setIfInBounds_toArray, List.set_cons_zero, List.set_cons_succ]
        refine wpAnyIn_done (by kernel_rfl) ?_ _
        exact ⟨rfl, b1, w1, rfl, rfl, htw⟩
    case cont =>
      rintro e a' w' ⟨rfl, b1, w1, rfl, rfl, htw⟩
      have hg := HG.out b1 w1 _ htw.1 htw.2 rfl
      have hnb := (HNB.out _ htw.1).set_ 0 (.pointer (some ⟨b1, 0, none⟩))
      obtain ⟨hnear, hab⟩ := HAB.out _ htw.1
      have hab2 := hab.far (p := ⟨w.heap.size + 1, 0, none⟩) (by simpa using hne) (.pointer (some ⟨b1, 0, none⟩))
      have cA : (w1.setCell ⟨w.heap.size + 1, 0, none⟩ (.pointer (some ⟨b1, 0, none⟩))).cell? a = some (.pointer (ptr u)) := by rw [hnear, hab2.cell]; exact hcell
      have fA : (w1.setCell ⟨w.heap.size + 1, 0, none⟩ (.pointer (some ⟨b1, 0, none⟩))).frozen? a = false := by rw [hnear]; exact hab2.frozen _
      have nA : (w1.setCell ⟨w.heap.size + 1, 0, none⟩ (.pointer (some ⟨b1, 0, none⟩))).cell? ⟨w.heap.size + 1, 0, none⟩ = some (.pointer (some ⟨b1, 0, none⟩)) := by rw [hnb.cell]; simp
      have HGG := Lib.hid hg
      clear hg hnb hab hab2 hnear ca d0 d1 HTW HNB HG HAB hcell htw hne
      generalize (w1.setCell ⟨w.heap.size + 1, 0, none⟩ (.pointer (some ⟨b1, 0, none⟩))) = w4 at *
      gi_wp2_with fail
      exact ⟨by rw [hz3]; exact HGG.out.2, HGG.out.1⟩
  case done =>
    rintro D W hD ⟨b, hh, v0, l, r, hC, hB, hfin⟩ hK
    have l0 := hC.nb.cell 0
    have f0 := hC.nb.frozen 0
    simp only [List.getElem?_toArray, List.getElem?_cons_zero] at l0
    have hnb5 : Blk (W.setCell ⟨w.heap.size + 1, 0, none⟩ (.pointer (some ⟨b, 0, none⟩))) (w.heap.size + 1) 71 #[.pointer (some ⟨b, 0, none⟩)] := by
      have := hC.nb.set_ 0 (.pointer (some ⟨b, 0, none⟩))
      simpa using this
    have hne : b ≠ w.heap.size + 1 := fun e => by
      subst e
      have := blk_type hB hC.nb
      revert this
      decide
    have hB5 := hB.far (p := ⟨w.heap.size + 1, 0, none⟩) (by simpa using hne) (.pointer (some ⟨b, 0, none⟩))
    have hk5 := (Below.heap_setCell W ⟨w.heap.size + 1, 0, none⟩ (.pointer (some ⟨b, 0, none⟩)) D (by simp only; omega)).trans hK
    have hP5 : PastC w.heap.size [] W (W.setCell ⟨w.heap.size + 1, 0, none⟩ (.pointer (some ⟨b, 0, none⟩))) := PastC.off _ _ _ (by omega) fun o ho => by
      have := hC.nb
      unfold Blk at this
      rw [this] at ho
      cases ho
      rfl
    have HF := Lib.hid hfin
    have HK5 := Lib.hid hk5
    have HNB5 := Lib.hid hnb5
    have HB5 := Lib.hid hB5
    have HP5 := Lib.hid hP5
    clear hC hB hfin hK hnb5 hB5 hk5 hP5
    gi_wp2_with fail
    generalize (W.setCell ⟨w.heap.size + 1, 0, none⟩ (.pointer (some ⟨b, 0, none⟩))) = w5 at *
    refine ⟨by simp, .inl ⟨_, _, rfl, run_takeDeferred HK5.out, ?_⟩⟩
    have hg1 := grownBy_putObj' w5 D (.deferred none)
    have hr := HNB5.out.grown hg1 (by simp; omega)
    have c0 := hr.cell 0
    simp only [List.getElem?_toArray, List.getElem?_cons_zero] at c0
    have hneD : b ≠ D := fun e => by
      subst e
      have h1 := HB5.out
      have h2 := HK5.out
      unfold Blk at h1
      rw [h1] at h2
      cases h2
    have hPD : PastC w.heap.size [] w5 (w5.putObj D (.deferred none)) := ⟨hg1.size, hg1.os, hg1.tape, hg1.output, fun k o ho _ hc => (hg1.block k (Array.getElem?_eq_some_iff.1 ho).1 (fun e => by
      cases e
      rcases hc with hc | hc
      · omega
      · have h2 := HK5.out
        rw [h2] at ho
        cases ho
        cases hc)).trans ho⟩
    refine ⟨.pointer (some ⟨b, 0, none⟩), ?_, b, hh, v0, l, r, rfl, HB5.out.grown hg1 (by simpa using hneD), fun W' g1 g2 => HF.out W' ((HP5.out.mono (by simp)).trans ((hPD.mono (by simp)).trans g1)) g2⟩
    simp [results, Try.f42, go_sem, c0]
end T6
end Go.Proofs.Ytghkacciihocdaa

namespace Go.Proofs.Ytghkacciihocdaa
open Go Go.RowKit
namespace T6

def getR (L : List (Key × Int)) (p : Key) : Option Int := (L.find? (fun r => decide (r.1 = p))).map (·.2)
def putL (L : List (Key × Int)) (p : Key) (v : Int) : List (Key × Int) := L.filter (fun r => klt r.1 p) ++ (p, v) :: L.filter (fun r => klt p r.1)
def takeL (L : List (Key × Int)) (p : Key) : List (Key × Int) := L.filter (fun r => decide (r.1 ≠ p))
def kvT (s : Tr) : Key × Int := (keyT s, valT s)
theorem filter_none {α : Type} {l : List α} {f : α → Bool} (h : ∀ x ∈ l, f x = false) : l.filter f = [] := List.filter_eq_nil_iff.2 fun x hx => by simp [h x hx]
/-- The nodes on the way are the rows around the prefix. -/
theorem way_rows {t : Tr} (hw : t.WF) (p : Key) : (t.way p).map kvT = t.rows.filter (fun r => decide (r.1 <+: p)) := by
  induction t with
  | nil => rfl
  | node b k h v l r ihl ihr =>
    have hw0 := hw
    obtain ⟨_, hl, hr, el, er, _⟩ := hw
    by_cases hk : k <+: p
    · rw [way_node _ _ _ _ _ _ _ hk, List.map_append]
      simp only [Tr.rows, List.filter_append]
      have e1 : ((if h then [Tr.node b k h v l r] else []).map kvT) = (if h then [(k, v)] else []).filter (fun r => decide (r.1 <+: p)) := by
        cases h <;> simp [kvT, keyT, valT, hk]
      rw [e1]
      congr 1
      unfold wayBack
      by_cases he : k = p
      · rw [if_pos he]
        subst he
        have none : ∀ (x : Bool) (t : Tr), t.Ext (k ++ [x]) → t.rows.filter (fun r => decide (r.1 <+: k)) = [] := fun x t ht => filter_none fun r hr => by
          have h1 := ht _ (rows_keys hr)
          refine decide_eq_false fun h2 => ?_
          have := (h1.trans h2).length_le
          simp at this
          omega
        rw [none _ _ el, none _ _ er]; rfl
      · rw [if_neg he]
        obtain ⟨x, hx, hpx⟩ := next_side hk he
        have none : ∀ (t : Tr), t.Ext (k ++ [!x]) → t.rows.filter (fun r => decide (r.1 <+: p)) = [] := fun t ht => filter_none fun r hr => by
          have h1 := ht _ (rows_keys hr)
          exact decide_eq_false fun h2 => ext_apart hx (h1.trans h2)
        rw [hpx]
        cases x
        · rw [if_neg (by simp), ihl hl, none r er, List.append_nil]
        · rw [if_pos rfl, ihr hr, none l el, List.nil_append]
    · rw [way_none _ _ _ _ _ _ _ hk]
      refine (filter_none fun r hr => ?_).symm
      exact decide_eq_false fun h2 => hk ((ext_of_top hw0 (List.prefix_refl _) _ (rows_keys hr)).trans h2)
theorem hit_rows {t : Tr} (hw : t.WF) (p : Key) : hitT (t.way p) p = getR t.rows p := by
  have h := way_rows hw p
  have e1 : hitT (t.way p) p = getR ((t.way p).map kvT) p := by
    unfold hitT getR
    rw [List.find?_map, Option.map_map]
    rfl
  rw [e1, h]
  unfold getR
  rw [List.find?_filter]
  congr 1
  congr 1
  funext r
  by_cases hr : r.1 = p
  · simp [hr]
  · simp [hr]
theorem get_some {L : List (Key × Int)} (hs : SRow L) {p : Key} {v : Int} : getR L p = some v ↔ (p, v) ∈ L := by
  unfold getR
  constructor
  · intro h
    obtain ⟨r, h1, h2⟩ := Option.map_eq_some_iff.1 h
    have h3 := List.find?_some h1
    have h4 := List.mem_of_find?_eq_some h1
    simp only [decide_eq_true_eq] at h3
    obtain ⟨a, b⟩ := r
    simp only at h2 h3
    subst h2; subst h3
    exact h4
  · intro h
    cases hf : L.find? (fun r => decide (r.1 = p)) with
    | none =>
      have := List.find?_eq_none.1 hf _ h
      simp at this
    | some r =>
      have h3 := List.find?_some hf
      have h4 := List.mem_of_find?_eq_some hf
      simp only [decide_eq_true_eq] at h3
      obtain ⟨a, b⟩ := r
      simp only at h3
      subst h3
      rw [srow_one hs h4 h]; rfl
theorem get_none {L : List (Key × Int)} {p : Key} : getR L p = none ↔ ∀ v, (p, v) ∉ L := by
  unfold getR
  rw [Option.map_eq_none_iff, List.find?_eq_none]
  constructor
  · intro h v hm
    have := h _ hm
    simp at this
  · rintro h ⟨a, b⟩ hm
    simp only [decide_eq_true_eq]
    rintro rfl
    exact h b hm
theorem put_mem {L : List (Key × Int)} {p : Key} {v : Int} {q : Key} {u : Int} : (q, u) ∈ putL L p v ↔ (q = p ∧ u = v) ∨ (q ≠ p ∧ (q, u) ∈ L) := by
  unfold putL
  simp only [List.mem_append, List.mem_cons, List.mem_filter, Prod.mk.injEq]
  constructor
  · rintro (⟨h1, h2⟩ | h | ⟨h1, h2⟩)
    · exact .inr ⟨klt_ne h2, h1⟩
    · exact .inl h
    · exact .inr ⟨(klt_ne h2).symm, h1⟩
  · rintro (h | ⟨h1, h2⟩)
    · exact .inr (.inl h)
    · cases hlt : klt q p with
      | true => exact .inl ⟨h2, rfl⟩
      | false =>
        cases hgt : klt p q with
        | true => exact .inr (.inr ⟨h2, rfl⟩)
        | false => exact absurd (klt_total hlt hgt) h1
theorem put_sorted {L : List (Key × Int)} (hs : SRow L) (p : Key) (v : Int) : SRow (putL L p v) := by
  unfold putL SRow
  refine List.pairwise_append.2 ⟨hs.sublist List.filter_sublist, List.pairwise_cons.2 ⟨fun r hr => (List.mem_filter.1 hr).2, hs.sublist List.filter_sublist⟩, fun a ha b hb => ?_⟩
  have h1 := (List.mem_filter.1 ha).2
  rcases List.mem_cons.1 hb with rfl | hb
  · exact h1
  · exact klt_trans h1 (List.mem_filter.1 hb).2
theorem put_len {L : List (Key × Int)} (hs : SRow L) (p : Key) (v : Int) : (putL L p v).length = if (getR L p).isSome then L.length else L.length + 1 := by
  have key : ∀ {L : List (Key × Int)}, SRow L → (L.filter (fun r => klt r.1 p)).length + (L.filter (fun r => klt p r.1)).length + (if (getR L p).isSome then 1 else 0) = L.length := by
    intro L
    induction L with
    | nil => intro _; simp [getR]
    | cons a L ih =>
      intro hs
      obtain ⟨h1, h2⟩ := List.pairwise_cons.1 hs
      have ih := ih h2
      by_cases he : a.1 = p
      · have e1 : getR (a :: L) p = some a.2 := by unfold getR; rw [List.find?_cons]; simp [he]
        have e2 : getR L p = none := get_none.2 fun v hv => by
          have := h1 _ hv
          rw [he, klt_irrefl] at this
          cases this
        rw [e2] at ih
        rw [e1]
        simp only [List.filter_cons, he, klt_irrefl, List.length_cons, Bool.false_eq_true, if_false, Option.isSome_some, if_true] at ih ⊢
        simp at ih
        omega
      · have e1 : getR (a :: L) p = getR L p := by unfold getR; rw [List.find?_cons]; simp [he]
        rw [e1]
        cases hlt : klt a.1 p with
        | true =>
          simp only [List.filter_cons, hlt, klt_asymm hlt, if_true, Bool.false_eq_true, if_false, List.length_cons]
          omega
        | false =>
          cases hgt : klt p a.1 with
          | true =>
            simp only [List.filter_cons, hlt, hgt, if_true, Bool.false_eq_true, if_false, List.length_cons]
            omega
          | false => exact absurd (klt_total hlt hgt) he
  have := key hs
  unfold putL
  simp only [List.length_append, List.length_cons]
  split <;> simp_all <;> omega
theorem PutOf.rows_eq {p : Key} {v : Int} {s s' : Tr} (hw : s.WF) (h : PutOf p v s s') : s'.rows = putL s.rows p v :=
  srow_ext (rows_sorted h.wf) (put_sorted (rows_sorted hw) p v) fun ⟨q, u⟩ => by rw [h.rows, put_mem]
end T6
end Go.Proofs.Ytghkacciihocdaa
