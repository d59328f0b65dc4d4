/- Layer 6's program: what becomes of a tree where a prefix loses its value: what a place owes. -/
import Derived.Test.YtghkacciihocdaaI13
namespace Go.Proofs.Ytghkacciihocdaa
open Go Go.RowKit Go.Shelf Go.Sort
attribute [local go_sem] Oper.semAt_some
namespace T6

/-- What becomes of a tree where p has no value any more. -/
structure DropOf (p : Key) (s s' : Tr) : Prop where
  wf : s'.WF
  rows : ∀ q u, (q, u) ∈ s'.rows ↔ q ≠ p ∧ (q, u) ∈ s.rows
  ext : ∀ q, s.Ext q → s'.Ext q
  blks : s'.blks.Sublist s.blks
theorem needed_rows (b : Nat) (k : Key) (h : Bool) (v : Int) (l r : Tr) : (Tr.node b k h v l r).needed.rows = (Tr.node b k h v l r).rows := by
  show (if h = true ∨ (ptr l ≠ none ∧ ptr r ≠ none) then Tr.node b k h v l r else if ptr l = none then r else l).rows = _
  split
  · rfl
  · rename_i hn
    have hh : h = false := by cases h <;> simp_all
    subst hh
    split
    · rename_i hl
      rw [ptr_nil.1 hl]
      simp [Tr.rows]
    · rename_i hl
      have hr : ptr r = none := by
        by_cases hr : ptr r = none
        · exact hr
        · exact absurd (.inr ⟨hl, hr⟩) hn
      rw [ptr_nil.1 hr]
      simp [Tr.rows]
theorem needed_wf {b : Nat} {k : Key} {h : Bool} {v : Int} {l r : Tr} (hh : Half k l r) : (Tr.node b k h v l r).needed.WF := by
  show (if h = true ∨ (ptr l ≠ none ∧ ptr r ≠ none) then Tr.node b k h v l r else if ptr l = none then r else l).WF
  obtain ⟨h1, h2, h3, h4, h5⟩ := hh
  split
  · rename_i ho
    exact ⟨h1, h2, h3, h4, h5, ho.imp id fun ⟨a, c⟩ => ⟨fun e => a (ptr_nil.2 e), fun e => c (ptr_nil.2 e)⟩⟩
  · split
    · exact h3
    · exact h2
theorem needed_ext {b : Nat} {k : Key} {h : Bool} {v : Int} {l r : Tr} {q : Key} (he : (Tr.node b k h v l r).Ext q) : (Tr.node b k h v l r).needed.Ext q := by
  show (if h = true ∨ (ptr l ≠ none ∧ ptr r ≠ none) then Tr.node b k h v l r else if ptr l = none then r else l).Ext q
  obtain ⟨h1, h2, h3⟩ := ext_node.1 he
  split
  · exact he
  · split
    · exact h3
    · exact h2
theorem needed_blks (b : Nat) (k : Key) (h : Bool) (v : Int) (l r : Tr) : (Tr.node b k h v l r).needed.blks.Sublist (Tr.node b k h v l r).blks := by
  show (if h = true ∨ (ptr l ≠ none ∧ ptr r ≠ none) then Tr.node b k h v l r else if ptr l = none then r else l).blks.Sublist _
  split
  · exact List.Sublist.refl _
  · split
    · exact (List.sublist_append_right _ _).cons _
    · exact (List.sublist_append_left _ _).cons _
theorem needed_lies {W : World} {b : Nat} {k : Key} {h : Bool} {v : Int} {l r : Tr} (hl : Lies W (.node b k h v l r)) : Lies W (Tr.node b k h v l r).needed := by
  show Lies W (if h = true ∨ (ptr l ≠ none ∧ ptr r ≠ none) then Tr.node b k h v l r else if ptr l = none then r else l)
  split
  · exact hl
  · split
    · exact hl.2.2
    · exact hl.2.1
/-- At p itself. -/
theorem dropOf_here {b : Nat} {p : Key} {h : Bool} {v : Int} {l r : Tr} (hh : Half p l r) : DropOf p (.node b p h v l r) (Tr.node b p false v l r).needed := by
  obtain ⟨h1, h2, h3, h4, h5⟩ := hh
  refine ⟨needed_wf ⟨h1, h2, h3, h4, h5⟩, fun q u => ?_, fun q he => needed_ext (ext_node.2 (ext_node.1 he)), needed_blks b p false v l r⟩
  rw [needed_rows, rows_mem, rows_mem]
  constructor
  · rintro (⟨e, _⟩ | hm | hm)
    · cases e
    · exact ⟨ext_ne (not_in h4 hm), .inr (.inl hm)⟩
    · exact ⟨ext_ne (not_in h5 hm), .inr (.inr hm)⟩
  · rintro ⟨hne, ⟨_, e, _⟩ | hm | hm⟩
    · exact absurd e hne
    · exact .inr (.inl hm)
    · exact .inr (.inr hm)
/-- Beneath. -/
theorem dropOf_left {b : Nat} {k p : Key} {h : Bool} {v : Int} {l l' r : Tr} (hh : Half k l r) (hx : k ++ [false] <+: p) (hp : DropOf p l l') : DropOf p (.node b k h v l r) (Tr.node b k h v l' r).needed := by
  obtain ⟨h1, h2, h3, h4, h5⟩ := hh
  refine ⟨needed_wf ⟨h1, hp.wf, h3, hp.ext _ h4, h5⟩, fun q u => ?_, fun q he => ?_, (needed_blks b k h v l' r).trans ?_⟩
  · rw [needed_rows, rows_mem, rows_mem, hp.rows]
    constructor
    · rintro (⟨e, rfl, rfl⟩ | ⟨hne, hm⟩ | hm)
      · exact ⟨(ext_ne hx).symm, .inl ⟨e, rfl, rfl⟩⟩
      · exact ⟨hne, .inr (.inl hm)⟩
      · exact ⟨fun e => by subst e; exact ext_apart (x := false) hx (not_in h5 hm), .inr (.inr hm)⟩
    · rintro ⟨hne, e | hm | hm⟩
      · exact .inl e
      · exact .inr (.inl ⟨hne, hm⟩)
      · exact .inr (.inr hm)
  · obtain ⟨e1, e2, e3⟩ := ext_node.1 he
    exact needed_ext (ext_node.2 ⟨e1, hp.ext q e2, e3⟩)
  · exact (hp.blks.append (List.Sublist.refl _)).cons_cons b
theorem dropOf_right {b : Nat} {k p : Key} {h : Bool} {v : Int} {l r r' : Tr} (hh : Half k l r) (hx : k ++ [true] <+: p) (hp : DropOf p r r') : DropOf p (.node b k h v l r) (Tr.node b k h v l r').needed := by
  obtain ⟨h1, h2, h3, h4, h5⟩ := hh
  refine ⟨needed_wf ⟨h1, h2, hp.wf, h4, hp.ext _ h5⟩, fun q u => ?_, fun q he => ?_, (needed_blks b k h v l r').trans ?_⟩
  · rw [needed_rows, rows_mem, rows_mem, hp.rows]
    constructor
    · rintro (⟨e, rfl, rfl⟩ | hm | ⟨hne, hm⟩)
      · exact ⟨(ext_ne hx).symm, .inl ⟨e, rfl, rfl⟩⟩
      · exact ⟨fun e => by subst e; exact ext_apart (x := true) hx (not_in h4 hm), .inr (.inl hm)⟩
      · exact ⟨hne, .inr (.inr hm)⟩
    · rintro ⟨hne, e | hm | hm⟩
      · exact .inl e
      · exact .inr (.inl hm)
      · exact .inr (.inr ⟨hne, hm⟩)
  · obtain ⟨e1, e2, e3⟩ := ext_node.1 he
    exact needed_ext (ext_node.2 ⟨e1, e2, hp.ext q e3⟩)
  · exact ((List.Sublist.refl _).append hp.blks).cons_cons b

/-- What a place owes. -/
def DropWand (B : Nat) (p : Key) (Done : World → Prop) (W : World) (a : Addr) (T : TypeId) (cs : Array Value) (s : Tr) : Prop :=
  ∀ W' s', PastC B (a.block :: s.blks) W W' → Blk W' a.block T (cs.setIfInBounds a.off (.pointer (ptr s'))) → Lies W' s' → DropOf p s s' → Done W'
structure DSpot (B : Nat) (p : Key) (Done : World → Prop) (a : Addr) (T : TypeId) (cs : Array Value) (s : Tr) (W : World) : Prop where
  near : a = ⟨a.block, a.off, none⟩
  blk : Blk W a.block T cs
  kind : T = 73 ∨ T = 81
  cell : cs[a.off]? = some (.pointer (ptr s))
  lies : Lies W s
  nd : (a.block :: s.blks).Nodup
  wand : DropWand B p Done W a T cs s
theorem DSpot.keptC {B : Nat} {p : Key} {Done : World → Prop} {W W' : World} {a : Addr} {T : TypeId} {cs : Array Value} {s : Tr} (h : DSpot B p Done a T cs s W) (hk : KeptC B W W') : DSpot B p Done a T cs s W' :=
  ⟨h.near, blkC h.blk hk, h.kind, h.cell, liesC hk h.lies, h.nd, fun W2 s' h1 h2 h3 h4 => h.wand W2 s' (PastC.kept hk h1) h2 h3 h4⟩
/-- A place is ready: what hangs there needs but to be put in its own place. -/
def Ready (B : Nat) (p : Key) (a : Addr) (T : TypeId) (cs : Array Value) (s : Tr) (W0 W : World) : Prop :=
  ∃ b k h v l r, PastC B s.blks W0 W ∧ Blk W a.block T cs ∧ cs[a.off]? = some (.pointer (some ⟨b, 0, none⟩)) ∧ Lies W (.node b k h v l r) ∧ (Tr.node b k h v l r).blks.Sublist s.blks ∧ DropOf p s (Tr.node b k h v l r).needed
/-- A step back at a place. -/
def StepOk (a : Addr) (Done : World → Prop) (W : World) : Prop :=
  ∃ b k h v l r, a = ⟨a.block, a.off, none⟩ ∧ (∃ T cs, Blk W a.block T cs ∧ (T = 73 ∨ T = 81)) ∧ W.cell? a = some (.pointer (some ⟨b, 0, none⟩)) ∧ W.frozen? a = false ∧ Blk W b 81 (cellsN k h v l r) ∧ Done (W.setCell a (.pointer (ptr (Tr.node b k h v l r).needed)))
theorem ready_step {B : Nat} {p : Key} {Done : World → Prop} {a : Addr} {T : TypeId} {cs : Array Value} {s : Tr} {W0 W : World} (hs : DSpot B p Done a T cs s W0) (h : Ready B p a T cs s W0 W) : StepOk a Done W := by
  obtain ⟨b, k, hh, v, l, r, h1, h2, h3, h4, h5, h6⟩ := h
  refine ⟨b, k, hh, v, l, r, hs.near, ⟨T, cs, h2, hs.kind⟩, by rw [hs.near, h2.cell]; exact h3, by rw [hs.near]; exact h2.frozen _, h4.1, ?_⟩
  have hnd := List.nodup_cons.1 hs.nd
  refine hs.wand _ _ ?_ ?_ ?_ h6
  · rw [hs.near]
    exact (h1.mono fun k hk => .inl (List.mem_cons_of_mem _ hk)).trans ((PastC.set_ _ _ _).mono fun k hk => by simp at hk; subst hk; exact .inl (by simp))
  · have := h2.set_ a.off (.pointer (ptr (Tr.node b k hh v l r).needed))
    rw [hs.near]
    exact this
  · rw [hs.near]
    refine (PastC.set_ (B := B) _ _ _).lies (needed_lies h4) fun c hc e => ?_
    simp at e
    subst e
    exact hnd.1 (h5.subset ((needed_blks b k hh v l r).subset hc))
theorem Ready.keptC {B : Nat} {p : Key} {a : Addr} {T : TypeId} {cs : Array Value} {s : Tr} {W0 W W' : World} (h : Ready B p a T cs s W0 W) (hk : KeptC B W W') : Ready B p a T cs s W0 W' := by
  obtain ⟨b, k, hh, v, l, r, h1, h2, h3, h4, h5, h6⟩ := h
  exact ⟨b, k, hh, v, l, r, h1.trans (PastC.of hk), blkC h2 hk, h3, liesC hk h4, h5, h6⟩
/-- The place beneath. -/
theorem dspot_down {B : Nat} {p : Key} {Done : World → Prop} {a : Addr} {T : TypeId} {cs : Array Value} {b : Nat} {k : Key} {h : Bool} {v : Int} {l r : Tr} {W : World} {x : Bool}
    (hs : DSpot B p Done a T cs (.node b k h v l r) W) (hh : Half k l r) (hx : k ++ [x] <+: p) :
    DSpot B p (Ready B p a T cs (.node b k h v l r) W) ⟨b, side x, none⟩ 81 (cellsN k h v l r) (if x then r else l) W := by
  obtain ⟨h1, h2, h3, h4, h5, h6, h7⟩ := hs
  obtain ⟨l1, l2, l3⟩ := h5
  have hnd := h6
  simp only [Tr.blks, List.nodup_cons, List.mem_cons, List.mem_append, not_or, List.nodup_append] at hnd
  obtain ⟨⟨na1, na2, na3⟩, ⟨nb1, nb2⟩, nl, nr, nlr⟩ := hnd
  cases x
  · simp only [Bool.false_eq_true, if_false]
    refine ⟨rfl, l1, .inr rfl, rfl, l2, List.nodup_cons.2 ⟨nb1, nl⟩, fun W' s' g1 g2 g3 g4 => ?_⟩
    have hbW : Blk W' b 81 (cellsN k h v s' r) := g2
    have hr' : Lies W' r := g1.lies l3 fun c hc e => by
      rcases List.mem_cons.1 e with e | e
      · simp only at e; subst e; exact nb2 hc
      · exact nlr c e c hc rfl
    refine ⟨b, k, h, v, s', r, g1.mono fun c hc => ?_, g1.blk h2 h3 (by simp only [List.mem_cons, not_or]; exact ⟨na1, na2⟩), h4, ⟨hbW, g3, hr'⟩, (g4.blks.append (List.Sublist.refl _)).cons_cons b, dropOf_left hh hx g4⟩
    left
    simp only [Tr.blks, List.mem_cons, List.mem_append] at hc ⊢
    rcases hc with hc | hc
    · exact .inl hc
    · exact .inr (.inl hc)
  · simp only [if_true]
    refine ⟨rfl, l1, .inr rfl, rfl, l3, List.nodup_cons.2 ⟨nb2, nr⟩, fun W' s' g1 g2 g3 g4 => ?_⟩
    have hbW : Blk W' b 81 (cellsN k h v l s') := g2
    have hl' : Lies W' l := g1.lies l2 fun c hc e => by
      rcases List.mem_cons.1 e with e | e
      · simp only at e; subst e; exact nb1 hc
      · exact nlr c hc c e rfl
    refine ⟨b, k, h, v, l, s', g1.mono fun c hc => ?_, g1.blk h2 h3 (by simp only [List.mem_cons, not_or]; exact ⟨na1, na3⟩), h4, ⟨hbW, hl', g3⟩, ((List.Sublist.refl _).append g4.blks).cons_cons b, dropOf_right hh hx g4⟩
    left
    simp only [Tr.blks, List.mem_cons, List.mem_append] at hc ⊢
    rcases hc with hc | hc
    · exact .inl hc
    · exact .inr (.inr hc)
/-- At the end, once the value is taken, the last place is ready. -/
theorem dspot_end {B : Nat} {p : Key} {Done : World → Prop} {a : Addr} {T : TypeId} {cs : Array Value} {b : Nat} {h : Bool} {v : Int} {l r : Tr} {W : World}
    (hs : DSpot B p Done a T cs (.node b p h v l r) W) (hh : Half p l r) : ∀ W', PastC B [b] W W' → Blk W' b 81 (cellsN p false v l r) → Ready B p a T cs (.node b p h v l r) W W' := fun W' g1 g2 => by
  obtain ⟨h1, h2, h3, h4, h5, h6, h7⟩ := hs
  obtain ⟨l1, l2, l3⟩ := h5
  have hnd := h6
  simp only [Tr.blks, List.nodup_cons, List.mem_cons, List.mem_append, not_or, List.nodup_append] at hnd
  obtain ⟨⟨na1, na2, na3⟩, ⟨nb1, nb2⟩, nl, nr, nlr⟩ := hnd
  refine ⟨b, p, false, v, l, r, g1.mono fun c hc => ?_, g1.blk h2 h3 (by simpa using na1), h4, ⟨g2, g1.lies l2 fun c hc e => ?_, g1.lies l3 fun c hc e => ?_⟩, List.Sublist.refl _, dropOf_here hh⟩
  · simp at hc; subst hc; exact .inl (by simp [Tr.blks])
  · simp at e; subst e; exact nb1 hc
  · simp at e; subst e; exact nb2 hc
/-- The way down, place by place: what each of them owes. -/
structure Steps (B : Nat) (al : List Addr) (D : Nat → World → Prop) : Prop where
  step : ∀ i (h : i < al.length) W, D (i + 1) W → StepOk (al[i]'h) (D i) W
  kept : ∀ i W W', D i W → KeptC B W W' → D i W'
end T6
end Go.Proofs.Ytghkacciihocdaa
