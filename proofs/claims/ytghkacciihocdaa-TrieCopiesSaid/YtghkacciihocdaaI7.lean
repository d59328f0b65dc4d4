/- Layer 6's program: down, and the nodes with a value on the way to a prefix. -/
import Derived.Test.YtghkacciihocdaaI5
import Derived.Test.YtghkacciihocdaaI6
import Derived.Test.YtghkacciihocdaaS11
import Derived.Test.YtghkacciihocdaaE1
namespace Go.Proofs.Ytghkacciihocdaa
open Go Go.RowKit Go.Shelf Go.Sort
attribute [local go_sem] Oper.semAt_some
namespace T6

theorem down_any (q : Option Addr) (x n : Int) (w : World) : Calls Try.prog 60 #[.pointer q, pfx x n] w fun e w' => e = .returned (.func (.func 77) #[] #[.pointer (some ⟨w.heap.size, 0, none⟩), .pointer (some ⟨w.heap.size + 1, 0, none⟩)]) ∧
    w' = (w.alloc (.cells #[.pointer q] 24)).alloc (.cells #[.int .u32 x, .int .i64 n] 34) := by
  go_enter Try.func60, Try.ntmps60
  go_wp2_with fail
  go_ret
  exact ⟨by simp, rfl⟩
def encD (s : Nat × Addr) : Array Value := #[.pointer (some s.2)]
def StD (bt bp g : Nat) (p : Key) (J : Nat × Addr → World → Prop) (_ : World → Prop) (W : World) : Prop := Boxes bt bp g p W ∧ (∃ v1 v2, Blk W g 73 #[.bool true, v1, v2]) ∧ ∃ m0, J (m0, ⟨g, 1, none⟩) W
def StpD (bt bp g : Nat) (p : Key) (J : Nat × Addr → World → Prop) (Fin : World → Prop) (s : Nat × Addr) (W : World) : Prop := Boxes bt bp g p W ∧ Step p s.2 s.1 (fun m a W => J (m, a) W) Fin W
theorem StD_mono {bt bp g : Nat} {p : Key} (J K : Nat × Addr → World → Prop) (A B : World → Prop) (W : World) (h : ∀ s, J s W → K s W) (_ : A W → B W) (hs : StD bt bp g p J A W) : StD bt bp g p K B W :=
  ⟨hs.1, hs.2.1, hs.2.2.elim fun m hm => ⟨m, h _ hm⟩⟩
theorem StpD_mono {bt bp g : Nat} {p : Key} (J K : Nat × Addr → World → Prop) (A B : World → Prop) (s : Nat × Addr) (W : World) (h : ∀ s, J s W → K s W) (hA : A W → B W) (hs : StpD bt bp g p J A s W) : StpD bt bp g p K B s W := by
  refine ⟨hs.1, ?_⟩
  rcases hs.2 with ⟨h1, h2⟩ | ⟨b, k, hh, v, l, r, c1, c2, c3, ⟨c4, x, m', c5, c6, c7⟩ | ⟨c4, c5⟩⟩
  · exact .inl ⟨h1, hA h2⟩
  · exact .inr ⟨b, k, hh, v, l, r, c1, c2, c3, .inl ⟨c4, x, m', c5, c6, h _ c7⟩⟩
  · exact .inr ⟨b, k, hh, v, l, r, c1, c2, c3, .inr ⟨c4, hA c5⟩⟩
theorem down_iter (n : Nat) (hn : 1 ≤ n) (bt bp g : Nat) (p : Key) (hp : p.length ≤ 32) (w0 : World) :
    IterC Fence.wide n Try.prog 77 #[.pointer (some ⟨bt, 0, none⟩), .pointer (some ⟨bp, 0, none⟩)] encD (StD bt bp g p) (StpD bt bp g p) w0 := by
  intro l J J' Jx Fin W _ hJ hF hY hS h0
  obtain ⟨hB, ht, m0, h0⟩ := h0
  exact down1_in n hn l bt bp g p hp (fun m a W => J (m, a) W) (fun m a W => Boxes bt bp g p W ∧ Step p a m (fun m a W => J (m, a) W) Fin W) Jx Fin
    (fun m a A B h hb => hJ (m, a) A B h (.calls hb)) (fun A B h hb => hF () A B h (.calls hb))
    (fun m a W1 h => (hY (m, a) W1 h).mono fun e W' h => h.elim (fun ⟨h1, h2⟩ => .inl ⟨h1, (hS _ _ h2).1, hS _ _ h2⟩) .inr)
    (fun m a W1 h => h.2) m0 W hB ht h0

/-- No way: no trie, or a prefix that may not be. -/
def NoWay (q : Option Addr) (x n : Int) (W : World) : Prop := q = none ∨ ∃ g v1 v2, q = some ⟨g, 0, none⟩ ∧ Blk W g 73 #[.bool true, v1, v2] ∧ ¬ right x n
theorem NoWay.below {q : Option Addr} {x n : Int} {W W' : World} (h : NoWay q x n W) (hb : Below W.heap.size W W') : NoWay q x n W' :=
  h.imp id fun ⟨g, v1, v2, h1, h2, h3⟩ => ⟨g, v1, v2, h1, h2.below hb h2.lt, h3⟩
theorem mayNo_any (q : Option Addr) (x n : Int) (x0 : 0 ≤ x) (x1 : x < 4294967296) (w : World) (h : NoWay q x n w) :
    Calls Try.prog 41 #[.pointer q, pfx x n] w fun e w' => (∃ k : Int, k ≠ 0 ∧ (q = none ∧ k = 1 ∨ q ≠ none ∧ k = 2) ∧ e = .returned (.int .i64 k)) ∧ Below w.heap.size w w' := by
  rcases h with rfl | ⟨g, v1, v2, rfl, h1, h2⟩
  · exact (may0_any x n w).mono fun e w' ⟨he, hb⟩ => ⟨⟨1, by decide, .inl ⟨rfl, rfl⟩, he⟩, hb⟩
  · have hc : chk x n = 2 := if_neg h2
    exact (may_any x n x0 x1 w g v1 v2 h1).mono fun e w' ⟨he, hb⟩ => ⟨⟨2, by decide, .inr ⟨by simp, rfl⟩, by rw [he, hc]⟩, hb⟩
def StN (bt bp : Nat) (q : Option Addr) (x n : Int) (_ : Nat × Addr → World → Prop) (Fin : World → Prop) (W : World) : Prop :=
  W.cell? ⟨bt, 0, none⟩ = some (.pointer q) ∧ W.cell? ⟨bp, 0, none⟩ = some (.int .u32 x) ∧ W.cell? ⟨bp, 1, none⟩ = some (.int .i64 n) ∧ NoWay q x n W ∧ Fin W
set_option maxRecDepth 100000 in
theorem downNo_iter (n : Nat) (bt bp : Nat) (q : Option Addr) (x m : Int) (x0 : 0 ≤ x) (x1 : x < 4294967296) (w0 : World) :
    IterC Fence.wide n Try.prog 77 #[.pointer (some ⟨bt, 0, none⟩), .pointer (some ⟨bp, 0, none⟩)] encD (StN bt bp q x m) (fun _ _ _ _ => True) w0 := by
  intro l J J' Jx Fin W _ hJ hF _ _ ⟨c0, d0, d1, hno, hfin⟩
  have HF := Lib.hid hF
  have HFI := Lib.hid hfin
  have HM := Lib.hid (mayNo_any q x m x0 x1 W hno)
  clear hno hfin hJ hF
  refine callsIn_wide.2 ?_
  simp only [List.append_toArray, List.cons_append, List.nil_append]
  go_enter Try.func77, Try.ntmps77
  go_wp2_with fail
  refine HM.out.mono ?_
  rintro e w1 ⟨⟨k, hk, _, rfl⟩, hb⟩
  have HF1 := Lib.hid (HF.out () W w1 HFI.out (.calls hb))
  have hk' : (k != 0) = true := by simpa using hk
  clear hb c0 d0 d1
  go_wp2_with fail
  refine bodyPost_ret (results_none rfl _ _ _) rfl ?_
  exact ⟨⟨_, rfl⟩, .inl HF1.out⟩

/-- The nodes with a value on the way to a prefix. -/
def Tr.way : Tr → Key → List Tr
  | .nil, _ => []
  | .node b k h v l r, p => if k <+: p then (if h then [.node b k h v l r] else []) ++ (if k = p then [] else if p[k.length]? = some true then r.way p else l.way p) else []
def wayBack (k : Key) (l r : Tr) (p : Key) : List Tr := if k = p then [] else if p[k.length]? = some true then r.way p else l.way p
theorem way_node (b : Nat) (k : Key) (h : Bool) (v : Int) (l r : Tr) (p : Key) (hk : k <+: p) : (Tr.node b k h v l r).way p = (if h then [.node b k h v l r] else []) ++ wayBack k l r p := by
  show (if k <+: p then _ else _) = _
  rw [if_pos hk]; rfl
theorem way_none (b : Nat) (k : Key) (h : Bool) (v : Int) (l r : Tr) (p : Key) (hk : ¬ k <+: p) : (Tr.node b k h v l r).way p = [] := by
  show (if k <+: p then _ else _) = _
  rw [if_neg hk]
/-- The way goes on beneath. -/
theorem next_side {k p : Key} (hk : k <+: p) (hne : k ≠ p) : ∃ x, k ++ [x] <+: p ∧ p[k.length]? = some x := by
  obtain ⟨m, rfl⟩ := hk
  cases m with
  | nil => simp at hne
  | cons x m => exact ⟨x, ⟨m, by simp⟩, by simp⟩
theorem stand_three {k p : Key} : standK k p = 3 ↔ k <+: p ∧ k ≠ p := by
  unfold standK
  by_cases h1 : k = p
  · rw [if_pos h1]; constructor
    · intro h; cases h
    · intro h; exact absurd h1 h.2
  · rw [if_neg h1]
    by_cases h2 : p <+: k
    · rw [if_pos h2]; constructor
      · intro h; cases h
      · intro h; exact absurd (List.IsPrefix.eq_of_length_le h.1 h2.length_le) h1
    · rw [if_neg h2]
      by_cases h3 : k <+: p
      · rw [if_pos h3]; exact ⟨fun _ => ⟨h3, h1⟩, fun _ => rfl⟩
      · rw [if_neg h3]; constructor
        · intro h; cases h
        · intro h; exact absurd h.1 h3
theorem way_len (t : Tr) (p : Key) : t.WF → (t.way p).length + 0 ≤ t.depth := by
  induction t with
  | nil => intro _; simp [Tr.way]
  | node b k h v l r ihl ihr =>
    intro hw
    obtain ⟨_, hl, hr, _⟩ := hw
    have a1 := ihl hl
    have a2 := ihr hr
    have hd : (Tr.node b k h v l r).depth = 1 + max l.depth r.depth := rfl
    by_cases hk : k <+: p
    · rw [way_node _ _ _ _ _ _ _ hk, hd]
      unfold wayBack
      cases h <;> simp only [Bool.false_eq_true, if_true, if_false, List.length_append, List.length_nil, List.length_cons] <;> split <;> (try split) <;> simp <;> omega
    · rw [way_none _ _ _ _ _ _ _ hk]; simp
def ptrs (l : List Tr) : List Value := l.map (fun s => .pointer (ptr s))
/-- What the walk of above holds. -/
structure AbC (w : World) (p : Key) (acc : List Tr) (W : World) : Prop where
  pb : Blk W w.heap.size 34 #[.int .u32 (kx p), .int .i64 (kn p)]
  lb : ∃ v, Blk W (w.heap.size + 1) 77 #[v] ∧ W.ownsRow (w.heap.size + 4) 71 1 v acc.length (ptrs acc)
  bel : Below w.heap.size w W
theorem AbC.keptC {B : Nat} {w : World} {p : Key} {acc : List Tr} {W W' : World} (h : AbC w p acc W) (hk : KeptC B W W') (hB : w.heap.size ≤ B) : AbC w p acc W' := by
  obtain ⟨v, h1, h2⟩ := h.lb
  exact ⟨blkC h.pb hk, ⟨v, blkC h1 hk, hk.own h2⟩, hk.below h.bel hB h.bel.size⟩
theorem Boxes.keptC {B bt bp g : Nat} {p : Key} {W W' : World} (h : Boxes bt bp g p W) (hk : KeptC B W W') : Boxes bt bp g p W' := ⟨hk.cell h.1, hk.cell h.2.1, hk.cell h.2.2⟩
def AbI (w : World) (t : Tr) (bt bp g : Nat) (p : Key) (s : Nat × Addr) (W : World) : Prop := ∃ u acc, u.depth = s.1 ∧ s.2.block < w.heap.size ∧ w.cell? s.2 = some (.pointer (ptr u)) ∧ Lies w u ∧ u.WF ∧ acc ++ u.way p = t.way p ∧ AbC w p acc W ∧ Boxes bt bp g p W
def AbI' (w : World) (t : Tr) (bt bp g : Nat) (p : Key) (s : Nat × Addr) (W : World) : Prop := ∃ b k h v l r acc, (Tr.node b k h v l r).depth = s.1 ∧ s.2.block < w.heap.size ∧ w.cell? s.2 = some (.pointer (some ⟨b, 0, none⟩)) ∧ Lies w (.node b k h v l r) ∧ (Tr.node b k h v l r).WF ∧ k <+: p ∧ acc ++ wayBack k l r p = t.way p ∧ AbC w p acc W ∧ Boxes bt bp g p W
theorem AbI'.step {w : World} {t : Tr} {bt bp g : Nat} {p : Key} {s : Nat × Addr} {W : World} (h : AbI' w t bt bp g p s W) : StpD bt bp g p (AbI w t bt bp g p) (AbC w p (t.way p)) s W := by
  obtain ⟨b, k, hh, v, l, r, acc, h1, h2, h3, h4, h5, h6, h7, h8, h9⟩ := h
  refine ⟨h9, .inr ⟨b, k, hh, v, l, r, (h8.bel.cell (p := s.2) h2).trans h3, h4.1.below h8.bel h4.1.lt, h5.1, ?_⟩⟩
  by_cases hs : standK k p = 3
  · left
    refine ⟨hs, ?_⟩
    obtain ⟨_, hne⟩ := stand_three.1 hs
    obtain ⟨x, hx, hpx⟩ := next_side h6 hne
    have hd : (Tr.node b k hh v l r).depth = 1 + max l.depth r.depth := rfl
    have c := cellN h4.1
    cases x
    · refine ⟨false, l.depth, hx, by omega, l, acc, rfl, h4.1.lt, c.2.2.2.2.1, h4.2.1, h5.2.1, ?_, h8, h9⟩
      rw [← h7]; unfold wayBack; rw [if_neg hne, hpx]; rfl
    · refine ⟨true, r.depth, hx, by omega, r, acc, rfl, h4.1.lt, c.2.2.2.2.2, h4.2.2, h5.2.2.1, ?_, h8, h9⟩
      rw [← h7]; unfold wayBack; rw [if_neg hne, hpx]; rfl
  · right
    refine ⟨hs, ?_⟩
    have he : k = p := by
      by_cases hne : k = p
      · exact hne
      · exact absurd (stand_three.2 ⟨h6, hne⟩) hs
    have : wayBack k l r p = [] := if_pos he
    rw [this, List.append_nil] at h7
    rw [← h7]; exact h8
theorem infoPN : (Try.prog.info? 71).map (fun i => (i.zero, i.size, i.bytes)) = some (some (.pointer none), 1, 8) := by kernel_rfl
/-- A node more. -/
theorem AbC.more {w : World} {p : Key} {acc : List Tr} {W W1 wn : World} {v v' : Value} {u : Tr} (h : AbC w p acc W) (h1 : Blk W (w.heap.size + 1) 77 #[v]) (h2 : W.ownsRow (w.heap.size + 4) 71 1 v acc.length (ptrs acc)) (hal : Below W.heap.size W W1) (hg : W1.grownBy wn v.ownBlock) (hown : wn.ownsRow (w.heap.size + 4) 71 1 v' (acc.length + 1) (ptrs acc ++ [.pointer (ptr u)])) :
    AbC w p (acc ++ [u]) (wn.setCell ⟨w.heap.size + 1, 0, none⟩ v') ∧ KeepsFrom (w.heap.size + 4) W (wn.setCell ⟨w.heap.size + 1, 0, none⟩ v') ∧ (∀ q : Addr, q.block ≠ w.heap.size + 1 → some q.block ≠ v.ownBlock → q.block < W.heap.size → (wn.setCell ⟨w.heap.size + 1, 0, none⟩ v').cell? q = W.cell? q) := by
  have hlt : ∀ k, v.ownBlock = some k → w.heap.size + 4 ≤ k ∧ k < W.heap.size := fun k hk => h2.lt k hk
  have hz := hal.size
  have hlb := h1.lt
  have hp := (h.pb.below hal h.pb.lt).grown hg (fun e => by have := (hlt _ e.symm).1; omega)
  have hl := (h1.below hal h1.lt).grown hg (fun e => by have := (hlt _ e.symm).1; omega)
  have hb := (h.bel.trans (hal.mono h.bel.size)).grown hg (Nat.le_trans h.bel.size hz) (fun k e => by have := (hlt k e).1; omega)
  refine ⟨⟨hp.far (by simp) _, ⟨v', by simpa using hl.set_ 0 v', ?_⟩, hb.setCell (by simp) _⟩, ⟨?_, ?_⟩, ?_⟩
  · have e : ptrs (acc ++ [u]) = ptrs acc ++ [.pointer (ptr u)] := by simp [ptrs]
    rw [e, List.length_append, List.length_singleton]
    exact own_far hown (by simp)
  · have := hg.size
    simp only [World.setCell, Array.size_modify]; omega
  · intro k o hk ho hc
    have hlt2 := (Array.getElem?_eq_some_iff.1 ho).1
    rw [Below.heap_setCell _ _ _ _ (by simp; omega)]
    by_cases e : v.ownBlock = some k
    · exfalso
      rcases h2.2 with ⟨rfl, _⟩ | ⟨g, cap, cur, rfl, _, hh, _⟩
      · simp [Value.ownBlock] at e
      · simp [Value.ownBlock] at e
        subst e
        rw [hh] at ho; cases ho; simp [Obj.isCells] at hc
    · rw [hg.block k (by omega) (fun e2 => e e2.symm), hal.block k hlt2]; exact ho
  · intro q hq1 hq2 hq3
    have e1 := World.cell?_of_block (w := wn) (Below.heap_setCell wn ⟨w.heap.size + 1, 0, none⟩ v' q.block hq1)
    rw [e1]
    exact World.cell?_of_block ((hg.block q.block (by omega) hq2).trans (hal.block q.block hq3))
/-- The walk of above. -/
theorem above_any (t : Tr) (p : Key) (hp : p.length ≤ 32) (w : World) (g : Nat) (hT : Trie w g t) :
    Calls Try.prog 36 #[.pointer (some ⟨g, 0, none⟩), pfx (kx p) (kn p)] w fun e w' => (∃ A c, e = .returned (.slice A (t.way p).length c) ∧ LiesS w' A (ptrs (t.way p))) ∧ Below w.heap.size w w' := by
  refine callsIn_wide (n := 6) |>.1 ?_
  refine callsIn_of_wp_marks Try.func36 rfl trivial ?_ rfl
  simp only [Try.ntmps36, List.size_toArray, List.length_cons, List.length_nil, Nat.reduceAdd, Nat.reduceSub, Array.replicate_succ, Array.replicate_zero, List.push_toArray, List.append_toArray, List.nil_append, List.cons_append]
  have hpb : Blk ((w.alloc (.cells #[.int .u32 (kx p), .int .i64 (kn p)] 34)).alloc (.cells #[.slice none 0 0] 77)) w.heap.size 34 #[.int .u32 (kx p), .int .i64 (kn p)] := (Blk.new w 34 #[.int .u32 (kx p), .int .i64 (kn p)]).alloc _
  have hlb : Blk ((w.alloc (.cells #[.int .u32 (kx p), .int .i64 (kn p)] 34)).alloc (.cells #[.slice none 0 0] 77)) (w.heap.size + 1) 77 #[.slice none 0 0] := by
    have := Blk.new (w.alloc (.cells #[.int .u32 (kx p), .int .i64 (kn p)] 34)) 77 #[.slice none 0 0]
    simpa using this
  have hbw := two_below w (.cells #[.int .u32 (kx p), .int .i64 (kn p)] 34) (.cells #[.slice none 0 0] 77)
  have d0 := hpb.cell 0
  have d1 := hpb.cell 1
  simp only [List.getElem?_toArray, List.getElem?_cons_zero, List.getElem?_cons_succ] at d0 d1
  have HPB := Lib.hid hpb
  have HLB := Lib.hid hlb
  have HBW := Lib.hid hbw
  have HT := Lib.hid hT
  have hs0 : ((w.alloc (.cells #[.int .u32 (kx p), .int .i64 (kn p)] 34)).alloc (.cells #[.slice none 0 0] 77)).heap.size = w.heap.size + 2 := by simp
  have HS0 := Lib.hid hs0
  clear hpb hlb hbw hT hs0
  gi_wp2_with fail
  refine wpInWide_scope ?_
  gi_wp2_with fail
  refine wpIn_label ?_
  gi_wp2_with fail
  generalize ((w.alloc (.cells #[.int .u32 (kx p), .int .i64 (kn p)] 34)).alloc (.cells #[.slice none 0 0] 77)) = W2 at *
  refine ⟨trivial, ?_⟩
  refine (callsIn_wide.2 (down_any _ _ _ _)).mono ?_
  rintro e w3 ⟨rfl, rfl⟩
  rw [HS0.out]
  clear d0 d1
  gi_wp2_with fail
  have hbtA := Blk.new W2 24 #[.pointer (some ⟨g, 0, none⟩)]
  have hb3 := two_below W2 (.cells #[.pointer (some ⟨g, 0, none⟩)] 24) (.cells #[.int .u32 (kx p), .int .i64 (kn p)] 34)
  have hbpA := Blk.new (W2.alloc (.cells #[.pointer (some ⟨g, 0, none⟩)] 24)) 34 #[.int .u32 (kx p), .int .i64 (kn p)]
  have hz3 : ((W2.alloc (.cells #[.pointer (some ⟨g, 0, none⟩)] 24)).alloc (.cells #[.int .u32 (kx p), .int .i64 (kn p)] 34)).heap.size = w.heap.size + 4 := by simp [HS0.out]
  have hbtB := hbtA.alloc (.cells #[.int .u32 (kx p), .int .i64 (kn p)] 34)
  have hsA : (W2.alloc (.cells #[.pointer (some ⟨g, 0, none⟩)] 24)).heap.size = w.heap.size + 3 := by simp [HS0.out]
  rw [hsA] at hbpA
  rw [HS0.out] at hbtB
  generalize ((W2.alloc (.cells #[.pointer (some ⟨g, 0, none⟩)] 24)).alloc (.cells #[.int .u32 (kx p), .int .i64 (kn p)] 34)) = W3 at *
  clear hsA
  have hB3 : Boxes (w.heap.size + 2) (w.heap.size + 3) g p W3 := ⟨hbtB.cell 0, hbpA.cell 0, hbpA.cell 1⟩
  have hA3 : AbC w p [] W3 := ⟨HPB.out.below hb3 HPB.out.lt, ⟨_, HLB.out.below hb3 HLB.out.lt, World.ownsRow_nil _ _ _ _⟩, HBW.out.trans (hb3.mono HBW.out.size)⟩
  have hT3 := HT.out.below hA3.bel
  have HA3 := Lib.hid hA3
  have HB3 := Lib.hid hB3
  clear hb3 hbtA hbtB hbpA HPB HLB HBW hA3 hB3
  have hI0 : ∀ W, Below W3.heap.size W3 W → StD (w.heap.size + 2) (w.heap.size + 3) g p (AbI w t (w.heap.size + 2) (w.heap.size + 3) g p) (AbC w p (t.way p)) W := fun W hb => by
    have hT4 := hT3.below hb
    have hb4 := HB3.out.below hb
    have hc1 := HT.out.own.cell 1
    refine ⟨hb4, ⟨_, _, hT4.own⟩, t.depth, t, [], rfl, HT.out.own.lt, hc1, HT.out.lies, HT.out.wf, rfl, HA3.out.keptC (KeptC.calls (B := W3.heap.size) hb) (by omega), hb4⟩
  have HI0 := Lib.hid hI0
  clear hI0 hT3
  refine wpIn_rangeFunc_D1 (σ := Nat × Addr) rfl (by decide) (gf := 77) (lb := #[.pointer (some ⟨w.heap.size + 2, 0, none⟩), .pointer (some ⟨w.heap.size + 3, 0, none⟩)]) rfl trivial (enters_of Try.func77 (by kernel_rfl) rfl)
    (down_iter 5 (by decide) (w.heap.size + 2) (w.heap.size + 3) g p hp W3) StD_mono StpD_mono (Below.refl _ _) (fun _ => rfl)
    (AbI w t (w.heap.size + 2) (w.heap.size + 3) g p) (AbI' w t (w.heap.size + 2) (w.heap.size + 3) g p) (fun c W => c = .exit 0 ∧ AbC w p (t.way p) W) (AbC w p (t.way p))
    (ownC_of fun s A B ⟨u, acc, h1, h2, h3, h4, h5, h6, h7, h8⟩ hk => ⟨u, acc, h1, h2, h3, h4, h5, h6, h7.keptC hk (by omega), h8.keptC hk⟩)
    (ownC_of fun s A B ⟨b, k, h, v, l, r, acc, h1, h2, h3, h4, h5, h6, h7, h8, h9⟩ hk => ⟨b, k, h, v, l, r, acc, h1, h2, h3, h4, h5, h6, h7, h8.keptC hk (by omega), h9.keptC hk⟩)
    (fun c => ownC_of fun _ A B h hk => ⟨h.1, h.2.keptC hk (by omega)⟩) (ownC_of fun _ A B h hk => h.keptC hk (by omega))
    HI0.out (fun s W h => h.step)
    (fun s => { tmps := #[.pointer (some ⟨g, 0, none⟩), pfx (kx p) (kn p), undef, .pointer (some ⟨w.heap.size, 0, none⟩), .slice none 0 0, .pointer (some ⟨w.heap.size + 1, 0, none⟩), .pointer (some s.2), undef, .pointer (some ⟨g, 0, none⟩), pfx (kx p) (kn p), .func (.func 77) #[] #[.pointer (some ⟨w.heap.size + 2, 0, none⟩), .pointer (some ⟨w.heap.size + 3, 0, none⟩)], .pointer (some s.2), undef, undef, undef, undef, undef, undef, undef, undef, undef, undef, undef, undef, undef, undef, undef, undef, undef, undef, undef, undef, undef, undef, undef], defers := [] })
    ?assign ?body ?done ?stop
  case assign =>
    rintro l ⟨m, a⟩ W K hK
    unfold encD
    gi_wp2
    exact hK
  case body =>
    rintro l ⟨m, a⟩ W ⟨u, acc, h1, h2, h3, h4, h5, h6, h7, h8⟩
    have ca := (h7.bel.cell (p := a) h2).trans h3
    dsimp only at h1 h2 h3 ca ⊢
    have HX := Lib.hid (And.intro h1 (And.intro h2 (And.intro h3 (And.intro h4 h5))))
    have H7 := Lib.hid h7
    have H8 := Lib.hid h8
    have H6 := Lib.hid h6
    clear h1 h2 h3 h4 h5 h6 h7 h8
    rcases u with _ | ⟨b, k, h, v, l', r⟩
    · simp only [ptr] at ca
      have hw6 : acc = t.way p := by have := H6.out; simpa [Tr.way] using this
      subst hw6
      gi_wp2_with fail
      refine ⟨trivial, ?_⟩
      gi_wp2_with fail
      exact ⟨KeepsFrom.refl _ _, rfl, H7.out⟩
    · simp only [ptr] at ca
      obtain ⟨h1, h2, h3, h4, h5⟩ := HX.out
      have hbn := h4.1.below H7.out.bel h4.1.lt
      obtain ⟨_, _, c2, _⟩ := cellN hbn
      have d0 := H7.out.pb.cell 0
      have d1 := H7.out.pb.cell 1
      simp only [List.getElem?_toArray, List.getElem?_cons_zero, List.getElem?_cons_succ] at d0 d1
      have HBN := Lib.hid hbn
      have HK := Lib.hid h5.1
      clear h1 h2 h3 h4 h5 hbn
      gi_wp2_with fail
      refine ⟨trivial, ?_⟩
      refine (CallsIn.inRound l (callsIn_wide.2 (holds6_any k p HK.out hp h v l' r b W HBN.out))).mono ?_
      rintro e w5 ⟨rfl, hb⟩
      have HB5 := Lib.hid hb
      have H75 := Lib.hid (H7.out.keptC (KeptC.calls (B := w.heap.size) hb) (Nat.le_refl _))
      have H85 := Lib.hid (H8.out.keptC (KeptC.calls (B := w.heap.size) hb))
      have HF5 : Hid (KeepsFrom W3.heap.size W w5) := ⟨hb.size, fun i o _ hi _ => (hb.block i (Array.getElem?_eq_some_iff.1 hi).1).trans hi⟩
      have c2' := (hb.cell (p := ⟨b, 2, none⟩) HBN.out.lt).trans c2
      clear hb c2 d0 d1 ca
      by_cases hkp : k <+: p
      · rw [decide_eq_true hkp]
        have hway := way_node b k h v l' r p hkp
        obtain ⟨h1, h2, h3, h4, h5⟩ := HX.out
        have h6 := H6.out
        rw [hway] at h6
        have HX2 := Lib.hid (And.intro hkp (And.intro h1 (And.intro h2 (And.intro h3 (And.intro h4 h5)))))
        have HX6 := Lib.hid h6
        clear hkp hway h1 h2 h3 h4 h5 h6 HX H6
        cases h
        · gi_wp2_with fail
          refine ⟨HF5.out, b, k, false, v, l', r, acc, HX2.out.2.1, HX2.out.2.2.1, HX2.out.2.2.2.1, HX2.out.2.2.2.2.1, HX2.out.2.2.2.2.2, HX2.out.1, by simpa using HX6.out, H75.out, H85.out⟩
        · obtain ⟨v0, hl0, ho0⟩ := H75.out.lb
          obtain ⟨i0, hi, hz0, hz1, hz2⟩ := info_parts infoPN
          have HI := Lib.hid (And.intro hi (And.intro hz0 (And.intro hz1 hz2)))
          have hl1 := hl0.cell 0
          simp only [List.getElem?_toArray, List.getElem?_cons_zero] at hl1
          have hacc : acc.length ≤ 33 := by
            have e1 := HX6.out
            have e2 := way_len t p HT.out.wf
            have e3 := depth_most HT.out.wf
            rw [← e1, List.length_append] at e2
            omega
          have HL0 := Lib.hid hl0
          have HO0 := Lib.hid ho0
          have hz5 : w.heap.size + 4 ≤ w5.heap.size := by have := World.block_lt_of_cell? _ _ H85.out.2.1; simp only at this; omega
          clear hi hz0 hz1 hz2 hl0 ho0
          gi_wp2_with (gi_at_builtin; refine wpListIn_append_own _ rfl _ _ 77 rfl (w.heap.size + 4) 71 i0 (.pointer none) 1 8 Try.underlying77 HI.out.1 HI.out.2.1 HI.out.2.2.1 HI.out.2.2.2 rfl (by decide) _ _ _ rfl (own_past HO0.out ((Below.refl _ _).alloc (Nat.le_refl _) _)) ⟨w5.heap.size, 0, none⟩ 1 1 [.pointer (some ⟨b, 0, none⟩)] rfl rfl ?c1 ?c2 ?c3 ?c4 ?c5 ?_)
          case c1 =>
            intro q u hq
            match q, hq with
            | 0, hq => simp at hq; subst hq; simp [Addr.add]
            | q + 1, hq => simp at hq
          case c2 =>
            intro u hu
            simp at hu
            subst hu
            rfl
          case c3 => unfold maxLen; omega
          case c4 => omega
          case c5 => simp; omega
          intro v2 wn hown hgrow _
          have hal : Below w5.heap.size w5 (w5.alloc (.cells #[.pointer (some ⟨b, 0, none⟩)] 71)) := (Below.refl _ _).alloc (Nat.le_refl _) _
          have hm := AbC.more (u := .node b k true v l' r) H75.out HL0.out HO0.out hal hgrow hown
          have hlw := (HL0.out.below hal HL0.out.lt).grown hgrow (fun e => by have := (HO0.out.lt _ e.symm).1; omega)
          have w1 := hlw.cell 0
          have w2 := hlw.frozen 0
          simp only [List.getElem?_toArray, List.getElem?_cons_zero] at w1
          have HMM := Lib.hid hm
          have hnl : ∀ k, v0.ownBlock = some k → w.heap.size + 4 ≤ k := fun k hk => (HO0.out.lt k hk).1
          have hbx : Boxes (w.heap.size + 2) (w.heap.size + 3) g p (wn.setCell ⟨w.heap.size + 1, 0, none⟩ v2) := by
            obtain ⟨q1, q2, q3⟩ := H85.out
            refine ⟨(hm.2.2 _ (by simp) (fun e => by have := hnl _ e.symm; simp only at this; omega) (World.block_lt_of_cell? _ _ q1)).trans q1, (hm.2.2 _ (by simp) (fun e => by have := hnl _ e.symm; simp only at this; omega) (World.block_lt_of_cell? _ _ q2)).trans q2, (hm.2.2 _ (by simp) (fun e => by have := hnl _ e.symm; simp only at this; omega) (World.block_lt_of_cell? _ _ q3)).trans q3⟩
          have HBX := Lib.hid hbx
          obtain ⟨gr, cr, rfl⟩ := ownsRow_succ hown
          clear hm hlw hbx hal hgrow hown hnl
          gi_wp2_with fail
          refine ⟨HF5.out.trans (by rw [hz3]; exact HMM.out.2.1), b, k, true, v, l', r, acc ++ [.node b k true v l' r], HX2.out.2.1, HX2.out.2.2.1, HX2.out.2.2.2.1, HX2.out.2.2.2.2.1, HX2.out.2.2.2.2.2, HX2.out.1, by simpa using HX6.out, HMM.out.1, HBX.out⟩
      · rw [decide_eq_false hkp]
        have hw6 : acc = t.way p := by have h6 := H6.out; rw [way_none _ _ _ _ _ _ _ hkp] at h6; simpa using h6
        subst hw6
        gi_wp2_with fail
        exact ⟨HF5.out, rfl, H75.out⟩
  case done =>
    intro D W hD hA hK
    simp only [Exit.inBlock]
    obtain ⟨v0, hl0, ho0⟩ := hA.lb
    obtain ⟨A, c, rfl⟩ := own_slice ho0
    have l0 := hl0.cell 0
    simp only [List.getElem?_toArray, List.getElem?_cons_zero] at l0
    have HA := Lib.hid hA.bel
    have HO := Lib.hid (lies_own ho0)
    have hpl : (ptrs (t.way p)).length = (t.way p).length := by simp [ptrs]
    have hlw := World.block_lt_of_cell? _ _ l0
    clear hA ho0 hl0
    gi_wp2_with fail
    refine ⟨by simp, .inl ⟨_, _, rfl, run_takeDeferred hK, ?_⟩⟩
    have hg1 := grownBy_putObj' W D (.deferred none)
    refine ⟨.slice A (t.way p).length c, ?_, ⟨A, c, rfl, fun hn => ?_⟩, HA.out.grown hg1 HA.out.size (fun k e => by cases e; omega)⟩
    · simp [results, Try.f36, go_sem]
    · obtain ⟨b, o, e, hlt, hc⟩ := HO.out hn
      refine ⟨b, o, e, by have := hg1.size; omega, fun j hj => ?_⟩
      have hne : b ≠ D := fun e2 => by
        subst e2
        have h0 := hc 0 hn
        unfold World.cell? at h0
        rw [hK] at h0
        cases h0
      rw [World.cell?_of_block (World.putObj_heap_other (fun e2 => hne (by simpa using e2)))]
      exact hc j hj
  case stop =>
    rintro D c W hD ⟨rfl, hA⟩ hK
    refine wpIn_exit ?_
    simp only [Exit.inBlock, if_true]
    obtain ⟨v0, hl0, ho0⟩ := hA.lb
    obtain ⟨A, c, rfl⟩ := own_slice ho0
    have l0 := hl0.cell 0
    simp only [List.getElem?_toArray, List.getElem?_cons_zero] at l0
    have HA := Lib.hid hA.bel
    have HO := Lib.hid (lies_own ho0)
    have hpl : (ptrs (t.way p)).length = (t.way p).length := by simp [ptrs]
    have hlw := World.block_lt_of_cell? _ _ l0
    clear hA ho0 hl0
    gi_wp2_with fail
    refine ⟨by simp, .inl ⟨_, _, rfl, run_takeDeferred hK, ?_⟩⟩
    have hg1 := grownBy_putObj' W D (.deferred none)
    refine ⟨.slice A (t.way p).length c, ?_, ⟨A, c, rfl, fun hn => ?_⟩, HA.out.grown hg1 HA.out.size (fun k e => by cases e; omega)⟩
    · simp [results, Try.f36, go_sem]
    · obtain ⟨b, o, e, hlt, hc⟩ := HO.out hn
      refine ⟨b, o, e, by have := hg1.size; omega, fun j hj => ?_⟩
      have hne : b ≠ D := fun e2 => by
        subst e2
        have h0 := hc 0 hn
        unfold World.cell? at h0
        rw [hK] at h0
        cases h0
      rw [World.cell?_of_block (World.putObj_heap_other (fun e2 => hne (by simpa using e2)))]
      exact hc j hj
end T6
end Go.Proofs.Ytghkacciihocdaa
