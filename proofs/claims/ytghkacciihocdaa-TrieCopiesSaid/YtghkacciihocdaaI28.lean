/- Merged by tools/merge.py: I26, I27, I28. -/
import Derived.Test.YtghkacciihocdaaI25
namespace Go.Proofs.Ytghkacciihocdaa
open Go Go.RowKit Go.Shelf Go.Sort
attribute [local go_sem] Oper.semAt_some
namespace T6

/-- What each two prefixes have in common, in order, each once. -/
def commons (L : List (Key × Int)) : List Key := L.flatMap (fun a => L.map (fun b => lcp a.1 b.1))
def insK (k : Key) : List Key → List Key
  | [] => [k]
  | q :: l => if klt k q then k :: q :: l else if klt q k then q :: insK k l else q :: l
def skeys (L : List (Key × Int)) : List Key := (commons L).foldr insK []
theorem insK_mem {k q : Key} : ∀ {l : List Key}, q ∈ insK k l ↔ q = k ∨ q ∈ l
  | [] => by simp [insK]
  | x :: l => by
    unfold insK
    split
    · simp
    · split
      · simp only [List.mem_cons, insK_mem]
        constructor
        · rintro (h | h | h)
          · exact .inr (.inl h)
          · exact .inl h
          · exact .inr (.inr h)
        · rintro (h | h | h)
          · exact .inr (.inl h)
          · exact .inl h
          · exact .inr (.inr h)
      · rename_i h1 h2
        have e : k = x := klt_total (by simpa using h1) (by simpa using h2)
        subst e
        simp
theorem insK_sorted {k : Key} : ∀ {l : List Key}, l.Pairwise (fun a b => klt a b = true) → (insK k l).Pairwise (fun a b => klt a b = true)
  | [], _ => by simp [insK]
  | x :: l, h => by
    obtain ⟨h1, h2⟩ := List.pairwise_cons.1 h
    unfold insK
    split
    · rename_i hk
      refine List.pairwise_cons.2 ⟨fun a ha => ?_, h⟩
      rcases List.mem_cons.1 ha with rfl | ha
      · exact hk
      · exact klt_trans hk (h1 a ha)
    · split
      · rename_i hk
        refine List.pairwise_cons.2 ⟨fun a ha => ?_, insK_sorted h2⟩
        rcases insK_mem.1 ha with rfl | ha
        · exact hk
        · exact h1 a ha
      · exact h
theorem skeys_mem {L : List (Key × Int)} {q : Key} : q ∈ skeys L ↔ ∃ a ∈ L, ∃ b ∈ L, lcp a.1 b.1 = q := by
  have key : ∀ (l : List Key), q ∈ l.foldr insK [] ↔ q ∈ l := by
    intro l
    induction l with
    | nil => simp
    | cons a l ih => rw [List.foldr_cons, insK_mem, ih]; simp
  unfold skeys
  rw [key]
  simp [commons, List.mem_flatMap]
theorem skeys_sorted (L : List (Key × Int)) : (skeys L).Pairwise (fun a b => klt a b = true) := by
  unfold skeys
  induction commons L with
  | nil => simp
  | cons a l ih => rw [List.foldr_cons]; exact insK_sorted ih
theorem keys_rows {t : Tr} (hw : t.WF) : t.keys = skeys t.rows :=
  sorted_ext klt klt_irrefl (fun _ _ h => klt_asymm h) (keys_sorted hw) (skeys_sorted _) fun q => by rw [keys_iff hw, skeys_mem]
def depthK (l : List Key) : Nat := (l.map (around l)).foldl max 0
theorem foldl_max_le {l : List Nat} {a m : Nat} (ha : a ≤ m) (h : ∀ x ∈ l, x ≤ m) : l.foldl max a ≤ m := by
  induction l generalizing a with
  | nil => exact ha
  | cons x l ih => exact ih (Nat.max_le.2 ⟨ha, h x (by simp)⟩) fun y hy => h y (by simp [hy])
theorem foldl_max_ge {l : List Nat} {a : Nat} : a ≤ l.foldl max a := by
  induction l generalizing a with
  | nil => exact Nat.le_refl _
  | cons x l ih => exact Nat.le_trans (Nat.le_max_left a x) ih
theorem foldl_max_mem {l : List Nat} {a x : Nat} (h : x ∈ l) : x ≤ l.foldl max a := by
  induction l generalizing a with
  | nil => simp at h
  | cons y l ih =>
    rcases List.mem_cons.1 h with rfl | h
    · exact Nat.le_trans (Nat.le_max_right a x) foldl_max_ge
    · exact ih h
theorem depth_rows {t : Tr} (hw : t.WF) : t.depth = depthK (skeys t.rows) := by
  rw [← keys_rows hw]
  unfold depthK
  refine Nat.le_antisymm ?_ (foldl_max_le (Nat.zero_le _) fun x hx => ?_)
  · by_cases hn : t = .nil
    · subst hn; simp [Tr.depth]
    · obtain ⟨q, hq, e⟩ := around_top hw hn
      rw [← e]
      exact foldl_max_mem (List.mem_map.2 ⟨q, hq, rfl⟩)
  · obtain ⟨q, hq, rfl⟩ := List.mem_map.1 hx
    exact around_le hw q hq
/-- What is told last of rows. -/
def lastR (L : List (Key × Int)) : (Int × Int) × Int × Bool := match L.getLast? with
  | none => ((0, 0), 0, false)
  | some r => ((kx r.1, kn r.1), r.2, true)
theorem lastV_rows {t : Tr} (hw : t.WF) (p : Key) : lastV (t.way p) = lastR (t.rows.filter (fun r => decide (r.1 <+: p))) := by
  rw [← way_rows hw]
  unfold lastV lastR
  rw [List.getLast?_map]
  cases (t.way p).getLast? <;> rfl
theorem num6_any (e : Int) (w : World) : Calls Try.prog 22 #[.int .i64 e] w fun x w' => x = .returned (.int .i64 e) ∧ w = w' := by
  go_enter Try.func22, Try.ntmps22
  go_wp2_with fail
  go_ret
  exact ⟨by simp [go_sem], rfl⟩
theorem of6_any (x n : Int) (w : World) :
    Calls Try.prog 31 #[.int .u32 x, .int .i64 n] w fun e w' => e = .returned (pfx x n) ∧ Below w.heap.size w w' := by
  go_enter Try.func31, Try.ntmps31
  go_wp2
  exact bodyPost_ret (v := pfx x n) (by simp [results, Try.results31, go_sem, pfx]) rfl ⟨rfl, (Below.refl _ _).alloc (Nat.le_refl _) _⟩
end T6
end Go.Proofs.Ytghkacciihocdaa

namespace Go.Proofs.Ytghkacciihocdaa
open Go Go.RowKit Go.Shelf Go.Sort
attribute [local go_sem] Oper.semAt_some
namespace T6

/-- A trie with these rows, whose blocks are at most of a time behind w; what lay in w is as it was. -/
def OwnT (w : World) (g : Nat) (L : List (Key × Int)) (W : World) : Prop := ∃ t, Trie W g t ∧ t.rows = L ∧ (∀ b ∈ g :: t.blks, w.heap.size ≤ b) ∧ Below w.heap.size w W
theorem OwnT.below {w W W' : World} {g : Nat} {L : List (Key × Int)} (h : OwnT w g L W) (hb : Below W.heap.size W W') : OwnT w g L W' := by
  obtain ⟨t, h1, h2, h3, h4⟩ := h
  exact ⟨t, h1.below hb, h2, h3, h4.trans (hb.mono h4.size)⟩
theorem OwnT.keptC {B : Nat} {w W W' : World} {g : Nat} {L : List (Key × Int)} (h : OwnT w g L W) (hk : KeptC B W W') (hB : w.heap.size ≤ B) : OwnT w g L W' := by
  obtain ⟨t, h1, h2, h3, h4⟩ := h
  exact ⟨t, h1.keptC hk, h2, h3, hk.below h4 hB h4.size⟩
theorem OwnT.srow {w W : World} {g : Nat} {L : List (Key × Int)} (h : OwnT w g L W) : SRow L := by
  obtain ⟨t, h1, rfl, _⟩ := h
  exact rows_sorted h1.wf
theorem OwnT.bel {w W : World} {g : Nat} {L : List (Key × Int)} (h : OwnT w g L W) : Below w.heap.size w W := by
  obtain ⟨t, _, _, _, h⟩ := h
  exact h
theorem OwnT.lt {w W : World} {g : Nat} {L : List (Key × Int)} (h : OwnT w g L W) : w.heap.size ≤ g ∧ g < W.heap.size := by
  obtain ⟨t, h1, _, h3, _⟩ := h
  exact ⟨h3 g (by simp), h1.own.lt⟩
theorem OwnT.turned {w W W' : World} {g : Nat} {t : Tr} {L : List (Key × Int)} (h3 : ∀ b ∈ g :: t.blks, w.heap.size ≤ b) (h4 : Below w.heap.size w W) (h : Turned W g t L W') : OwnT w g L W' := by
  obtain ⟨t', a1, a2, a3, a4⟩ := h
  refine ⟨t', a1, a2, fun b hb => ?_, h4.trans ⟨a4.os, a4.tape, a4.output, a4.size, fun k hk => ?_⟩⟩
  · rcases List.mem_cons.1 hb with rfl | hb
    · exact h3 _ (by simp)
    · rcases a3 b hb with hb | hb
      · exact h3 b (by simp [hb])
      · exact Nat.le_trans h4.size hb
  · have hlt : k < W.heap.size := Nat.lt_of_lt_of_le hk h4.size
    rw [Array.getElem?_eq_getElem hlt]
    exact a4.same k _ (Array.getElem?_eq_getElem hlt) (fun e => by have := h3 k e; omega) (.inl hlt)
/-- Nothing but nodes and tries is another one. -/
structure TreeOnly (W W' : World) : Prop where
  size : W.heap.size ≤ W'.heap.size
  os : W'.os = W.os
  tape : W'.tape = W.tape
  output : W'.output = W.output
  same : ∀ (k : Nat) (o : Obj), W.heap[k]? = some o → treeO o = false → W'.heap[k]? = some o
theorem TreeOnly.below {W W' : World} (h : Below W.heap.size W W') : TreeOnly W W' := ⟨h.size, h.os, h.tape, h.output, fun k _ ho _ => (h.block k (Array.getElem?_eq_some_iff.1 ho).1).trans ho⟩
theorem TreeOnly.trans {A B C : World} (h : TreeOnly A B) (k : TreeOnly B C) : TreeOnly A C := ⟨Nat.le_trans h.size k.size, k.os.trans h.os, k.tape.trans h.tape, k.output.trans h.output, fun i o ho ht => k.same i o (h.same i o ho ht) ht⟩
theorem TreeOnly.blk {W W' : World} (h : TreeOnly W W') {k : Nat} {T : TypeId} {cs : Array Value} (hb : Blk W k T cs) (hT : T ≠ 73) (hN : T ≠ 81) : Blk W' k T cs := h.same k _ hb (by simp [treeO, hT, hN])
theorem lies_tree {W : World} : ∀ {t : Tr}, Lies W t → ∀ b ∈ t.blks, ∃ o : Obj, W.heap[b]? = some o ∧ treeO o = true
  | .nil, _, b, hb => by simp [Tr.blks] at hb
  | .node c k h v l r, ⟨h1, h2, h3⟩, b, hb => by
    simp only [Tr.blks, List.mem_cons, List.mem_append] at hb
    rcases hb with rfl | hb | hb
    · exact ⟨_, h1, rfl⟩
    · exact lies_tree h2 b hb
    · exact lies_tree h3 b hb
theorem Turned.only {W W' : World} {g : Nat} {t : Tr} {L : List (Key × Int)} (hT : Trie W g t) (h : Turned W g t L W') : TreeOnly W W' := by
  obtain ⟨t', a1, a2, a3, a4⟩ := h
  refine ⟨a4.size, a4.os, a4.tape, a4.output, fun k o ho ht => a4.same k o ho (fun e => ?_) (.inl (Array.getElem?_eq_some_iff.1 ho).1)⟩
  rcases List.mem_cons.1 e with rfl | e
  · have := hT.own
    unfold Blk at this
    rw [this] at ho
    cases ho
    cases ht
  · obtain ⟨o', h1, h2⟩ := lies_tree hT.lies k e
    rw [h1] at ho
    cases ho
    rw [h2] at ht
    cases ht
theorem ownT_new (w W : World) (hb : Below w.heap.size w W) : OwnT w W.heap.size [] (W.alloc (.cells #[.bool true, .pointer none, .int .i64 0] 73)) :=
  ⟨.nil, ⟨Blk.new _ _ _, trivial, trivial, by simp [Tr.blks]⟩, rfl, fun b hb' => by simp [Tr.blks] at hb'; subst hb'; exact hb.size, hb.trans ((box_below W _).mono hb.size)⟩
theorem newT_any (w W : World) (hb : Below w.heap.size w W) : Calls Try.prog 10 #[] W fun e w' => e = .returned (.pointer (some ⟨W.heap.size, 0, none⟩)) ∧ OwnT w W.heap.size [] w' ∧ Below W.heap.size W w' :=
  (new6_any W).mono fun _ _ ⟨h1, h2⟩ => ⟨h1, by rw [h2]; exact ownT_new w W hb, by rw [h2]; exact box_below _ _⟩
theorem putT_any (p : Key) (hp : p.length ≤ 32) (v : Int) (w : World) (g : Nat) (L : List (Key × Int)) (hcap : L.length ≤ 512) (hok : (getR L p).isSome = true ∨ L.length < 512) (W : World) (h : OwnT w g L W) :
    Calls Try.prog 19 #[.pointer (some ⟨g, 0, none⟩), pfx (kx p) (kn p), .int .i64 v] W fun e w' => e = .returned (.tuple #[.int .i64 (valO (getR L p)), .bool (getR L p).isSome, .int .i64 0]) ∧ OwnT w g (putL L p v) w' ∧ TreeOnly W w' := by
  obtain ⟨t, h1, rfl, h3, h4⟩ := h
  exact (put6_any t p hp v W g h1 hcap hok).mono fun _ _ ⟨he, hT⟩ => ⟨he, OwnT.turned h3 h4 hT, hT.only h1⟩
theorem putTFull_any (p : Key) (hp : p.length ≤ 32) (v : Int) (w : World) (g : Nat) (L : List (Key × Int)) (hcap : L.length = 512) (hno : getR L p = none) (W : World) (h : OwnT w g L W) :
    Calls Try.prog 19 #[.pointer (some ⟨g, 0, none⟩), pfx (kx p) (kn p), .int .i64 v] W fun e w' => e = .returned (.tuple #[.int .i64 0, .bool false, .int .i64 3]) ∧ OwnT w g L w' ∧ TreeOnly W w' := by
  have h' := h
  obtain ⟨t, h1, rfl, h3, h4⟩ := h
  exact (putFull_any t p hp v W g h1 hcap hno).mono fun _ _ ⟨he, hb⟩ => ⟨he, h'.below hb, .below hb⟩
theorem OwnT.noWay {w W : World} {g : Nat} {L : List (Key × Int)} (h : OwnT w g L W) {x n : Int} (hr : ¬ right x n) : NoWay (some ⟨g, 0, none⟩) x n W := by
  obtain ⟨t, h1, _⟩ := h
  exact .inr ⟨g, _, _, rfl, h1.own, hr⟩
theorem putTNo_any (x n : Int) (x0 : 0 ≤ x) (x1 : x < 4294967296) (hr : ¬ right x n) (v : Int) (w : World) (g : Nat) (L : List (Key × Int)) (W : World) (h : OwnT w g L W) :
    Calls Try.prog 19 #[.pointer (some ⟨g, 0, none⟩), pfx x n, .int .i64 v] W fun e w' => e = .returned (.tuple #[.int .i64 0, .bool false, .int .i64 2]) ∧ OwnT w g L w' ∧ TreeOnly W w' :=
  (putNo_any _ x n x0 x1 v W (h.noWay hr)).mono fun _ _ ⟨he, hb⟩ => ⟨he, h.below hb, .below hb⟩
theorem takeT_any (p : Key) (hp : p.length ≤ 32) (w : World) (g : Nat) (L : List (Key × Int)) (hcap : L.length ≤ 512) (W : World) (h : OwnT w g L W) :
    Calls Try.prog 25 #[.pointer (some ⟨g, 0, none⟩), pfx (kx p) (kn p)] W fun e w' => e = .returned (.tuple #[.int .i64 (valO (getR L p)), .bool (getR L p).isSome, .int .i64 0]) ∧ OwnT w g (takeL L p) w' ∧ TreeOnly W w' := by
  obtain ⟨t, h1, rfl, h3, h4⟩ := h
  exact (take6_any t p hp W g h1 hcap).mono fun _ _ ⟨he, hT⟩ => ⟨he, OwnT.turned h3 h4 hT, hT.only h1⟩
theorem takeTNo_any (x n : Int) (x0 : 0 ≤ x) (x1 : x < 4294967296) (hr : ¬ right x n) (w : World) (g : Nat) (L : List (Key × Int)) (W : World) (h : OwnT w g L W) :
    Calls Try.prog 25 #[.pointer (some ⟨g, 0, none⟩), pfx x n] W fun e w' => e = .returned (.tuple #[.int .i64 0, .bool false, .int .i64 2]) ∧ OwnT w g L w' ∧ TreeOnly W w' :=
  (takeNo_any _ x n x0 x1 W (h.noWay hr)).mono fun _ _ ⟨he, hb⟩ => ⟨he, h.below hb, .below hb⟩
theorem getT_any (p : Key) (hp : p.length ≤ 32) (w : World) (g : Nat) (L : List (Key × Int)) (W : World) (h : OwnT w g L W) :
    Calls Try.prog 12 #[.pointer (some ⟨g, 0, none⟩), pfx (kx p) (kn p)] W fun e w' => e = .returned (.tuple #[.int .i64 (valO (getR L p)), .bool (getR L p).isSome]) ∧ Below W.heap.size W w' := by
  obtain ⟨t, h1, rfl, h3, h4⟩ := h
  have := get_any t p hp W g h1
  rw [hit_rows h1.wf] at this
  exact this
theorem findT_any (p : Key) (hp : p.length = 32) (w : World) (g : Nat) (L : List (Key × Int)) (W : World) (h : OwnT w g L W) :
    Calls Try.prog 16 #[.pointer (some ⟨g, 0, none⟩), .int .u32 (kx p)] W fun e w' => e = .returned (.tuple #[pfx (lastR (L.filter (fun r => decide (r.1 <+: p)))).1.1 (lastR (L.filter (fun r => decide (r.1 <+: p)))).1.2, .int .i64 (lastR (L.filter (fun r => decide (r.1 <+: p)))).2.1, .bool (lastR (L.filter (fun r => decide (r.1 <+: p)))).2.2]) ∧ Below W.heap.size W w' := by
  obtain ⟨t, h1, rfl, h3, h4⟩ := h
  have := find_any t p hp W g h1
  rw [lastV_rows h1.wf] at this
  exact this
theorem lenT_any (w : World) (g : Nat) (L : List (Key × Int)) (W : World) (h : OwnT w g L W) : Calls Try.prog 26 #[.pointer (some ⟨g, 0, none⟩)] W fun e w' => e = .returned (.int .i64 L.length) ∧ W = w' := by
  obtain ⟨t, h1, rfl, h3, h4⟩ := h
  exact len6_any W g _ _ h1.own
theorem keys_fit {t : Tr} (hw : t.WF) (hcap : t.rows.length ≤ 512) : t.keys.length ≤ 2000 := by have := nodes_most hw; omega
theorem nodesT_any (w : World) (g : Nat) (L : List (Key × Int)) (hcap : L.length ≤ 512) (W : World) (h : OwnT w g L W) : Calls Try.prog 27 #[.pointer (some ⟨g, 0, none⟩)] W fun e w' => e = .returned (.int .i64 (skeys L).length) ∧ Below W.heap.size W w' := by
  obtain ⟨t, h1, rfl, h3, h4⟩ := h
  have := nodes6_any t W g h1 (keys_fit h1.wf hcap)
  rw [keys_rows h1.wf] at this
  exact this
theorem depthT'_any (w : World) (g : Nat) (L : List (Key × Int)) (hcap : L.length ≤ 512) (W : World) (h : OwnT w g L W) : Calls Try.prog 28 #[.pointer (some ⟨g, 0, none⟩)] W fun e w' => e = .returned (.int .i64 (depthK (skeys L) : Nat)) ∧ Below W.heap.size W w' := by
  obtain ⟨t, h1, rfl, h3, h4⟩ := h
  have := depthT_any t W g h1 (keys_fit h1.wf hcap)
  rw [depth_rows h1.wf] at this
  exact this
/-- What goes over rows. -/
def SeqR (W : World) (v : Value) (R : List (Key × Int)) : Prop := ∃ l, l.map snapR = R ∧ SeqAt W v l
theorem fromT_any (x n : Int) (w : World) (g : Nat) (L : List (Key × Int)) (hcap : L.length ≤ 512) (W : World) (h : OwnT w g L W) :
    Calls Try.prog 23 #[.pointer (some ⟨g, 0, none⟩), pfx x n] W fun e w' => ∃ v, e = .returned v ∧ SeqR w' v (L.filter (fun r => fromB x n r.1)) ∧ Below W.heap.size W w' := by
  obtain ⟨t, h1, rfl, h3, h4⟩ := h
  exact (from_any t x n W _ (.inr ⟨g, rfl, h1⟩) (keys_fit h1.wf hcap)).mono fun _ _ ⟨v, he, hs, hb⟩ => ⟨v, he, ⟨_, snaps_rows x n t, hs⟩, hb⟩
theorem snap_kv {t : Tr} {p : Key} : ((t.way p).map snapT).map snapR = (t.way p).map kvT := by
  rw [List.map_map]
  refine List.map_congr_left fun s _ => ?_
  cases s <;> rfl
theorem aboveT_any (p : Key) (hp : p.length ≤ 32) (w : World) (g : Nat) (L : List (Key × Int)) (W : World) (h : OwnT w g L W) :
    Calls Try.prog 18 #[.pointer (some ⟨g, 0, none⟩), pfx (kx p) (kn p)] W fun e w' => ∃ v, e = .returned v ∧ SeqR w' v (L.filter (fun r => decide (r.1 <+: p))) ∧ Below W.heap.size W w' := by
  obtain ⟨t, h1, rfl, h3, h4⟩ := h
  exact (above6_any t p hp W g h1).mono fun _ _ ⟨v, he, hs, hb⟩ => ⟨v, he, ⟨_, by rw [snap_kv, way_rows h1.wf], hs⟩, hb⟩
end T6
end Go.Proofs.Ytghkacciihocdaa

namespace Go.Proofs.Ytghkacciihocdaa
open Go Go.RowKit Go.Shelf Go.Sort
attribute [local go_sem] Oper.semAt_some
attribute [local irreducible] wpQuiet
namespace T6

def kA : Key := [false, false, false, false, true, false, true, false]
def kB : Key := kA ++ [false, false, false, false, false, false, false, true]
def kC : Key := kA ++ [false, false, false, false, false, false, true, false]
/-- 10.1.2.3, 10.9.9.9, 11.0.0.0. -/
def kF : Key := kB ++ [false, false, false, false, false, false, true, false, false, false, false, false, false, false, true, true]
def kG : Key := kA ++ [false, false, false, false, true, false, false, true, false, false, false, false, true, false, false, true, false, false, false, false, true, false, false, true]
def kH : Key := [false, false, false, false, true, false, true, true] ++ List.replicate 24 false
theorem kxA : kx kA = 167772160 := by decide
theorem kxB : kx kB = 167837696 := by decide
theorem kxC : kx kC = 167903232 := by decide
theorem kxF : kx kF = 167838211 := by decide
theorem kxG : kx kG = 168364297 := by decide
theorem kxH : kx kH = 184549376 := by decide
theorem knA : kn kA = 8 := by decide
theorem knB : kn kB = 16 := by decide
theorem knC : kn kC = 16 := by decide
def L1 : List (Key × Int) := [(kA, 1)]
def L2 : List (Key × Int) := [(kA, 1), (kB, 2)]
def L3 : List (Key × Int) := [(kA, 1), (kB, 2), (kC, 3)]
def L4 : List (Key × Int) := [(kA, 1), (kC, 3)]
theorem put1 : putL [] kA 1 = L1 := by decide
theorem put2 : putL L1 kB 2 = L2 := by decide
theorem put3 : putL L2 kC 3 = L3 := by decide
theorem take4 : takeL L3 kB = L4 := by decide
theorem get1 : getR [] kA = none := by decide
theorem get2 : getR L1 kB = none := by decide
theorem get3 : getR L2 kC = none := by decide
theorem get4 : getR L3 kB = some 2 := by decide
theorem nodes3 : (skeys L3).length = 4 := by decide
theorem deep3 : depthK (skeys L3) = 3 := by decide
theorem nodes4 : (skeys L4).length = 2 := by decide
theorem find1 : lastR (L3.filter (fun r => decide (r.1 <+: kF))) = ((167837696, 16), 2, true) := by decide
theorem find2 : lastR (L3.filter (fun r => decide (r.1 <+: kG))) = ((167772160, 8), 1, true) := by decide
theorem find3 : lastR (L3.filter (fun r => decide (r.1 <+: kH))) = ((0, 0), 0, false) := by decide
theorem find4 : lastR (L4.filter (fun r => decide (r.1 <+: kF))) = ((167772160, 8), 1, true) := by decide
set_option maxRecDepth 100000 in
set_option maxHeartbeats 6400000 in
theorem works6_any (w : World) : Calls Try.prog 9 #[] w fun e w' => e = .returned (.bool true) ∧ Below w.heap.size w w' := by
  have HN := Lib.hid (newT_any w w (Below.refl _ _))
  have H1 := Lib.hid (fun W hW => putT_any kA (by decide) 1 w w.heap.size [] (by decide) (.inr (by decide)) W hW)
  have H2 := Lib.hid (fun W hW => putT_any kB (by decide) 2 w w.heap.size L1 (by decide) (.inr (by decide)) W hW)
  have H3 := Lib.hid (fun W hW => putT_any kC (by decide) 3 w w.heap.size L2 (by decide) (.inr (by decide)) W hW)
  have H4 := Lib.hid (fun W hW => takeT_any kB (by decide) w w.heap.size L3 (by decide) W hW)
  have F1 := Lib.hid (fun W hW => findT_any kF (by decide) w w.heap.size L3 W hW)
  have F2 := Lib.hid (fun W hW => findT_any kG (by decide) w w.heap.size L3 W hW)
  have F3 := Lib.hid (fun W hW => findT_any kH (by decide) w w.heap.size L3 W hW)
  have F4 := Lib.hid (fun W hW => findT_any kF (by decide) w w.heap.size L4 W hW)
  have N3 := Lib.hid (fun W hW => nodesT_any w w.heap.size L3 (by decide) W hW)
  have D3 := Lib.hid (fun W hW => depthT'_any w w.heap.size L3 (by decide) W hW)
  have N4 := Lib.hid (fun W hW => nodesT_any w w.heap.size L4 (by decide) W hW)
  rw [kxA, knA, put1, get1] at H1
  rw [kxB, knB, put2, get2] at H2
  rw [kxC, knC, put3, get3] at H3
  rw [kxB, knB, take4, get4] at H4
  rw [kxF, find1] at F1
  rw [kxG, find2] at F2
  rw [kxH, find3] at F3
  rw [kxF, find4] at F4
  rw [nodes3] at N3
  rw [deep3] at D3
  rw [nodes4] at N4
  generalize hg : w.heap.size = g at HN H1 H2 H3 H4 F1 F2 F3 F4 N3 D3 N4
  go_enter Try.func9, Try.ntmps9
  go_wp2_with fail
  refine HN.out.mono ?_
  rintro e w1 ⟨rfl, ho1, hb1⟩
  have HO1 := Lib.hid ho1
  clear ho1 hb1 HN
  go_wp2_with fail
  refine (of6_any 167772160 8 _).mono ?_
  rintro e wa ⟨rfl, hba⟩
  have HOa := Lib.hid (HO1.out.below hba)
  clear hba HO1
  go_wp2_with fail
  refine (H1.out _ HOa.out).mono ?_
  rintro e w2 ⟨rfl, ho2, _⟩
  have HO2 := Lib.hid ho2
  clear ho2 HOa
  go_wp2_with fail
  refine (of6_any 167837696 16 _).mono ?_
  rintro e wa ⟨rfl, hba⟩
  have HOa := Lib.hid (HO2.out.below hba)
  clear hba HO2
  go_wp2_with fail
  refine (H2.out _ HOa.out).mono ?_
  rintro e w3 ⟨rfl, ho3, _⟩
  have HO3 := Lib.hid ho3
  clear ho3 HOa
  go_wp2_with fail
  refine (of6_any 167903232 16 _).mono ?_
  rintro e wa ⟨rfl, hba⟩
  have HOa := Lib.hid (HO3.out.below hba)
  clear hba HO3
  go_wp2_with fail
  refine (H3.out _ HOa.out).mono ?_
  rintro e w4 ⟨rfl, ho4, _⟩
  have HO4 := Lib.hid ho4
  clear ho4 HOa
  simp only [valO, Option.getD, Option.isSome] at *
  go_wp2_with fail
  refine (num6_any 0 _).mono ?_
  rintro e wx ⟨rfl, rfl⟩
  go_wp2_with fail
  refine (num6_any 0 _).mono ?_
  rintro e wx ⟨rfl, rfl⟩
  go_wp2_with fail
  refine (num6_any 0 _).mono ?_
  rintro e wx ⟨rfl, rfl⟩
  go_wp2_with fail
  refine (N3.out _ HO4.out).mono ?_
  rintro e w5 ⟨rfl, hb5⟩
  have HO5 := Lib.hid (HO4.out.below hb5)
  clear hb5 HO4
  go_wp2_with fail
  refine (D3.out _ HO5.out).mono ?_
  rintro e w6 ⟨rfl, hb6⟩
  have HO6 := Lib.hid (HO5.out.below hb6)
  clear hb6 HO5
  go_wp2_with fail
  refine (F1.out _ HO6.out).mono ?_
  rintro e w7 ⟨rfl, hb7⟩
  have HO7 := Lib.hid (HO6.out.below hb7)
  clear hb7 HO6
  have hp7 := Blk.new w7 34 #[.int .u32 167837696, .int .i64 16]
  have hb7x := box_below w7 (.cells #[.int .u32 167837696, .int .i64 16] 34)
  have HO8 := Lib.hid (HO7.out.below hb7x)
  have HP1 := Lib.hid hp7
  clear hp7 hb7x HO7
  dsimp only
  go_wp2_with fail
  generalize (w7.alloc (.cells #[.int .u32 167837696, .int .i64 16] 34)) = w8 at *
  generalize w7.heap.size = b1 at *
  refine (F2.out _ HO8.out).mono ?_
  rintro e w9 ⟨rfl, hb9⟩
  have HO9 := Lib.hid (HO8.out.below hb9)
  have HQ1 := Lib.hid (HP1.out.below hb9 HP1.out.lt)
  clear HP1
  have HP1 := HQ1
  clear HQ1
  clear hb9 HO8
  have hp9 := Blk.new w9 34 #[.int .u32 167772160, .int .i64 8]
  have hb9x := box_below w9 (.cells #[.int .u32 167772160, .int .i64 8] 34)
  have HO10 := Lib.hid (HO9.out.below hb9x)
  have HQ1 := Lib.hid (HP1.out.below hb9x HP1.out.lt)
  have HP2 := Lib.hid hp9
  clear HP1
  have HP1 := HQ1
  clear HQ1
  clear hp9 hb9x HO9
  dsimp only
  go_wp2_with fail
  generalize (w9.alloc (.cells #[.int .u32 167772160, .int .i64 8] 34)) = w10 at *
  generalize w9.heap.size = b2 at *
  refine (F3.out _ HO10.out).mono ?_
  rintro e w11 ⟨rfl, hb11⟩
  have HO11 := Lib.hid (HO10.out.below hb11)
  have HQ1 := Lib.hid (HP1.out.below hb11 HP1.out.lt)
  clear HP1
  have HP1 := HQ1
  clear HQ1
  have HQ2 := Lib.hid (HP2.out.below hb11 HP2.out.lt)
  clear HP2
  have HP2 := HQ2
  clear HQ2
  clear hb11 HO10
  have hp11 := Blk.new w11 34 #[.int .u32 0, .int .i64 0]
  have hb11x := box_below w11 (.cells #[.int .u32 0, .int .i64 0] 34)
  have HO12 := Lib.hid (HO11.out.below hb11x)
  have HQ1 := Lib.hid (HP1.out.below hb11x HP1.out.lt)
  have HQ2 := Lib.hid (HP2.out.below hb11x HP2.out.lt)
  have HP3 := Lib.hid hp11
  clear HP1
  have HP1 := HQ1
  clear HQ1
  clear HP2
  have HP2 := HQ2
  clear HQ2
  clear hp11 hb11x HO11
  dsimp only
  go_wp2_with fail
  generalize (w11.alloc (.cells #[.int .u32 0, .int .i64 0] 34)) = w12 at *
  generalize w11.heap.size = b3 at *
  refine (of6_any 167837696 16 _).mono ?_
  rintro e wa ⟨rfl, hba⟩
  have HOa := Lib.hid (HO12.out.below hba)
  have HQ1 := Lib.hid (HP1.out.below hba HP1.out.lt)
  have HQ2 := Lib.hid (HP2.out.below hba HP2.out.lt)
  clear hba HO12 HP1 HP2 HP3
  go_wp2_with fail
  refine (H4.out _ HOa.out).mono ?_
  rintro e w13 ⟨rfl, ho13, hto⟩
  have HO13 := Lib.hid ho13
  have HP1 := Lib.hid (hto.blk HQ1.out (by decide) (by decide))
  have HP2 := Lib.hid (hto.blk HQ2.out (by decide) (by decide))
  clear ho13 HOa hto HQ1 HQ2
  go_wp2_with fail
  refine (F4.out _ HO13.out).mono ?_
  rintro e w14 ⟨rfl, hb14⟩
  have HO14 := Lib.hid (HO13.out.below hb14)
  have HQ1 := Lib.hid (HP1.out.below hb14 HP1.out.lt)
  clear HP1
  have HP1 := HQ1
  clear HQ1
  have HQ2 := Lib.hid (HP2.out.below hb14 HP2.out.lt)
  clear HP2
  have HP2 := HQ2
  clear HQ2
  clear hb14 HO13
  have hp14 := Blk.new w14 34 #[.int .u32 167772160, .int .i64 8]
  have hb14x := box_below w14 (.cells #[.int .u32 167772160, .int .i64 8] 34)
  have HO15 := Lib.hid (HO14.out.below hb14x)
  have HQ1 := Lib.hid (HP1.out.below hb14x HP1.out.lt)
  have HQ2 := Lib.hid (HP2.out.below hb14x HP2.out.lt)
  have HP4 := Lib.hid hp14
  clear HP1
  have HP1 := HQ1
  clear HQ1
  clear HP2
  have HP2 := HQ2
  clear HQ2
  clear hp14 hb14x HO14
  dsimp only
  go_wp2_with fail
  generalize (w14.alloc (.cells #[.int .u32 167772160, .int .i64 8] 34)) = w15 at *
  generalize w14.heap.size = b4 at *
  have c10 := HP1.out.cell 0
  have c11 := HP1.out.cell 1
  have c20 := HP2.out.cell 0
  have c21 := HP2.out.cell 1
  have c40 := HP4.out.cell 0
  have c41 := HP4.out.cell 1
  simp only [List.getElem?_toArray, List.getElem?_cons_zero, List.getElem?_cons_succ] at c10 c11 c20 c21 c40 c41
  have k10 := cell_regrown c10
  have k11 := cell_regrown c11
  have k20 := cell_regrown c20
  have k21 := cell_regrown c21
  have k40 := cell_regrown c40
  have k41 := cell_regrown c41
  have eB : ∀ W, (binOp .eql 34 (pfx 167837696 16) (pfx 167837696 16)).run Try.prog W = .ok (.bool true) W := fun W => by rw [eqPfx_run]; rfl
  have eA : ∀ W, (binOp .eql 34 (pfx 167772160 8) (pfx 167772160 8)).run Try.prog W = .ok (.bool true) W := fun W => by rw [eqPfx_run]; rfl
  have cB : ∀ d os, Calls Try.prog 31 #[.int .u32 167837696, .int .i64 16] (grow (redrawn w15 d) os) fun e w'' => e = .returned (pfx 167837696 16) ∧ ∃ p : Regrown, w'' = grow (redrawn w15 p.d) p.os := fun d os => Calls.regrown_of (of6_any _ _ _)
  have cA : ∀ d os, Calls Try.prog 31 #[.int .u32 167772160, .int .i64 8] (grow (redrawn w15 d) os) fun e w'' => e = .returned (pfx 167772160 8) ∧ ∃ p : Regrown, w'' = grow (redrawn w15 p.d) p.os := fun d os => Calls.regrown_of (of6_any _ _ _)
  have cN : ∀ d os, Calls Try.prog 22 #[.int .i64 0] (grow (redrawn w15 d) os) fun e w'' => e = .returned (.int .i64 0) ∧ ∃ p : Regrown, w'' = grow (redrawn w15 p.d) p.os := fun d os => Calls.regrown_of ((num6_any _ _).mono fun _ _ ⟨he, hw⟩ => ⟨he, by rw [hw]; exact Below.refl _ _⟩)
  have cM : ∀ d os, Calls Try.prog 27 #[.pointer (some ⟨g, 0, none⟩)] (grow (redrawn w15 d) os) fun e w'' => e = .returned (.int .i64 2) ∧ ∃ p : Regrown, w'' = grow (redrawn w15 p.d) p.os := fun d os => Calls.regrown_of (N4.out _ (HO15.out.below (below_regrown w15 d os)))
  clear c10 c11 c20 c21 c40 c41
  refine wp_region_quiet_below (by kernel_rfl) (by kernel_rfl) ?_
  repeat (quiet_step (first | (with_reducible exact cB _ _) | (with_reducible exact cA _ _) | (with_reducible exact cN _ _) | (with_reducible exact cM _ _)))
  refine wpQuiet_nil ?_
  intro w16 hw16
  obtain ⟨⟨dq, osq⟩, rfl⟩ := hw16
  have HB := Lib.hid (HO15.out.bel.trans ((below_regrown w15 dq osq).mono HO15.out.bel.size))
  generalize grow (redrawn w15 dq) osq = w16 at *
  clear k10 k11 k20 k21 k40 k41 eA eB cA cB cN cM
  go_wp2_with fail
  go_ret
  refine ⟨rfl, ?_⟩
  rw [← hg]
  exact HB.out
end T6
end Go.Proofs.Ytghkacciihocdaa
