/- Merged by tools/merge.py: F1, F2. -/
import Derived.Test.YtghkacciihocdaaS6
import Derived.Test.YtghkacciihocdaaC8
namespace Go.Proofs.Ytghkacciihocdaa
namespace T6
/-- A prefix's bits. -/
abbrev Key := List Bool
/-- The order: bit by bit, the shorter one first. -/
def klt : Key → Key → Bool
  | _, [] => false
  | [], _ :: _ => true
  | a :: k, b :: l => if a = b then klt k l else b
/-- What two have in common. -/
def lcp : Key → Key → Key
  | a :: k, b :: l => if a = b then a :: lcp k l else []
  | _, _ => []
/-- The nodes: where it lies, its bits, whether it has a value, the value, the two beneath. -/
inductive Tr where
  | nil
  | node (b : Nat) (k : Key) (h : Bool) (v : Int) (l r : Tr)

theorem klt_irrefl : ∀ k : Key, klt k k = false
  | [] => rfl
  | a :: k => by simp [klt, klt_irrefl k]
theorem klt_trans : ∀ {a b c : Key}, klt a b = true → klt b c = true → klt a c = true
  | _, [], _, h, _ => by simp [klt] at h
  | _, _ :: _, [], _, h => by simp [klt] at h
  | [], _ :: _, _ :: _, _, _ => rfl
  | a :: k, b :: l, c :: m, h1, h2 => by
    simp only [klt] at h1 h2 ⊢
    cases a <;> cases b <;> cases c <;> simp_all
    · exact klt_trans h1 h2
    · exact klt_trans h1 h2
theorem klt_asymm {a b : Key} (h : klt a b = true) : klt b a = false := by
  cases hb : klt b a with
  | false => rfl
  | true => have := klt_trans h hb; rw [klt_irrefl] at this; cases this
theorem klt_total : ∀ {a b : Key}, klt a b = false → klt b a = false → a = b
  | [], [], _, _ => rfl
  | [], _ :: _, h, _ => by simp [klt] at h
  | _ :: _, [], _, h => by simp [klt] at h
  | a :: k, b :: l, h1, h2 => by
    simp only [klt] at h1 h2
    cases a <;> cases b <;> simp_all
    · exact klt_total h1 h2
    · exact klt_total h1 h2
theorem klt_ne {a b : Key} (h : klt a b = true) : a ≠ b := fun e => by subst e; rw [klt_irrefl] at h; cases h
/-- One within another stands behind it. -/
theorem klt_ext : ∀ (k : Key) (b : Bool) (m : Key), klt k (k ++ b :: m) = true
  | [], _, _ => rfl
  | a :: k, b, m => by simp [klt, klt_ext k b m]
/-- The sides: what goes on by false stands ahead of what goes on by true. -/
theorem klt_sides : ∀ (k m n : Key), klt (k ++ false :: m) (k ++ true :: n) = true
  | [], _, _ => by simp [klt]
  | a :: k, m, n => by simp [klt, klt_sides k m n]

theorem lcp_left : ∀ a b : Key, lcp a b <+: a
  | [], _ => by simp [lcp]
  | a :: k, [] => by simp [lcp]
  | a :: k, b :: l => by
    simp only [lcp]
    split
    · exact List.cons_prefix_cons.2 ⟨rfl, lcp_left k l⟩
    · exact List.nil_prefix
theorem lcp_comm : ∀ a b : Key, lcp a b = lcp b a
  | [], [] => rfl
  | [], _ :: _ => rfl
  | _ :: _, [] => rfl
  | a :: k, b :: l => by
    simp only [lcp, lcp_comm k l]
    by_cases h : a = b
    · subst h; rfl
    · rw [if_neg h, if_neg (fun e => h e.symm)]
theorem lcp_right (a b : Key) : lcp a b <+: b := lcp_comm a b ▸ lcp_left b a
theorem lcp_self : ∀ a : Key, lcp a a = a
  | [] => rfl
  | a :: k => by simp [lcp, lcp_self k]
theorem lcp_of_prefix : ∀ {a b : Key}, a <+: b → lcp a b = a
  | [], _, _ => by simp [lcp]
  | a :: k, [], h => by simp at h
  | a :: k, b :: l, h => by
    obtain ⟨rfl, h'⟩ := List.cons_prefix_cons.1 h
    show (if a = a then a :: lcp k l else []) = a :: k
    rw [if_pos rfl, lcp_of_prefix h']
theorem lcp_app : ∀ (k m n : Key), lcp (k ++ m) (k ++ n) = k ++ lcp m n
  | [], _, _ => rfl
  | a :: k, m, n => by simp [lcp, lcp_app k m n]
/-- The three ways: within, around, or they part. -/
theorem lcp_cases : ∀ a b : Key, a <+: b ∨ b <+: a ∨ ∃ c x m n, a = c ++ x :: m ∧ b = c ++ (!x) :: n ∧ lcp a b = c
  | [], _ => .inl List.nil_prefix
  | _ :: _, [] => .inr (.inl List.nil_prefix)
  | a :: k, b :: l => by
    by_cases h : a = b
    · subst h
      rcases lcp_cases k l with h | h | ⟨c, x, m, n, h1, h2, h3⟩
      · exact .inl (List.cons_prefix_cons.2 ⟨rfl, h⟩)
      · exact .inr (.inl (List.cons_prefix_cons.2 ⟨rfl, h⟩))
      · exact .inr (.inr ⟨a :: c, x, m, n, by simp [h1], by simp [h2], by simp [lcp, h3]⟩)
    · exact .inr (.inr ⟨[], a, k, l, rfl, by cases a <;> cases b <;> simp_all, by simp [lcp, h]⟩)

/-- The prefixes with values, in order. -/
def Tr.rows : Tr → List (Key × Int)
  | .nil => []
  | .node _ k h v l r => (if h then [(k, v)] else []) ++ (l.rows ++ r.rows)
/-- All nodes' bits, in order. -/
def Tr.keys : Tr → List Key
  | .nil => []
  | .node _ k _ _ l r => k :: (l.keys ++ r.keys)
def Tr.depth : Tr → Nat
  | .nil => 0
  | .node _ _ _ _ l r => 1 + max l.depth r.depth
/-- Where its nodes lie. -/
def Tr.blks : Tr → List Nat
  | .nil => []
  | .node b _ _ _ l r => b :: (l.blks ++ r.blks)
/-- All of it is within q. -/
def Tr.Ext (q : Key) (t : Tr) : Prop := ∀ k ∈ t.keys, q <+: k
def Tr.WF : Tr → Prop
  | .nil => True
  | .node _ k h _ l r => k.length ≤ 32 ∧ l.WF ∧ r.WF ∧ l.Ext (k ++ [false]) ∧ r.Ext (k ++ [true]) ∧ (h = true ∨ (l ≠ .nil ∧ r ≠ .nil))

theorem ext_nil (q : Key) : Tr.nil.Ext q := fun k h => by simp [Tr.keys] at h
theorem ext_node {q : Key} {b : Nat} {k : Key} {h : Bool} {v : Int} {l r : Tr} : (Tr.node b k h v l r).Ext q ↔ q <+: k ∧ l.Ext q ∧ r.Ext q := by
  simp only [Tr.Ext, Tr.keys, List.mem_cons, List.mem_append]
  exact ⟨fun H => ⟨H _ (.inl rfl), fun k h => H k (.inr (.inl h)), fun k h => H k (.inr (.inr h))⟩, fun ⟨h1, h2, h3⟩ k hk => by
    rcases hk with rfl | hk | hk
    · exact h1
    · exact h2 k hk
    · exact h3 k hk⟩
theorem Tr.Ext.mono {q q' : Key} {t : Tr} (h : t.Ext q) (hq : q' <+: q) : t.Ext q' := fun k hk => hq.trans (h k hk)
/-- A whole one is within what its first node is within. -/
theorem ext_of_top {b : Nat} {k : Key} {h : Bool} {v : Int} {l r : Tr} (hw : (Tr.node b k h v l r).WF) {q : Key} (hq : q <+: k) : (Tr.node b k h v l r).Ext q :=
  ext_node.2 ⟨hq, hw.2.2.2.1.mono (hq.trans ⟨[false], rfl⟩), hw.2.2.2.2.1.mono (hq.trans ⟨[true], rfl⟩)⟩
theorem rows_keys {t : Tr} {r : Key × Int} (h : r ∈ t.rows) : r.1 ∈ t.keys := by
  induction t with
  | nil => simp [Tr.rows] at h
  | node b k hh v l r' ihl ihr =>
    simp only [Tr.rows, List.mem_append] at h
    simp only [Tr.keys, List.mem_cons, List.mem_append]
    rcases h with h | h | h
    · split at h
      · simp at h; subst h; exact .inl rfl
      · simp at h
    · exact .inr (.inl (ihl h))
    · exact .inr (.inr (ihr h))
theorem ext_side {k : Key} {b : Bool} {q : Key} (h : k ++ [b] <+: q) : ∃ m, q = k ++ b :: m := by
  obtain ⟨m, rfl⟩ := h
  exact ⟨m, by simp⟩
theorem keys_sorted : ∀ {t : Tr}, t.WF → t.keys.Pairwise (fun a b => klt a b = true)
  | .nil, _ => List.Pairwise.nil
  | .node b k h v l r, hw => by
    obtain ⟨_, hl, hr, el, er, _⟩ := hw
    refine List.pairwise_cons.2 ⟨fun q hq => ?_, List.pairwise_append.2 ⟨keys_sorted hl, keys_sorted hr, fun a ha c hc => ?_⟩⟩
    · rcases List.mem_append.1 hq with hq | hq
      · obtain ⟨m, rfl⟩ := ext_side (el q hq); exact klt_ext _ _ _
      · obtain ⟨m, rfl⟩ := ext_side (er q hq); exact klt_ext _ _ _
    · obtain ⟨m, rfl⟩ := ext_side (el a ha)
      obtain ⟨n, rfl⟩ := ext_side (er c hc)
      exact klt_sides _ _ _
theorem rows_sub : ∀ t : Tr, (t.rows.map (·.1)).Sublist t.keys
  | .nil => List.Sublist.refl _
  | .node b k h v l r => by
    simp only [Tr.rows, Tr.keys, List.map_append]
    have := List.Sublist.append (rows_sub l) (rows_sub r)
    cases h
    · simpa using this.cons k
    · simpa using this.cons_cons k
theorem rows_sorted {t : Tr} (hw : t.WF) : t.rows.Pairwise (fun a b => klt a.1 b.1 = true) := List.pairwise_map.1 ((keys_sorted hw).sublist (rows_sub t))
/-- Two sorted lists with the same members are one. -/
theorem sorted_ext {α : Type} (lt : α → α → Bool) (hirr : ∀ a, lt a a = false) (has : ∀ a b, lt a b = true → lt b a = false) : ∀ {l m : List α}, l.Pairwise (fun a b => lt a b = true) → m.Pairwise (fun a b => lt a b = true) → (∀ x, x ∈ l ↔ x ∈ m) → l = m
  | [], [], _, _, _ => rfl
  | [], b :: m, _, _, h => by have := (h b).2 (by simp); simp at this
  | a :: l, [], _, _, h => by have := (h a).1 (by simp); simp at this
  | a :: l, b :: m, hl, hm, h => by
    obtain ⟨hl1, hl2⟩ := List.pairwise_cons.1 hl
    obtain ⟨hm1, hm2⟩ := List.pairwise_cons.1 hm
    have e : a = b := by
      rcases List.mem_cons.1 ((h a).1 (by simp)) with e | e
      · exact e
      · rcases List.mem_cons.1 ((h b).2 (by simp)) with e2 | e2
        · exact e2.symm
        · have h1 := hm1 a e
          have h2 := hl1 b e2
          rw [has _ _ h1] at h2; cases h2
    subst e
    congr 1
    refine sorted_ext lt hirr has hl2 hm2 fun x => ⟨fun hx => ?_, fun hx => ?_⟩
    · rcases List.mem_cons.1 ((h x).1 (by simp [hx])) with e | e
      · subst e; have := hl1 _ hx; rw [hirr] at this; cases this
      · exact e
    · rcases List.mem_cons.1 ((h x).2 (by simp [hx])) with e | e
      · subst e; have := hm1 _ hx; rw [hirr] at this; cases this
      · exact e
/-- Rows in order. -/
def SRow (l : List (Key × Int)) : Prop := l.Pairwise (fun a b => klt a.1 b.1 = true)
theorem srow_ext {l m : List (Key × Int)} (hl : SRow l) (hm : SRow m) (h : ∀ x, x ∈ l ↔ x ∈ m) : l = m :=
  sorted_ext (fun a b : Key × Int => klt a.1 b.1) (fun _ => klt_irrefl _) (fun _ _ => klt_asymm) hl hm h
/-- No prefix has two values. -/
theorem srow_one {l : List (Key × Int)} (h : SRow l) {k : Key} {u v : Int} (h1 : (k, u) ∈ l) (h2 : (k, v) ∈ l) : u = v := by
  induction l with
  | nil => simp at h1
  | cons a l ih =>
    obtain ⟨ha, hl⟩ := List.pairwise_cons.1 h
    rcases List.mem_cons.1 h1 with e1 | e1 <;> rcases List.mem_cons.1 h2 with e2 | e2
    · rw [← e1] at e2; injection e2 with _ e2; exact e2.symm
    · have := ha _ e2; rw [← e1] at this; simp [klt_irrefl] at this
    · have := ha _ e1; rw [← e2] at this; simp [klt_irrefl] at this
    · exact ih hl e1 e2
theorem rows_ne_nil {t : Tr} (hw : t.WF) (hn : t ≠ .nil) : t.rows ≠ [] := by
  induction t with
  | nil => exact absurd rfl hn
  | node b k h v l r ihl ihr =>
    obtain ⟨_, hl, hr, _, _, ho⟩ := hw
    rcases ho with rfl | ⟨h1, _⟩
    · simp [Tr.rows]
    · simp [Tr.rows, ihl hl h1]

/-- The nodes are what each two prefixes have in common. -/
theorem keys_iff {t : Tr} (hw : t.WF) (q : Key) : q ∈ t.keys ↔ ∃ a ∈ t.rows, ∃ b ∈ t.rows, lcp a.1 b.1 = q := by
  induction t generalizing q with
  | nil => simp [Tr.keys, Tr.rows]
  | node b k h v l r ihl ihr =>
    have hw0 := hw
    obtain ⟨_, hl, hr, el, er, ho⟩ := hw
    simp only [Tr.keys, List.mem_cons, List.mem_append]
    constructor
    · rintro (rfl | hq | hq)
      · rcases ho with rfl | ⟨h1, h2⟩
        · exact ⟨(q, v), by simp [Tr.rows], (q, v), by simp [Tr.rows], lcp_self _⟩
        · obtain ⟨x, hx⟩ := List.exists_mem_of_ne_nil _ (rows_ne_nil hl h1)
          obtain ⟨y, hy⟩ := List.exists_mem_of_ne_nil _ (rows_ne_nil hr h2)
          refine ⟨x, by simp [Tr.rows, hx], y, by simp [Tr.rows, hy], ?_⟩
          obtain ⟨m, em⟩ := ext_side (el _ (rows_keys hx))
          obtain ⟨n, en⟩ := ext_side (er _ (rows_keys hy))
          rw [em, en, lcp_app]; simp [lcp]
      · obtain ⟨a, ha, c, hc, e⟩ := (ihl hl q).1 hq
        exact ⟨a, by simp [Tr.rows, ha], c, by simp [Tr.rows, hc], e⟩
      · obtain ⟨a, ha, c, hc, e⟩ := (ihr hr q).1 hq
        exact ⟨a, by simp [Tr.rows, ha], c, by simp [Tr.rows, hc], e⟩
    · rintro ⟨a, ha, c, hc, rfl⟩
      have side : ∀ x : Key × Int, x ∈ (Tr.node b k h v l r).rows → x.1 = k ∨ x ∈ l.rows ∨ x ∈ r.rows := fun x hx => by
        simp only [Tr.rows, List.mem_append] at hx
        rcases hx with hx | hx | hx
        · split at hx
          · simp at hx; exact .inl (by rw [hx])
          · simp at hx
        · exact .inr (.inl hx)
        · exact .inr (.inr hx)
      have ek : ∀ x : Key × Int, x ∈ (Tr.node b k h v l r).rows → k <+: x.1 := fun x hx => ext_of_top hw0 (List.prefix_refl _) _ (rows_keys hx)
      rcases side a ha with e | h1 | h1
      · rw [e, lcp_of_prefix (ek c hc)]; exact .inl rfl
      · rcases side c hc with e | h2 | h2
        · rw [e, lcp_comm, lcp_of_prefix (ek a ha)]; exact .inl rfl
        · exact .inr (.inl ((ihl hl _).2 ⟨a, h1, c, h2, rfl⟩))
        · obtain ⟨m, em⟩ := ext_side (el _ (rows_keys h1))
          obtain ⟨n, en⟩ := ext_side (er _ (rows_keys h2))
          rw [em, en, lcp_app]; exact .inl (by simp [lcp])
      · rcases side c hc with e | h2 | h2
        · rw [e, lcp_comm, lcp_of_prefix (ek a ha)]; exact .inl rfl
        · obtain ⟨m, em⟩ := ext_side (er _ (rows_keys h1))
          obtain ⟨n, en⟩ := ext_side (el _ (rows_keys h2))
          rw [em, en, lcp_app]; exact .inl (by simp [lcp])
        · exact .inr (.inr ((ihr hr _).2 ⟨a, h1, c, h2, rfl⟩))

/-- The depth: the most that lie on the way to one. -/
def around (l : List Key) (q : Key) : Nat := l.countP (fun k => decide (k <+: q))
theorem around_none {t : Tr} {k q : Key} {x : Bool} (he : t.Ext (k ++ [x])) (hq : k ++ [!x] <+: q) : around t.keys q = 0 := by
  refine List.countP_eq_zero.2 fun a ha => ?_
  simp only [decide_eq_true_eq]
  intro h
  obtain ⟨m, em⟩ := ext_side (he a ha)
  obtain ⟨n, en⟩ := ext_side hq
  subst em; subst en
  rw [List.prefix_append_right_inj] at h
  have := (List.cons_prefix_cons.1 h).1
  cases x <;> simp at this
theorem around_le {t : Tr} (hw : t.WF) : ∀ q ∈ t.keys, around t.keys q ≤ t.depth := by
  induction t with
  | nil => simp [Tr.keys]
  | node b k h v l r ihl ihr =>
    obtain ⟨_, hl, hr, el, er, ho⟩ := hw
    intro q hq
    have e0 : around (Tr.node b k h v l r).keys q = (if k <+: q then 1 else 0) + (around l.keys q + around r.keys q) := by
      simp only [around, Tr.keys, List.countP_cons, List.countP_append, decide_eq_true_eq]; omega
    rw [e0]
    have hd : (Tr.node b k h v l r).depth = 1 + max l.depth r.depth := rfl
    simp only [Tr.keys, List.mem_cons, List.mem_append] at hq
    rcases hq with rfl | hq | hq
    · have h1 : around l.keys q = 0 := List.countP_eq_zero.2 fun a ha => by
        obtain ⟨m, em⟩ := ext_side (el a ha)
        subst em
        simp only [decide_eq_true_eq]
        intro hh
        have := hh.length_le
        simp only [List.length_append, List.length_cons] at this
        omega
      have h2 : around r.keys q = 0 := List.countP_eq_zero.2 fun a ha => by
        obtain ⟨m, em⟩ := ext_side (er a ha)
        subst em
        simp only [decide_eq_true_eq]
        intro hh
        have := hh.length_le
        simp only [List.length_append, List.length_cons] at this
        omega
      rw [h1, h2]; split <;> omega
    · have h2 := around_none (x := true) er (el q hq)
      have h1 := ihl hl q hq
      rw [h2]; split <;> omega
    · have h2 := around_none (x := false) el (er q hq)
      have h1 := ihr hr q hq
      rw [h2]; split <;> omega
theorem around_top {t : Tr} (hw : t.WF) (hn : t ≠ .nil) : ∃ q ∈ t.keys, around t.keys q = t.depth := by
  induction t with
  | nil => exact absurd rfl hn
  | node b k h v l r ihl ihr =>
    obtain ⟨_, hl, hr, el, er, ho⟩ := hw
    have e0 : ∀ q, around (Tr.node b k h v l r).keys q = (if k <+: q then 1 else 0) + (around l.keys q + around r.keys q) := fun q => by
      simp only [around, Tr.keys, List.countP_cons, List.countP_append, decide_eq_true_eq]; omega
    have hd : (Tr.node b k h v l r).depth = 1 + max l.depth r.depth := rfl
    by_cases hz : l = .nil ∧ r = .nil
    · obtain ⟨rfl, rfl⟩ := hz
      exact ⟨k, by simp [Tr.keys], by rw [e0, if_pos (List.prefix_refl _)]; simp [around, Tr.keys, Tr.depth]⟩
    · have left : l ≠ .nil → ∃ q ∈ l.keys, around (Tr.node b k h v l r).keys q = 1 + l.depth := fun hx => by
        obtain ⟨q, hq, e⟩ := ihl hl hx
        refine ⟨q, hq, ?_⟩
        have h2 := around_none (x := true) er (el q hq)
        rw [e0, if_pos (List.IsPrefix.trans ⟨[false], rfl⟩ (el q hq)), h2, e]; rfl
      have right : r ≠ .nil → ∃ q ∈ r.keys, around (Tr.node b k h v l r).keys q = 1 + r.depth := fun hx => by
        obtain ⟨q, hq, e⟩ := ihr hr hx
        refine ⟨q, hq, ?_⟩
        have h2 := around_none (x := false) el (er q hq)
        rw [e0, if_pos (List.IsPrefix.trans ⟨[true], rfl⟩ (er q hq)), h2, e, Nat.zero_add]
      have dz : ∀ t : Tr, t ≠ .nil → 0 < t.depth := fun t ht => by cases t with | nil => exact absurd rfl ht | node => simp [Tr.depth]; omega
      rw [hd]
      by_cases hlr : r.depth ≤ l.depth
      · have hln : l ≠ .nil := fun e => by
          subst e
          by_cases hrn : r = .nil
          · exact hz ⟨rfl, hrn⟩
          · have := dz r hrn; simp [Tr.depth] at hlr; omega
        obtain ⟨q, hq, e⟩ := left hln
        exact ⟨q, by simp [Tr.keys, hq], by rw [e, Nat.max_eq_left hlr]⟩
      · have hrn : r ≠ .nil := fun e => by subst e; simp [Tr.depth] at hlr
        obtain ⟨q, hq, e⟩ := right hrn
        exact ⟨q, by simp [Tr.keys, hq], by rw [e, Nat.max_eq_right (by omega)]⟩
/-- How many nodes there are at most, and how deep they lie. -/
theorem nodes_most {t : Tr} (hw : t.WF) : t.keys.length ≤ 2 * t.rows.length - 1 := by
  suffices h : t ≠ .nil → t.keys.length + 1 ≤ 2 * t.rows.length by
    cases t with
    | nil => simp [Tr.keys]
    | node => have := h (by simp); omega
  intro hn
  induction t with
  | nil => exact absurd rfl hn
  | node b k h v l r ihl ihr =>
    obtain ⟨_, hl, hr, _, _, ho⟩ := hw
    have z : ∀ t : Tr, (t ≠ .nil → t.keys.length + 1 ≤ 2 * t.rows.length) → t.keys.length ≤ 2 * t.rows.length := fun t ht => by
      cases t with
      | nil => simp [Tr.keys]
      | node => have := ht (by simp); omega
    simp only [Tr.keys, Tr.rows, List.length_cons, List.length_append]
    rcases ho with rfl | ⟨h1, h2⟩
    · have a1 := z l (ihl hl); have a2 := z r (ihr hr)
      simp; omega
    · have a1 := ihl hl h1; have a2 := ihr hr h2
      omega
theorem nodes_least (t : Tr) : t.rows.length ≤ t.keys.length := by
  have := (rows_sub t).length_le
  simpa using this
theorem depth_most {t : Tr} (hw : t.WF) : t.depth ≤ 33 := by
  suffices h : ∀ q : Key, t.Ext q → t ≠ .nil → t.depth + q.length ≤ 33 by
    cases t with
    | nil => simp [Tr.depth]
    | node => have := h [] (fun _ _ => List.nil_prefix) (by simp); simpa using this
  induction t with
  | nil => exact fun _ _ h => (absurd rfl h)
  | node b k h v l r ihl ihr =>
    intro q hq _
    obtain ⟨hk, hl, hr, el, er, ho⟩ := hw
    have hqk := ((ext_node.1 hq).1).length_le
    have hd : (Tr.node b k h v l r).depth = 1 + max l.depth r.depth := rfl
    have a1 : l.depth + k.length ≤ 32 := by
      by_cases hn : l = .nil
      · subst hn; simp [Tr.depth]; exact hk
      · have := ihl hl _ el hn; simp at this; omega
    have a2 : r.depth + k.length ≤ 32 := by
      by_cases hn : r = .nil
      · subst hn; simp [Tr.depth]; exact hk
      · have := ihr hr _ er hn; simp at this; omega
    rw [hd]; omega
theorem depth_zero {t : Tr} (hw : t.WF) : t.depth = 0 ↔ t.rows.length = 0 := by
  cases t with
  | nil => simp [Tr.depth, Tr.rows]
  | node b k h v l r =>
    have := rows_ne_nil hw (by simp)
    constructor
    · intro e; simp [Tr.depth] at e
    · intro e; exact absurd (List.eq_nil_of_length_eq_zero e) this
end T6
end Go.Proofs.Ytghkacciihocdaa

namespace Go.Proofs.Ytghkacciihocdaa
open Go Go.RowKit
namespace T6

/-- The number of bits that stand at the head of so many. -/
def vb : Key → Nat → Int
  | [], _ => 0
  | b :: k, d => (if b then ((2 ^ (d - 1) : Nat) : Int) else 0) + vb k (d - 1)
/-- The address, the length. -/
def kx (k : Key) : Int := vb k 32
def kn (k : Key) : Int := (k.length : Int)
def kp (k : Key) : Int × Int := (kx k, kn k)

theorem vb_range : ∀ (k : Key) (d : Nat), k.length ≤ d → 0 ≤ vb k d ∧ vb k d < ((2 ^ d : Nat) : Int)
  | [], d, _ => ⟨Int.le_refl _, by have := Nat.two_pow_pos d; simp only [vb]; omega⟩
  | b :: k, 0, h => by simp at h
  | b :: k, d + 1, h => by
    have ih := vb_range k d (by simpa using h)
    have e : 2 ^ (d + 1) = 2 ^ d * 2 := Nat.pow_succ 2 d
    simp only [vb, Nat.add_sub_cancel]
    split <;> omega
theorem kx_range {k : Key} (h : k.length ≤ 32) : 0 ≤ kx k ∧ kx k < 4294967296 := by
  have := vb_range k 32 h
  exact ⟨this.1, by have := this.2; simp at this; exact this⟩
/-- Its i-th bit. -/
theorem vb_bit : ∀ (k : Key) (d i : Nat), k.length ≤ d → i < d → vb k d / ((2 ^ (d - 1 - i) : Nat) : Int) % 2 = if k[i]? = some true then 1 else 0
  | [], d, i, _, _ => by simp [vb]
  | b :: k, 0, _, h, _ => by simp at h
  | b :: k, d + 1, 0, h, _ => by
    have ih := vb_range k d (by simpa using h)
    have hp := Nat.two_pow_pos d
    simp only [vb, Nat.add_sub_cancel, Nat.sub_zero, List.getElem?_cons_zero]
    generalize ((2 ^ d : Nat) : Int) = m at *
    cases b
    · simp only [Bool.false_eq_true, if_false, Int.zero_add]
      rw [Int.ediv_eq_zero_of_lt ih.1 ih.2]; simp
    · simp only [if_true]
      have : (m + vb k d) / m = 1 := by
        rw [Int.add_ediv_of_dvd_left (Int.dvd_refl m), Int.ediv_self (by omega), Int.ediv_eq_zero_of_lt ih.1 ih.2]; rfl
      rw [this]; rfl
  | b :: k, d + 1, i + 1, h, hi => by
    have ih := vb_bit k d i (by simpa using h) (by omega)
    simp only [vb, Nat.add_sub_cancel, List.getElem?_cons_succ]
    rw [← ih]
    have e : d - (i + 1) = d - 1 - i := by omega
    rw [e]
    have e2 : 2 ^ d = 2 ^ (d - 1 - i) * (2 ^ i * 2) := by
      rw [← Nat.pow_succ, ← Nat.pow_add]; congr 1; omega
    have hp := Nat.two_pow_pos (d - 1 - i)
    generalize 2 ^ (d - 1 - i) = m at *
    cases b
    · simp
    · simp only [if_true]
      rw [e2]
      have : (((m * (2 ^ i * 2) : Nat) : Int) + vb k d) = vb k d + (m : Int) * ((2 ^ i * 2 : Nat) : Int) := by push_cast; omega
      rw [this, Int.add_mul_ediv_left _ _ (by omega)]
      push_cast
      rw [Int.add_mul_emod_self_right]
theorem kx_bit {k : Key} {i : Nat} (h : k.length ≤ 32) (hi : i < 32) : bitN (kx k) i = if k[i]? = some true then 1 else 0 := by
  rw [← vb_bit k 32 i h hi]
  unfold bitN top wgt kx
  have e : 32 - (i + 1) = 32 - 1 - i := by omega
  rw [e]
theorem kp_right {k : Key} (h : k.length ≤ 32) : right (kx k) (kn k) := by
  refine ⟨by unfold kn; omega, by unfold kn; omega, ?_⟩
  have : (kn k).toNat = k.length := by unfold kn; omega
  rw [this, cut_iff _ _ h]
  intro i h1 h2
  rw [kx_bit h h2, List.getElem?_eq_none h1]; simp
/-- The bits of a prefix. -/
def bitsOf (x n : Int) : Key := (List.range n.toNat).map (fun i => decide (bitN x i = 1))
theorem bitsOf_len (x n : Int) : (bitsOf x n).length = n.toNat := by simp [bitsOf]
theorem same_bits {a b : Int} (ha0 : 0 ≤ a) (ha1 : a < 4294967296) (hb0 : 0 ≤ b) (hb1 : b < 4294967296) (h : ∀ i, i < 32 → bitN a i = bitN b i) : a = b := by
  have := (top_same a b ha0 ha1 hb0 hb1 32 (Nat.le_refl _)).2 h
  rwa [top_last, top_last] at this
theorem kp_bitsOf {x n : Int} (x0 : 0 ≤ x) (x1 : x < 4294967296) (h : right x n) : kx (bitsOf x n) = x ∧ kn (bitsOf x n) = n ∧ (bitsOf x n).length ≤ 32 := by
  have h0 := h.1
  have h1 := h.2.1
  have hl : (bitsOf x n).length ≤ 32 := by rw [bitsOf_len]; omega
  refine ⟨?_, by unfold kn; rw [bitsOf_len]; omega, hl⟩
  refine same_bits (kx_range hl).1 (kx_range hl).2 x0 x1 fun i hi => ?_
  rw [kx_bit hl hi]
  have hr := bitN_range x i
  by_cases hin : i < n.toNat
  · simp only [bitsOf, List.getElem?_map, List.getElem?_range hin, Option.map_some, Option.some.injEq, decide_eq_true_eq]
    split <;> omega
  · rw [List.getElem?_eq_none (by rw [bitsOf_len]; omega), (cut_iff x n.toNat (by omega)).1 h.2.2 i (by omega) hi]; simp
theorem bool_of {a b : Option Bool} (h : (if a = some true then (1 : Int) else 0) = if b = some true then 1 else 0) (ha : a.isSome = true) (hb : b.isSome = true) : a = b := by
  cases a with
  | none => simp at ha
  | some a => cases b with
    | none => simp at hb
    | some b => cases a <;> cases b <;> simp at h ⊢
theorem kp_inj {a b : Key} (ha : a.length ≤ 32) (hb : b.length ≤ 32) (h : kx a = kx b) (hl : kn a = kn b) : a = b := by
  have hl' : a.length = b.length := by unfold kn at hl; omega
  refine List.ext_getElem? fun i => ?_
  by_cases hi : i < a.length
  · have h1 := kx_bit ha (i := i) (by omega)
    rw [h, kx_bit hb (by omega)] at h1
    exact (bool_of h1 (by simp; omega) (by simp; omega)).symm
  · rw [List.getElem?_eq_none (by omega), List.getElem?_eq_none (by omega)]
/-- The order. -/
theorem vb_less : ∀ (a b : Key) (d : Nat), a.length ≤ d → b.length ≤ d → (klt a b = true ↔ vb a d < vb b d ∨ (vb a d = vb b d ∧ a.length < b.length))
  | a, [], d, ha, _ => by
    have := (vb_range a d ha).1
    simp only [klt, vb, List.length_nil]
    constructor
    · intro h; cases h
    · intro h; omega
  | [], b :: l, d, _, hb => by
    have := (vb_range (b :: l) d hb).1
    simp only [klt, List.length_nil, List.length_cons, true_iff]
    have e : vb [] d = 0 := rfl
    rw [e]
    omega
  | a :: k, b :: l, 0, ha, _ => by simp at ha
  | a :: k, b :: l, d + 1, ha, hb => by
    have ih := vb_less k l d (by simpa using ha) (by simpa using hb)
    have h1 := vb_range k d (by simpa using ha)
    have h2 := vb_range l d (by simpa using hb)
    simp only [klt, vb, Nat.add_sub_cancel, List.length_cons]
    cases a <;> cases b
    · simp only [if_true, Bool.false_eq_true, if_false]; rw [ih]; omega
    · simp only [Bool.false_eq_true, if_false, if_true]
      constructor
      · intro _; left; omega
      · intro _; simp
    · simp only [Bool.true_eq_false, Bool.false_eq_true, if_false, if_true]
      constructor
      · intro h; cases h
      · intro h; omega
    · simp only [if_true]; rw [ih]; omega
theorem ord_klt {a b : Key} (ha : a.length ≤ 32) (hb : b.length ≤ 32) : ordF (kx a) (kn a) (kx b) (kn b) < 0 ↔ klt a b = true := by
  rw [vb_less a b 32 ha hb]
  have h := @ord_less (kx a) (kn a) (kx b) (kn b)
  have hv : ordF (kx a) (kn a) (kx b) (kn b) < 0 ↔ ordF (kx a) (kn a) (kx b) (kn b) = -1 := by
    unfold ordF
    split
    · omega
    · split <;> omega
  rw [hv, h]
  unfold kx kn
  omega
/-- Who is in whom. -/
theorem has_pre {a b : Key} (ha : a.length ≤ 32) (hb : b.length ≤ 32) (hl : a.length ≤ b.length) : hasP (kx a) (kn a) (kx b) ↔ a <+: b := by
  have e : (kn a).toNat = a.length := by unfold kn; omega
  have ra := kx_range ha
  have rb := kx_range hb
  unfold hasP
  rw [e, top_same _ _ ra.1 ra.2 rb.1 rb.2 a.length ha]
  constructor
  · rintro ⟨_, h⟩
    rw [List.prefix_iff_getElem?]
    intro i hi
    have h1 := h i hi
    rw [kx_bit ha (by omega), kx_bit hb (by omega)] at h1
    rw [← bool_of h1 (by simp; omega) (by simp; omega)]
    exact List.getElem?_eq_getElem hi
  · intro h
    refine ⟨kp_right ha, fun i hi => ?_⟩
    rw [kx_bit ha (by omega), kx_bit hb (by omega)]
    rw [(List.prefix_iff_getElem?.1 h) i hi, List.getElem?_eq_getElem hi]
/-- How two stand. -/
theorem stand_pre {a b : Key} (ha : a.length ≤ 32) (hb : b.length ≤ 32) : standF (kx a) (kn a) (kx b) (kn b) = if a = b then 1 else if b <+: a then 2 else if a <+: b then 3 else 4 := by
  unfold standF
  by_cases h : a = b
  · subst h; rw [if_pos ⟨rfl, rfl⟩, if_pos rfl]
  · rw [if_neg (fun e => h (kp_inj ha hb e.1 e.2)), if_neg h]
    have e1 : (kn b ≤ kn a ∧ hasP (kx b) (kn b) (kx a)) ↔ b <+: a := by
      constructor
      · rintro ⟨h1, h2⟩
        exact (has_pre hb ha (by unfold kn at h1; omega)).1 h2
      · intro hp
        have := hp.length_le
        exact ⟨by unfold kn; omega, (has_pre hb ha this).2 hp⟩
    have e2 : (kn a ≤ kn b ∧ hasP (kx a) (kn a) (kx b)) ↔ a <+: b := by
      constructor
      · rintro ⟨h1, h2⟩
        exact (has_pre ha hb (by unfold kn at h1; omega)).1 h2
      · intro hp
        have := hp.length_le
        exact ⟨by unfold kn; omega, (has_pre ha hb this).2 hp⟩
    simp only [e1, e2]
theorem takeWhile_range {n m : Nat} {f : Nat → Bool} (hm : m ≤ n) (h1 : ∀ i, i < m → f i = true) (h2 : m < n → f m = false) : ((List.range n).takeWhile f).length = m := by
  refine while_of f (by simpa using hm) (fun j _ hj => by simpa using h1 j hj) (fun hj => ?_)
  simp at hj ⊢
  exact h2 hj
theorem lcp_next {a b : Key} {i : Nat} (h : i < (lcp a b).length) : a[i]? = b[i]? := by
  have h1 := (List.prefix_iff_getElem?.1 (lcp_left a b)) i h
  have h2 := (List.prefix_iff_getElem?.1 (lcp_right a b)) i h
  rw [h1, h2]
theorem lcp_end {a b : Key} (h1 : (lcp a b).length < a.length) (h2 : (lcp a b).length < b.length) : a[(lcp a b).length]? ≠ b[(lcp a b).length]? := by
  rcases lcp_cases a b with h | h | ⟨c, x, m, n, rfl, rfl, h3⟩
  · rw [lcp_of_prefix h] at h1; omega
  · rw [lcp_comm, lcp_of_prefix h] at h2; omega
  · rw [h3]; cases x <;> simp
theorem vb_app : ∀ (k m : Key) (d : Nat), k.length ≤ d → vb (k ++ m) d = vb k d + vb m (d - k.length)
  | [], m, d, _ => by simp [vb]
  | b :: k, m, 0, h => by simp at h
  | b :: k, m, d + 1, h => by
    simp only [List.cons_append, vb, Nat.add_sub_cancel, List.length_cons, Nat.add_sub_add_right]
    rw [vb_app k m d (by simpa using h)]; omega
/-- A prefix's first bits. -/
theorem cut_take {k : Key} (hk : k.length ≤ 32) {n : Nat} (hn : n ≤ k.length) : cutTo (kx k) n = kx (k.take n) := by
  have hl : (k.take n).length ≤ 32 := by simp; omega
  have r1 := kx_range hk
  have r2 := kx_range hl
  refine same_bits (cutTo_nonneg _ _ r1.1) (cutTo_lt _ _ r1.2) r2.1 r2.2 fun i hi => ?_
  rw [bit_cut _ _ _ (by omega) hi, kx_bit hk hi, kx_bit hl hi, List.getElem?_take]
  split <;> simp
theorem prefix_take {a b : Key} (h : a <+: b) : b.take a.length = a := (List.prefix_iff_eq_take.1 h).symm
/-- What two have in common. -/
theorem com_lcp {a b : Key} (ha : a.length ≤ 32) (hb : b.length ≤ 32) : com6 (kp a) (kp b) = kp (lcp a b) := by
  have l1 := (lcp_left a b).length_le
  have l2 := (lcp_right a b).length_le
  have e : comN (kp a) (kp b) = (lcp a b).length := by
    unfold comN
    have e1 : (kp a).2.toNat = a.length := by show (kn a).toNat = _; unfold kn; omega
    have e2 : (kp b).2.toNat = b.length := by show (kn b).toNat = _; unfold kn; omega
    rw [e1, e2]
    refine takeWhile_range (by omega) (fun i hi => ?_) (fun hm => ?_)
    · simp only [decide_eq_true_eq]
      show bitN (kx a) i = bitN (kx b) i
      rw [kx_bit ha (by omega), kx_bit hb (by omega), lcp_next hi]
    · simp only [decide_eq_false_iff_not]
      show ¬ bitN (kx a) _ = bitN (kx b) _
      intro h
      rw [kx_bit ha (by omega), kx_bit hb (by omega)] at h
      exact lcp_end (by omega) (by omega) (bool_of h (by simp; omega) (by simp; omega))
  unfold com6
  rw [e]
  show (cutTo (kx a) _, _) = (kx _, kn _)
  rw [cut_take ha l1, prefix_take (lcp_left a b)]; rfl
/-- The first bit behind. -/
theorem bit_next {a p : Key} {x : Bool} (hp : p.length ≤ 32) (h : a ++ [x] <+: p) : bitOf (kx p) (kn a) = if x then 1 else 0 := by
  obtain ⟨m, rfl⟩ := h
  simp at hp
  have e : kn a = ((a.length : Nat) : Int) := rfl
  rw [e, bitOf_at _ _ (by omega), kx_bit (by simp; omega) (by omega)]
  cases x <;> simp
end T6
end Go.Proofs.Ytghkacciihocdaa
