/- Merged by tools/merge.py: I43, I44, I45, I46, I47, I48, I49. -/
import Derived.Test.YtghkacciihocdaaI42
namespace Go.Proofs.Ytghkacciihocdaa
open Go Go.RowKit Go.Shelf Go.Sort
namespace T6

theorem rowOf_enc {L : List (Key × Int)} (hs : SRow L) (hf : ∀ r ∈ L, r.1.length ≤ 32) {K : Key} (hK : K.length ≤ 32) : rowOf (encR L) (kx K, kn K) = encR (L.filter (fun r => decide (r.1 = K))) := by
  unfold rowOf
  cases hg : getR L K with
  | some u =>
    obtain ⟨A, B, rfl, hA, hB⟩ := srow_split hs ((get_some hs).1 hg)
    rw [spot_some hK hf rfl hA]
    have e : encR (A ++ (K, u) :: B) = encR A ++ rowR (K, u) :: encR B := by simp [encR]
    have hl : (encR A).length = A.length := encR_len A
    have e3 : (encR A ++ rowR (K, u) :: encR B).drop A.length = rowR (K, u) :: encR B := by rw [← hl]; simp
    have hA1 : A.filter (fun r => decide (r.1 = K)) = [] := filter_none fun r hr => decide_eq_false (klt_ne (hA r hr))
    have hB1 : B.filter (fun r => decide (r.1 = K)) = [] := filter_none fun r hr => decide_eq_false (Ne.symm (klt_ne (hB r hr)))
    rw [e, e3]
    simp [List.filter_append, hA1, hB1, encR]
  | none =>
    rw [spot_none hK hf hg]
    have hn : L.filter (fun r => decide (r.1 = K)) = [] := filter_none fun r hr => decide_eq_false fun e => get_none.1 hg r.2 (by rw [← e]; exact hr)
    rw [hn, List.drop_of_length_le (by rw [encR_len]; omega)]
    rfl
theorem srow_filter {L : List (Key × Int)} (hs : SRow L) (f : Key × Int → Bool) : SRow (L.filter f) := List.Pairwise.sublist List.filter_sublist hs
theorem pre_klt {a k : Key} (h : a <+: k) (hl : a.length < k.length) : klt a k = true := by
  obtain ⟨m, rfl⟩ := h
  cases m with
  | nil => simp at hl
  | cons b m => exact klt_ext a b m
theorem upTo_enc {L : List (Key × Int)} (hs : SRow L) (hf : ∀ r ∈ L, r.1.length ≤ 32) {K : Key} (hK : K.length ≤ 32) : ∀ k, k ≤ K.length + 1 → upTo (encR L) (kx K) k = encR (L.filter (fun r => decide (r.1 <+: K ∧ r.1.length < k)))
  | 0, _ => by
    have : L.filter (fun r => decide (r.1 <+: K ∧ r.1.length < 0)) = [] := filter_none fun r _ => decide_eq_false (by omega)
    rw [this]; rfl
  | k + 1, hk => by
    rw [upTo_next, upTo_enc hs hf hK k (by omega), cut_take hK (by omega)]
    have hl : (K.take k).length = k := by rw [List.length_take]; omega
    have e : ((k : Nat) : Int) = kn (K.take k) := by unfold kn; rw [hl]
    rw [e, rowOf_enc hs hf (by omega)]
    unfold encR
    rw [← List.map_append]
    congr 1
    refine (srow_ext ?_ (srow_filter hs _) ?_)
    · refine List.pairwise_append.2 ⟨srow_filter hs _, srow_filter hs _, fun a ha b hb => ?_⟩
      have ha' := of_decide_eq_true (List.mem_filter.1 ha).2
      have hb' := of_decide_eq_true (List.mem_filter.1 hb).2
      rw [hb']
      have : a.1 <+: K.take k := List.prefix_take_iff.2 ⟨ha'.1, by omega⟩
      exact pre_klt this (by omega)
    · intro r
      simp only [List.mem_append, List.mem_filter, decide_eq_true_eq]
      constructor
      · rintro (⟨h1, h2, h3⟩ | ⟨h1, h2⟩)
        · exact ⟨h1, h2, by omega⟩
        · exact ⟨h1, by rw [h2]; exact List.take_prefix _ _, by rw [h2]; omega⟩
      · rintro ⟨h1, h2, h3⟩
        by_cases hlt : r.1.length < k
        · exact .inl ⟨h1, h2, hlt⟩
        · refine .inr ⟨h1, ?_⟩
          have := List.prefix_iff_eq_take.1 h2
          rw [show r.1.length = k by omega] at this
          exact this
/-- The document's rows above a prefix are the trie's. -/
theorem above_enc {L : List (Key × Int)} (hs : SRow L) (hf : ∀ r ∈ L, r.1.length ≤ 32) (x n : Int) (x0 : 0 ≤ x) (x1 : x < 4294967296) : aboveF (encR L) x n = if right x n then encR (L.filter (fun r => decide (r.1 <+: bitsOf x n))) else [] := by
  unfold aboveF
  by_cases hr : right x n
  · rw [if_pos hr, if_pos hr]
    have hk := kp_bitsOf x0 x1 hr
    generalize hK : bitsOf x n = K at *
    obtain ⟨rfl, rfl, hk3⟩ := hk
    have : (kn K).toNat = K.length := by unfold kn; omega
    rw [this, upTo_enc hs hf hk3 _ (Nat.le_refl _)]
    congr 1
    refine List.filter_congr fun r _ => ?_
    refine decide_eq_decide.2 ⟨fun h => h.1, fun h => ⟨h, ?_⟩⟩
    have := h.length_le
    omega
  · rw [if_neg hr, if_neg hr]
/-- What the document finds is what the trie finds. -/
theorem find_enc {L : List (Key × Int)} (hs : SRow L) (hf : ∀ r ∈ L, r.1.length ≤ 32) (a : Int) (x0 : 0 ≤ a) (x1 : a < 4294967296) : findF (encR L) a = (((lastR (L.filter (fun r => decide (r.1 <+: bitsOf a 32)))).1, (lastR (L.filter (fun r => decide (r.1 <+: bitsOf a 32)))).2.1), (lastR (L.filter (fun r => decide (r.1 <+: bitsOf a 32)))).2.2) := by
  unfold findF
  rw [above_enc hs hf a 32 x0 x1, if_pos (right32 a)]
  generalize L.filter (fun r => decide (r.1 <+: bitsOf a 32)) = M
  unfold lastR encR
  rw [List.getLast?_map]
  cases M.getLast? <;> rfl
end T6
end Go.Proofs.Ytghkacciihocdaa

namespace Go.Proofs.Ytghkacciihocdaa
open Go Go.RowKit Go.Shelf Go.Sort
namespace T6

def KSort (l : List Key) : Prop := l.Pairwise (fun a b => klt a b = true)
theorem ksort_ext {l m : List Key} (hl : KSort l) (hm : KSort m) (h : ∀ x, x ∈ l ↔ x ∈ m) : l = m :=
  sorted_ext klt klt_irrefl (fun _ _ h => klt_asymm h) hl hm h
theorem leP_klt {a k : Key} (ha : a.length ≤ 32) (hk : k.length ≤ 32) : leP (kp a) (kp k) = !klt k a := by
  have h1 := ord_klt ha hk
  have h2 := ord_klt hk ha
  unfold leP kp
  dsimp only
  cases hc : klt k a with
  | true =>
    refine decide_eq_false fun h => ?_
    have h3 := h2.2 hc
    revert h h3
    unfold ordF
    split
    · rename_i h0; rw [if_pos ⟨h0.1.symm, h0.2.symm⟩]; intro _ h; cases h
    · split
      · rename_i h4 h5
        intro _ h
        rw [if_neg (by omega), if_neg (by omega)] at h
        cases h
      · intro h; exact absurd h (by decide)
  | false =>
    refine decide_eq_true ?_
    by_cases e : a = k
    · subst e
      unfold ordF
      rw [if_pos ⟨rfl, rfl⟩]
      decide
    · have : klt a k = true := by
        cases hb : klt a k with
        | true => rfl
        | false => exact absurd (klt_total hb hc) e
      exact Int.le_of_lt (h1.2 this)
theorem step_enc {out : List Key} (hs : KSort out) (hf : ∀ a ∈ out, a.length ≤ 32) {k : Key} (hk : k.length ≤ 32) : stepP (out.map kp) (kp k) = (insK k out).map kp := by
  have hw : out.takeWhile (fun a => !klt k a) = out.filter (fun a => !klt k a) ∧ out.drop (out.takeWhile (fun a => !klt k a)).length = out.filter (fun a => !(!klt k a)) :=
    while_split (hs.imp fun {a b} h hb => by
      cases hc : klt k a with
      | false => rfl
      | true => rw [klt_trans hc h] at hb; cases hb)
  have hsp : spotP (out.map kp) (kp k) = (out.takeWhile (fun a => !klt k a)).length := by
    unfold spotP
    clear hs hw
    induction out with
    | nil => rfl
    | cons a l ih =>
      have ih := ih fun b hb => hf b (by simp [hb])
      simp only [List.map_cons, List.takeWhile_cons, leP_klt (hf a (by simp)) hk]
      cases klt k a with
      | true => rfl
      | false => simp only [Bool.not_false, if_true, List.length_cons, ih]
  have ht : (out.map kp).take (spotP (out.map kp) (kp k)) = (out.filter (fun a => !klt k a)).map kp := by
    rw [hsp, ← List.map_take, ← hw.1]
    congr 1
    exact (List.prefix_iff_eq_take.1 (List.takeWhile_prefix _)).symm
  have hd : (out.map kp).drop (spotP (out.map kp) (kp k)) = (out.filter (fun a => klt k a)).map kp := by
    rw [hsp, ← List.map_drop, hw.2]
    simp only [Bool.not_not]
  have hin : kp k ∈ (out.filter (fun a => !klt k a)).map kp ↔ k ∈ out := by
    constructor
    · intro h
      obtain ⟨a, ha, e⟩ := List.mem_map.1 h
      have ha' := (List.mem_filter.1 ha).1
      simp only [kp, Prod.mk.injEq] at e
      rw [← kp_inj (hf a ha') hk e.1 e.2]
      exact ha'
    · intro h
      exact List.mem_map.2 ⟨k, List.mem_filter.2 ⟨h, by simp [klt_irrefl]⟩, rfl⟩
  have hins : KSort (insK k out) := insK_sorted hs
  unfold stepP
  rw [ht, hd]
  by_cases hmem : k ∈ out
  · rw [if_pos (hin.2 hmem)]
    congr 1
    refine ksort_ext hs hins fun x => ?_
    rw [insK_mem]
    exact ⟨.inr, fun h => h.elim (fun e => e ▸ hmem) id⟩
  · rw [if_neg fun h => hmem (hin.1 h)]
    have : (out.filter (fun a => !klt k a)).map kp ++ [kp k] ++ (out.filter (fun a => klt k a)).map kp = (out.filter (fun a => !klt k a) ++ [k] ++ out.filter (fun a => klt k a)).map kp := by simp
    rw [this]
    congr 1
    have hlow : ∀ a ∈ out.filter (fun a => !klt k a), klt a k = true := fun a ha => by
      have h1 := (List.mem_filter.1 ha).1
      have h2 : klt k a = false := by simpa using (List.mem_filter.1 ha).2
      cases hb : klt a k with
      | true => rfl
      | false => exact absurd (klt_total hb h2 ▸ h1) hmem
    have hhigh : ∀ a ∈ out.filter (fun a => klt k a), klt k a = true := fun a ha => (List.mem_filter.1 ha).2
    refine ksort_ext ?_ hins fun x => ?_
    · refine List.pairwise_append.2 ⟨List.pairwise_append.2 ⟨hs.sublist List.filter_sublist, List.pairwise_singleton _ _, fun a ha b hb => ?_⟩, hs.sublist List.filter_sublist, fun a ha b hb => ?_⟩
      · rw [List.mem_singleton.1 hb]; exact hlow a ha
      · rcases List.mem_append.1 ha with ha | ha
        · exact klt_trans (hlow a ha) (hhigh b hb)
        · rw [List.mem_singleton.1 ha]; exact hhigh b hb
    · rw [insK_mem]
      simp only [List.mem_append, List.mem_filter, List.mem_singleton]
      constructor
      · rintro ((⟨h, _⟩ | h) | ⟨h, _⟩)
        · exact .inr h
        · exact .inl h
        · exact .inr h
      · rintro (h | h)
        · exact .inl (.inr h)
        · cases hc : klt k x with
          | true => exact .inr ⟨h, rfl⟩
          | false => exact .inl (.inl ⟨h, rfl⟩)
def sortK (M : List Key) (out : List Key) : List Key := M.foldl (fun o k => insK k o) out
theorem sortK_ok : ∀ (M out : List Key), KSort out → (∀ a ∈ out, a.length ≤ 32) → (∀ a ∈ M, a.length ≤ 32) →
    (M.map kp).foldl stepP (out.map kp) = (sortK M out).map kp ∧ KSort (sortK M out) ∧ ∀ x, x ∈ sortK M out ↔ x ∈ out ∨ x ∈ M
  | [], out, h1, h2, h3 => ⟨rfl, h1, fun x => by simp [sortK]⟩
  | k :: M, out, h1, h2, h3 => by
    have hk := h3 k (by simp)
    have ih := sortK_ok M (insK k out) (insK_sorted h1) (fun a ha => (insK_mem.1 ha).elim (fun e => e ▸ hk) (h2 a)) (fun a ha => h3 a (by simp [ha]))
    refine ⟨?_, ih.2.1, fun x => ?_⟩
    · rw [List.map_cons, List.foldl_cons, step_enc h1 h2 hk]
      exact ih.1
    · refine (ih.2.2 x).trans ?_
      rw [insK_mem, List.mem_cons]
      constructor
      · rintro ((h | h) | h)
        · exact .inr (.inl h)
        · exact .inl h
        · exact .inr (.inr h)
      · rintro (h | h | h)
        · exact .inl (.inr h)
        · exact .inl (.inl h)
        · exact .inr h
def keyAt (L : List (Key × Int)) (i : Nat) : Key := ((L[i]?).getD ([], 0)).1
theorem keyAt_is {L : List (Key × Int)} {i : Nat} (h : i < L.length) : keyAt L i = (L[i]'h).1 := by
  unfold keyAt; rw [List.getElem?_eq_getElem h]; rfl
theorem pAt_enc {L : List (Key × Int)} {i : Nat} (h : i < L.length) : pAt (encR L) i = kp (keyAt L i) := by
  rw [pAt_is (by rw [encR_len]; exact h), keyAt_is h]
  simp [encR, rowR, kp]
def manyK (L : List (Key × Int)) (n : Nat) : List Key := (List.range n).flatMap (fun i => (List.range (i + 1)).map (fun j => lcp (keyAt L i) (keyAt L j)))
theorem preA_enc {L : List (Key × Int)} (hf : ∀ r ∈ L, r.1.length ≤ 32) {n : Nat} (hn : n ≤ L.length) : preA6 (encR L) n = (manyK L n).map kp := by
  unfold preA6 manyK lineA
  rw [List.map_flatMap]
  unfold List.flatMap
  congr 1
  refine List.map_congr_left fun i hi => ?_
  have hi' : i < L.length := Nat.lt_of_lt_of_le (List.mem_range.1 hi) hn
  rw [List.map_map]
  refine List.map_congr_left fun j hj => ?_
  have hj' : j < L.length := by have := List.mem_range.1 hj; omega
  rw [pAt_enc hi', pAt_enc hj']
  have h1 := hf _ (List.getElem_mem hi')
  have h2 := hf _ (List.getElem_mem hj')
  rw [← keyAt_is hi'] at h1
  rw [← keyAt_is hj'] at h2
  exact com_lcp h1 h2
theorem manyK_mem {L : List (Key × Int)} {q : Key} : q ∈ manyK L L.length ↔ ∃ a ∈ L, ∃ b ∈ L, lcp a.1 b.1 = q := by
  unfold manyK
  simp only [List.mem_flatMap, List.mem_map, List.mem_range]
  constructor
  · rintro ⟨i, hi, j, hj, rfl⟩
    have hj' : j < L.length := by omega
    exact ⟨L[i], List.getElem_mem hi, L[j], List.getElem_mem hj', by rw [keyAt_is hi, keyAt_is hj']⟩
  · rintro ⟨a, ha, b, hb, rfl⟩
    obtain ⟨i, hi, rfl⟩ := List.getElem_of_mem ha
    obtain ⟨j, hj, rfl⟩ := List.getElem_of_mem hb
    rcases Nat.lt_or_ge i j with h | h
    · exact ⟨j, hj, i, by omega, by rw [keyAt_is hi, keyAt_is hj, lcp_comm]⟩
    · exact ⟨i, hi, j, by omega, by rw [keyAt_is hi, keyAt_is hj]⟩
theorem lcp_fit {a b : Key} (ha : a.length ≤ 32) : (lcp a b).length ≤ 32 := Nat.le_trans (lcp_left a b).length_le ha
/-- The document's nodes are the trie's. -/
theorem all_enc {L : List (Key × Int)} (hf : ∀ r ∈ L, r.1.length ≤ 32) : allF (encR L) = (skeys L).map kp := by
  unfold allF
  rw [encR_len, preA_enc hf (Nat.le_refl _)]
  unfold sortP
  have hM : ∀ a ∈ manyK L L.length, a.length ≤ 32 := fun a ha => by
    obtain ⟨x, hx, y, _, rfl⟩ := manyK_mem.1 ha
    exact lcp_fit (hf x hx)
  have h := sortK_ok (manyK L L.length) [] .nil (fun _ h => absurd h (by simp)) hM
  rw [show ([] : List (Int × Int)) = ([] : List Key).map kp from rfl, h.1]
  congr 1
  refine ksort_ext h.2.1 (skeys_sorted L) fun x => ?_
  rw [h.2.2, manyK_mem, skeys_mem]
  simp
theorem skeys_fit {L : List (Key × Int)} (hf : ∀ r ∈ L, r.1.length ≤ 32) : ∀ k ∈ skeys L, k.length ≤ 32 := fun k hk => by
  obtain ⟨x, hx, y, _, rfl⟩ := skeys_mem.1 hk
  exact lcp_fit (hf x hx)
theorem cnt_enc {M : List Key} (hM : ∀ k ∈ M, k.length ≤ 32) {k : Key} (hk : k.length ≤ 32) : cntD (M.map kp) (kp k) = around M k := by
  unfold cntD around
  rw [List.countP_map]
  refine List.countP_congr fun q hq => ?_
  have hq' := hM q hq
  simp only [Function.comp, inD, kp, stand_pre hk hq', decide_eq_true_eq]
  by_cases e : k = q
  · subst e
    rw [if_pos rfl]
    exact ⟨fun _ => List.prefix_refl _, fun _ => .inl rfl⟩
  · rw [if_neg e]
    by_cases h2 : q <+: k
    · rw [if_pos h2]
      exact ⟨fun _ => h2, fun _ => .inr rfl⟩
    · rw [if_neg h2]
      refine ⟨fun h => ?_, fun h => absurd h h2⟩
      split at h <;> rcases h with h | h <;> cases h
theorem depth_enc {M : List Key} (hM : ∀ k ∈ M, k.length ≤ 32) : depthF (M.map kp) = depthK M := by
  unfold depthF mostD depthK
  rw [List.take_length, List.map_map]
  congr 1
  refine List.map_congr_left fun k hk => ?_
  exact cnt_enc hM (hM k hk)
theorem fair_enc {M : List Key} (hM : ∀ k ∈ M, k.length ≤ 32) : Fair (M.map kp) := fun j h => by
  have hj : j < M.length := by simpa using h
  have := kx_range (hM _ (List.getElem_mem hj))
  simpa [kp] using this
theorem fair6_enc {L : List (Key × Int)} (hf : ∀ r ∈ L, r.1.length ≤ 32) : Fair6 (encR L) := fun j h => by
  have hj : j < L.length := by rw [encR_len] at h; exact h
  have h32 := hf _ (List.getElem_mem hj)
  have := kx_range h32
  refine ⟨?_, ?_, ?_, ?_⟩
  · simpa [encR, rowR] using this.1
  · simpa [encR, rowR] using this.2
  · simp [encR, rowR, kn]
  · simp [encR, rowR, kn]; exact_mod_cast h32
end T6
end Go.Proofs.Ytghkacciihocdaa

namespace Go.Proofs.Ytghkacciihocdaa
open Go Go.RowKit Go.Shelf Go.Sort
attribute [local go_sem] Oper.semAt_some
namespace T6

/-- What goes over the prefixes above any prefix tells the document's rows. -/
theorem aboveS_any (x n : Int) (x0 : 0 ≤ x) (x1 : x < 4294967296) (w : World) (g : Nat) (L : List (Key × Int)) (W : World) (h : OwnT w g L W) :
    Calls Try.prog 18 #[.pointer (some ⟨g, 0, none⟩), pfx x n] W fun e w' => ∃ v R, e = .returned v ∧ SeqR w' v R ∧ aboveF (encR L) x n = encR R ∧ R.length ≤ L.length ∧ Below W.heap.size W w' := by
  rw [above_enc h.srow h.fit x n x0 x1]
  by_cases hr : right x n
  · have hk := kp_bitsOf x0 x1 hr
    have := aboveT_any (bitsOf x n) hk.2.2 w g L W h
    rw [hk.1, hk.2.1] at this
    rw [if_pos hr]
    exact this.mono fun _ _ ⟨v, he, hs, hb⟩ => ⟨v, _, he, hs, rfl, List.length_filter_le _ _, hb⟩
  · rw [if_neg hr]
    exact (above6No_any _ x n x0 x1 W (h.noWay hr)).mono fun _ _ ⟨v, he, hs, hb⟩ => ⟨v, [], he, ⟨[], rfl, hs⟩, rfl, by simp, hb⟩
/-- Find answers as the document's does. -/
theorem findS_any (a : Int) (x0 : 0 ≤ a) (x1 : a < 4294967296) (w : World) (g : Nat) (L : List (Key × Int)) (W : World) (h : OwnT w g L W) :
    Calls Try.prog 16 #[.pointer (some ⟨g, 0, none⟩), .int .u32 a] W fun e w' => e = .returned (.tuple #[pfx (findF (encR L) a).1.1.1 (findF (encR L) a).1.1.2, .int .i64 (findF (encR L) a).1.2, .bool (findF (encR L) a).2]) ∧ Below W.heap.size W w' := by
  have hk := kp_bitsOf x0 x1 (right32 a)
  have := findT_any (bitsOf a 32) (by rw [bitsOf_len]; rfl) w g L W h
  rw [hk.1] at this
  rw [find_enc h.srow h.fit a x0 x1]
  exact this
/-- A put that is refused tells nothing. -/
theorem put_told (L : List (Key × Int)) (hs : SRow L) (hf : ∀ r ∈ L, r.1.length ≤ 32) (x n : Int) (x0 : 0 ≤ x) (x1 : x < 4294967296) (v : Int) : (putF (encR L) (x, n) v).2.2.2 = 0 ∨ ((putF (encR L) (x, n) v).2.1 = 0 ∧ (putF (encR L) (x, n) v).2.2.1 = false) := by
  rw [put_enc hs hf x n x0 x1 v]
  split
  · split
    · exact .inl rfl
    · split
      · exact .inr ⟨rfl, rfl⟩
      · exact .inl rfl
  · exact .inr ⟨rfl, rfl⟩
/-- What TrieFinds holds on to. -/
structure FnC (W0 : World) (x n : Int) (B Q P : Nat) (qx qn qv : Int) (bs : Nat) (As : Option Addr) (cs : Nat) (l : List Snap) (A1 : Option Addr) (k1 : Nat) (R : List Row6) (W : World) : Prop where
  b6 : Blk W W0.heap.size 34 #[.int .u32 x, .int .i64 n]
  bB : Blk W B 28 #[.slice A1 R.length k1]
  bQ : Blk W Q 34 #[.int .u32 qx, .int .i64 qn]
  bP : Blk W P 41 #[.int .u32 qx, .int .i64 qn, .int .i64 qv]
  tb : Blk W bs 84 #[.slice As l.length cs]
  tl : LiesS W As (tells l)
  rw : LiesS W A1 (rowCs R)
  bel : Below W0.heap.size W0 W
theorem FnC.below {W0 : World} {x n : Int} {B Q P : Nat} {qx qn qv : Int} {bs : Nat} {As : Option Addr} {cs : Nat} {l : List Snap} {A1 : Option Addr} {k1 : Nat} {R : List Row6} {W W' : World} (h : FnC W0 x n B Q P qx qn qv bs As cs l A1 k1 R W) (hb : Below W.heap.size W W') : FnC W0 x n B Q P qx qn qv bs As cs l A1 k1 R W' :=
  ⟨h.b6.below hb h.b6.lt, h.bB.below hb h.bB.lt, h.bQ.below hb h.bQ.lt, h.bP.below hb h.bP.lt, h.tb.below hb h.tb.lt, h.tl.below hb, h.rw.below hb, h.bel.trans (hb.mono h.bel.size)⟩
set_option maxRecDepth 100000 in
set_option maxHeartbeats 1600000 in
theorem law06_finds (A : Option Addr) (c : Nat) (l : List Act6) (hl : ∀ p ∈ l, 0 ≤ p.2.1 ∧ p.2.1 < 4294967296) (a x n many : Int) (a0 : 0 ≤ a) (a1 : a < 4294967296) (x0 : 0 ≤ x) (x1 : x < 4294967296) (hm0 : -9223372036854775808 ≤ many) (hm1 : many ≤ 9223372036854775807) (w : World) (hA : ActsS w A l) :
    Calls Try.prog 4 #[.slice A l.length c, .int .u32 a, .agg #[.int .u32 x, .int .i64 n], .int .i64 many] w fun e w' => e = .returned (.bool true) ∧ Below w.heap.size w w' := by
  have hb0 := box_below w (.cells #[.int .u32 x, .int .i64 n] 34)
  have HX := Lib.hid (And.intro hb0 (Blk.new w 34 #[.int .u32 x, .int .i64 n]))
  have HA := Lib.hid (hA.below hb0)
  have HL := Lib.hid hl
  have HBW := Lib.hid hb0
  clear hb0 hA hl
  go_enter Try.func4, Try.ntmps4
  by_cases h40 : 40 < (l.length : Int)
  · go_wp2_with fail
    refine (works6_any _).mono ?_
    rintro e w1 ⟨rfl, hb1⟩
    have HB1 := Lib.hid (HX.out.1.trans (hb1.mono HX.out.1.size))
    clear hb1
    go_wp2_with fail
    go_ret
    exact ⟨rfl, HB1.out⟩
  have hl40 : l.length ≤ 40 := by omega
  go_wp2_with fail
  generalize (w.alloc (.cells #[.int .u32 x, .int .i64 n] 34)) = w0 at *
  refine (played_any A c l HL.out hl40 w0 HA.out).mono ?_
  rintro e w1 ⟨g, v, L, rfl, hO, ⟨A1, k1, rfl, hk1, hr1⟩, hcap⟩
  have hbel := hO.bel
  have hb2 := box_below w1 (.cells #[.slice A1 (encR L).length k1] 28)
  have HO := Lib.hid (hO.below hb2)
  have HR := Lib.hid (hr1.below hb2)
  have HX2 : Hid (Below w.heap.size w (w1.alloc (.cells #[.slice A1 (encR L).length k1] 28)) ∧ Blk (w1.alloc (.cells #[.slice A1 (encR L).length k1] 28)) w.heap.size 34 #[.int .u32 x, .int .i64 n] ∧ Blk (w1.alloc (.cells #[.slice A1 (encR L).length k1] 28)) w1.heap.size 28 #[.slice A1 (encR L).length k1]) := Lib.hid (by
    have h0 := HX.out.1.trans (hbel.mono HX.out.1.size)
    have e5 := HX.out.2.below hbel HX.out.2.lt
    exact ⟨h0.trans (hb2.mono h0.size), e5.below hb2 e5.lt, Blk.new w1 _ _⟩)
  have HF := Lib.hid (And.intro hcap hk1)
  clear hO hr1 hbel hb2 HX HA
  have hlen : (encR L).length ≤ 1000 := by rw [encR_len]; omega
  have HRF := Lib.hid (fun (V : World) (hV : LiesS V A1 (rowCs (encR L))) => refFind_any A1 k1 (encR L) a a0 a1 hlen V hV)
  have HRA := Lib.hid (fun (V : World) (hV : LiesS V A1 (rowCs (encR L))) => refAbove_any A1 k1 (encR L) x n x0 x1 hlen V hV)
  have HPF := Lib.hid (fun (V : World) (hV : OwnT w0 g L V) => findS_any a a0 a1 w0 g L V hV)
  obtain ⟨⟨⟨⟨qx, qn⟩, qv⟩, qf⟩, hF⟩ : ∃ F, findF (encR L) a = F := ⟨_, rfl⟩
  rw [hF] at HRF HPF
  dsimp only at HRF HPF
  have hsr := HO.out.srow
  have hfit := HO.out.fit
  have HPT := Lib.hid (put_told L hsr hfit x n x0 x1 77)
  clear hF hlen hsr hfit
  go_wp2_with fail
  generalize (w1.alloc (.cells #[.slice A1 (encR L).length k1] 28)) = w2 at *
  generalize w1.heap.size = B at *
  refine (HPF.out w2 HO.out).mono ?_
  rintro e w3 ⟨rfl, hb3⟩
  have hq := box_below w3 (.cells #[.int .u32 qx, .int .i64 qn] 34)
  have HQ := Lib.hid (Blk.new w3 34 #[.int .u32 qx, .int .i64 qn])
  have hb4 := hb3.trans (hq.mono hb3.size)
  have HO4 := Lib.hid (HO.out.below hb4)
  have HR4 := Lib.hid (HR.out.below hb4)
  have HX4 := Lib.hid (And.intro (HX2.out.1.trans (hb4.mono HX2.out.1.size)) (And.intro (HX2.out.2.1.below hb4 HX2.out.2.1.lt) (HX2.out.2.2.below hb4 HX2.out.2.2.lt)))
  clear hb3 hq hb4 HO HR HX2
  have r0 := HX4.out.2.2.cell 0
  simp only [List.getElem?_toArray, List.getElem?_cons_zero] at r0
  go_wp2_with fail
  generalize (w3.alloc (.cells #[.int .u32 qx, .int .i64 qn] 34)) = w4 at *
  generalize w3.heap.size = Q at *
  refine (HRF.out w4 HR4.out).mono ?_
  rintro e w5 ⟨rfl, hb5⟩
  have hq := box_below w5 (.cells #[.int .u32 qx, .int .i64 qn, .int .i64 qv] 41)
  have HP := Lib.hid (Blk.new w5 41 #[.int .u32 qx, .int .i64 qn, .int .i64 qv])
  have hb6 := hb5.trans (hq.mono hb5.size)
  have HO6 := Lib.hid (HO4.out.below hb6)
  have HR6 := Lib.hid (HR4.out.below hb6)
  have HX6 := Lib.hid (And.intro (HX4.out.1.trans (hb6.mono HX4.out.1.size)) (And.intro (HX4.out.2.1.below hb6 HX4.out.2.1.lt) (And.intro (HX4.out.2.2.below hb6 HX4.out.2.2.lt) (HQ.out.below hb6 HQ.out.lt))))
  clear hb5 hq hb6 HO4 HR4 HX4 HQ r0
  have p0 := HX6.out.2.1.cell 0
  have p1 := HX6.out.2.1.cell 1
  simp only [List.getElem?_toArray, List.getElem?_cons_zero, List.getElem?_cons_succ] at p0 p1
  go_wp2_with fail
  generalize (w5.alloc (.cells #[.int .u32 qx, .int .i64 qn, .int .i64 qv] 41)) = w6 at *
  generalize w5.heap.size = P at *
  refine (aboveS_any x n x0 x1 w0 g L w6 HO6.out).mono ?_
  rintro e w7 ⟨v, R, rfl, ⟨l', hl', bs, As, cs, rfl, ht1, ht2⟩, hwant, hRl, hb7⟩
  have hfr : FnC w x n B Q P qx qn qv bs As cs l' A1 k1 (encR L) w7 := ⟨HX6.out.2.1.below hb7 HX6.out.2.1.lt, HX6.out.2.2.1.below hb7 HX6.out.2.2.1.lt, HX6.out.2.2.2.below hb7 HX6.out.2.2.2.lt, HP.out.below hb7 HP.out.lt, ht1, ht2, HR6.out.below hb7, HX6.out.1.trans (hb7.mono HX6.out.1.size)⟩
  have HO7 := Lib.hid (HO6.out.below hb7)
  have HFR := Lib.hid hfr
  have hw1 := snaps_enc hl'
  rw [← hwant] at hw1
  have hllen : l'.length ≤ 1000 := by
    have h1 := congrArg List.length hl'
    rw [List.length_map] at h1
    have := HF.out.1
    omega
  have HW := Lib.hid (And.intro hw1 hllen)
  clear hfr ht1 ht2 hb7 hw1 hllen hl' hwant hRl HX6 HO6 HR6 HP p0 p1
  have p0 := HFR.out.b6.cell 0
  have p1 := HFR.out.b6.cell 1
  simp only [List.getElem?_toArray, List.getElem?_cons_zero, List.getElem?_cons_succ] at p0 p1
  generalize aboveF (encR L) x n = R' at *
  have HPS := Lib.hid (fun (V : World) (hV : OwnT w0 g L V) => putS_any x n 77 x0 x1 w0 g L HF.out.1 V hV)
  obtain ⟨⟨ql, u1, u2, u3⟩, hF⟩ : ∃ F, putF (encR L) (x, n) 77 = F := ⟨_, rfl⟩
  rw [hF] at HPS HPT
  dsimp only at HPS HPT
  clear hF
  go_wp2_with fail
  refine (HPS.out w7 HO7.out).mono ?_
  rintro e w8 ⟨rfl, L2, hO2, _, _, hkp⟩
  have hf4 : FnC w x n B Q P qx qn qv bs As cs l' A1 k1 (encR L) w8 := ⟨hkp.only.blk HFR.out.b6 (by decide) (by decide), hkp.only.blk HFR.out.bB (by decide) (by decide), hkp.only.blk HFR.out.bQ (by decide) (by decide), hkp.only.blk HFR.out.bP (by decide) (by decide), hkp.only.blk HFR.out.tb (by decide) (by decide), hkp.tells _ _ HFR.out.tl, hkp.rows _ _ HFR.out.rw, HBW.out.trans (hO2.bel.mono HBW.out.size)⟩
  have Hw4 := Lib.hid hf4
  clear hf4 hkp hO2 HFR HO7 p0 p1
  have r0 := Hw4.out.bB.cell 0
  have p0 := Hw4.out.b6.cell 0
  have p1 := Hw4.out.b6.cell 1
  have q0 := Hw4.out.bQ.cell 0
  have q1 := Hw4.out.bQ.cell 1
  have s0 := Hw4.out.bP.cell 0
  have s1 := Hw4.out.bP.cell 1
  have s2 := Hw4.out.bP.cell 2
  simp only [List.getElem?_toArray, List.getElem?_cons_zero, List.getElem?_cons_succ] at p0 p1 r0 q0 q1 s0 s1 s2
  go_wp2_with fail
  refine (HRA.out w8 Hw4.out.rw).mono ?_
  rintro e w9 ⟨⟨v9, rfl, ho9⟩, hb9⟩
  obtain ⟨A9, c9, rfl⟩ := own_slice ho9
  have HL9 := Lib.hid (lies_own ho9)
  have Hw5 := Lib.hid (Hw4.out.below hb9)
  clear ho9 hb9 Hw4 r0 p0 p1 q0 q1 s0 s1 s2
  go_wp2_with fail
  refine (rows6_any bs As cs l' A9 c9 R' many hm0 hm1 HW.out.2 HW.out.1 w9 ⟨Hw5.out.tb, Hw5.out.tl⟩ HL9.out).mono ?_
  rintro e w10 ⟨rfl, hb10⟩
  have Hw6 := Lib.hid (Hw5.out.below hb10)
  clear hb10 HL9 Hw5
  have r0 := Hw6.out.bB.cell 0
  have p0 := Hw6.out.b6.cell 0
  have p1 := Hw6.out.b6.cell 1
  simp only [List.getElem?_toArray, List.getElem?_cons_zero, List.getElem?_cons_succ] at p0 p1 r0
  go_wp2_with fail
  refine (HRA.out w10 Hw6.out.rw).mono ?_
  rintro e w11 ⟨⟨v9, rfl, ho9⟩, hb9⟩
  obtain ⟨A9, c9, rfl⟩ := own_slice ho9
  have HL9 := Lib.hid (lies_own ho9)
  have Hw7 := Lib.hid (Hw6.out.below hb9)
  clear ho9 hb9 Hw6 r0 p0 p1
  go_wp2_with fail
  refine (rows6_any bs As cs l' A9 c9 R' 1000 (by decide) (by decide) HW.out.2 HW.out.1 w11 ⟨Hw7.out.tb, Hw7.out.tl⟩ HL9.out).mono ?_
  rintro e w12 ⟨rfl, hb12⟩
  have HZ := Lib.hid (Hw7.out.bel.trans (hb12.mono Hw7.out.bel.size))
  clear hb12 HL9 Hw7
  go_wp2_with fail
  refine (num6_any u3 _).mono ?_
  rintro e wx ⟨rfl, rfl⟩
  by_cases hu : u3 = 0
  · subst hu
    go_wp2_with fail
    refine (works6_any _).mono ?_
    rintro e w13 ⟨rfl, hb13⟩
    have HE := Lib.hid (HZ.out.trans (hb13.mono HZ.out.size))
    clear hb13
    go_wp2_with fail
    go_ret
    exact ⟨rfl, HE.out⟩
  · obtain ⟨rfl, rfl⟩ := HPT.out.resolve_left hu
    go_wp2_with fail
    refine (works6_any _).mono ?_
    rintro e w13 ⟨rfl, hb13⟩
    have HE := Lib.hid (HZ.out.trans (hb13.mono HZ.out.size))
    clear hb13
    go_wp2_with fail
    go_ret
    exact ⟨rfl, HE.out⟩
end T6
end Go.Proofs.Ytghkacciihocdaa

namespace Go.Proofs.Ytghkacciihocdaa
open Go Go.RowKit Go.Shelf Go.Sort
attribute [local go_sem] Oper.semAt_some
namespace T6

/-- Put of any prefix answers as the document's does, and leaves another trie alone. -/
theorem putS2_any (x n v : Int) (x0 : 0 ≤ x) (x1 : x < 4294967296) (w : World) (g hh : Nat) (L M : List (Key × Int)) (hcap : L.length ≤ 512) (W : World) (h : TwoT w g L hh M W) :
    Calls Try.prog 19 #[.pointer (some ⟨g, 0, none⟩), pfx x n, .int .i64 v] W fun e w' =>
      e = .returned (.tuple #[.int .i64 (putF (encR L) (x, n) v).2.1, .bool (putF (encR L) (x, n) v).2.2.1, .int .i64 (putF (encR L) (x, n) v).2.2.2]) ∧
      ∃ L', TwoT w g L' hh M w' ∧ (putF (encR L) (x, n) v).1 = encR L' ∧ L'.length ≤ 512 ∧ Keep6 W w' := by
  have hs := h.one.srow
  have hf := h.one.fit
  have hno := h.one
  rw [put_enc hs hf x n x0 x1 v]
  by_cases hr : right x n
  · have hk := kp_bitsOf x0 x1 hr
    rw [if_pos hr]
    have h0 := h
    obtain ⟨t, s, a1, a2, rfl, a4, a5, a6, a7, a8⟩ := h
    by_cases hg : (getR t.rows (bitsOf x n)).isSome = true
    · have := put6_any t (bitsOf x n) hk.2.2 v W g a1 hcap (.inl hg)
      rw [hk.1, hk.2.1] at this
      rw [if_pos hg]
      refine this.mono fun _ _ ⟨he, hT⟩ => ⟨by rw [he, hg], _, TwoT.turned a1 ⟨s, a2, a4, a5, a6, a7, a8⟩ hT, rfl, ?_, hT.keep a1⟩
      rw [put_len hs, if_pos hg]
      exact hcap
    · rw [if_neg hg]
      have hg2 : getR t.rows (bitsOf x n) = none := by simpa using hg
      by_cases hfull : 512 ≤ t.rows.length
      · have := putFull_any t (bitsOf x n) hk.2.2 v W g a1 (by omega) hg2
        rw [hk.1, hk.2.1] at this
        rw [if_pos hfull]
        exact this.mono fun _ _ ⟨he, hb⟩ => ⟨he, _, TwoT.below h0 hb, rfl, hcap, .below hb⟩
      · have := put6_any t (bitsOf x n) hk.2.2 v W g a1 hcap (.inr (by omega))
        rw [hk.1, hk.2.1] at this
        rw [if_neg hfull]
        refine this.mono fun _ _ ⟨he, hT⟩ => ⟨by rw [he, hg2]; rfl, _, TwoT.turned a1 ⟨s, a2, a4, a5, a6, a7, a8⟩ hT, rfl, ?_, hT.keep a1⟩
        rw [put_len hs, if_neg hg]
        omega
  · rw [if_neg hr]
    exact (putNo_any _ x n x0 x1 v W (hno.noWay hr)).mono fun _ _ ⟨he, hb⟩ => ⟨he, _, h.below hb, rfl, hcap, .below hb⟩
/-- Take of any prefix answers as the document's does, and leaves another trie alone. -/
theorem takeS2_any (x n : Int) (x0 : 0 ≤ x) (x1 : x < 4294967296) (w : World) (g hh : Nat) (L M : List (Key × Int)) (hcap : L.length ≤ 512) (W : World) (h : TwoT w g L hh M W) :
    Calls Try.prog 25 #[.pointer (some ⟨g, 0, none⟩), pfx x n] W fun e w' =>
      e = .returned (.tuple #[.int .i64 (takeF (encR L) (x, n)).2.1, .bool (takeF (encR L) (x, n)).2.2.1, .int .i64 (takeF (encR L) (x, n)).2.2.2]) ∧
      ∃ L', TwoT w g L' hh M w' ∧ (takeF (encR L) (x, n)).1 = encR L' ∧ L'.length ≤ 512 ∧ Keep6 W w' := by
  have hno := h.one
  rw [take_enc h.one.srow h.one.fit x n x0 x1]
  by_cases hr : right x n
  · have hk := kp_bitsOf x0 x1 hr
    rw [if_pos hr]
    obtain ⟨t, s, a1, a2, rfl, a4, a5, a6, a7, a8⟩ := h
    have := take6_any t (bitsOf x n) hk.2.2 W g a1 hcap
    rw [hk.1, hk.2.1] at this
    exact this.mono fun _ _ ⟨he, hT⟩ => ⟨he, _, TwoT.turned a1 ⟨s, a2, a4, a5, a6, a7, a8⟩ hT, rfl, Nat.le_trans (List.length_filter_le _ _) hcap, hT.keep a1⟩
  · rw [if_neg hr]
    exact (takeNo_any _ x n x0 x1 W (hno.noWay hr)).mono fun _ _ ⟨he, hb⟩ => ⟨he, _, h.below hb, rfl, hcap, .below hb⟩
attribute [local irreducible] wpQuiet
def S8t (hh : Nat) (M : List (Key × Int)) (w W : World) (g : Nat) (L' : List (Key × Int)) (A1 : Option Addr) (k1 B : Nat) (v : Value) (c x n u : Int) (V : World) : Prop :=
  (∃ a m k, AcC W v c x n u (.slice a m k) V) ∧ Blk V B 28 #[.slice A1 (encR L').length k1] ∧ TwoT w g L' hh M V ∧ LiesS V A1 (rowCs (encR L'))
theorem S8t.box {hh : Nat} {M : List (Key × Int)} {w W : World} {g : Nat} {L' : List (Key × Int)} {A1 : Option Addr} {k1 B : Nat} {v : Value} {c x n u : Int} {V : World} (h : S8t hh M w W g L' A1 k1 B v c x n u V) : V.cell? ⟨B, 0, none⟩ = some (.slice A1 (encR L').length k1) := h.2.1.cell 0
theorem S8t.below {hh : Nat} {M : List (Key × Int)} {w W : World} {g : Nat} {L' : List (Key × Int)} {A1 : Option Addr} {k1 B : Nat} {v : Value} {c x n u : Int} {V V' : World} (h : S8t hh M w W g L' A1 k1 B v c x n u V) (hb : Below V.heap.size V V') : S8t hh M w W g L' A1 k1 B v c x n u V' := by
  obtain ⟨⟨a, m, k, h1⟩, h2, h3, h4⟩ := h
  exact ⟨⟨a, m, k, h1.next (Keep6.below hb)⟩, h2.below hb h2.lt, h3.below hb, h4.below hb⟩
/-- The list is told. -/
theorem S8t.told {hh : Nat} {M : List (Key × Int)} {w W : World} {g : Nat} {L' : List (Key × Int)} {A1 : Option Addr} {k1 B : Nat} {v : Value} {c x n u : Int} {V : World} (h : S8t hh M w W g L' A1 k1 B v c x n u V) (hw : w.heap.size ≤ W.heap.size) (hB : W.heap.size + 3 ≤ B) :
    S8t hh M w W g L' A1 k1 B v c x n u (V.setCell ⟨W.heap.size + 1 + 1, 0, none⟩ (.slice A1 (encR L').length k1)) ∧ (V.setCell ⟨W.heap.size + 1 + 1, 0, none⟩ (.slice A1 (encR L').length k1)).cell? ⟨W.heap.size + 1 + 1, 0, none⟩ = some (.slice A1 (encR L').length k1) := by
  obtain ⟨⟨a, m, k, h1⟩, h2, h3, h4⟩ := h
  have h7 := h1.b7.set_ 0 (.slice A1 (encR L').length k1)
  refine ⟨⟨⟨A1, (encR L').length, k1, ⟨h1.b4.far (by simp; omega) _, h1.b5.far (by simp) _, by simpa using h7, h1.keep.set h1.b7 (by omega) _⟩⟩, h2.far (by simp; omega) _, h3.set h1.b7 (by decide) (by decide) (by omega) 0 _, rows_set h4 h1.b7 _⟩, ?_⟩
  have := h7.cell 0
  simpa using this
theorem S8t.can {hh : Nat} {M : List (Key × Int)} {w W : World} {g : Nat} {L' : List (Key × Int)} {A1 : Option Addr} {k1 B : Nat} {v : Value} {c x n u : Int} {V : World} (h : S8t hh M w W g L' A1 k1 B v c x n u V) : (∃ z, V.cell? ⟨W.heap.size + 1 + 1, 0, none⟩ = some z) ∧ V.frozen? ⟨W.heap.size + 1 + 1, 0, none⟩ = false := by
  obtain ⟨⟨a, m, k, h1⟩, _⟩ := h
  exact ⟨⟨_, h1.b7.cell 0⟩, h1.b7.frozen 0⟩
def S9t (hh : Nat) (M : List (Key × Int)) (W : World) (A : Option Addr) (m k : Nat) (c x n u : Int) (w : World) (g : Nat) (L : List (Key × Int)) (V : World) : Prop :=
  (∃ a m' k', AcC W (.slice A m k) c x n u (.slice a m' k') V) ∧ TwoT w g L hh M V ∧ LiesS V A (rowCs (encR L))
theorem S9t.box {hh : Nat} {M : List (Key × Int)} {W : World} {A : Option Addr} {m k : Nat} {c x n u : Int} {w : World} {g : Nat} {L : List (Key × Int)} {V : World} (h : S9t hh M W A m k c x n u w g L V) : V.cell? ⟨W.heap.size, 0, none⟩ = some (.slice A m k) := by
  obtain ⟨⟨a, m', k', h1⟩, _⟩ := h
  exact h1.b4.cell 0
theorem S9t.below {hh : Nat} {M : List (Key × Int)} {W : World} {A : Option Addr} {m k : Nat} {c x n u : Int} {w : World} {g : Nat} {L : List (Key × Int)} {V V' : World} (h : S9t hh M W A m k c x n u w g L V) (hb : Below V.heap.size V V') : S9t hh M W A m k c x n u w g L V' := by
  obtain ⟨⟨a, m', k', h1⟩, h2, h3⟩ := h
  exact ⟨⟨a, m', k', h1.next (Keep6.below hb)⟩, h2.below hb, h3.below hb⟩
theorem S9t.can {hh : Nat} {M : List (Key × Int)} {W : World} {A : Option Addr} {m k : Nat} {c x n u : Int} {w : World} {g : Nat} {L : List (Key × Int)} {V : World} (h : S9t hh M W A m k c x n u w g L V) : (∃ z, V.cell? ⟨W.heap.size + 1 + 1, 0, none⟩ = some z) ∧ V.frozen? ⟨W.heap.size + 1 + 1, 0, none⟩ = false := by
  obtain ⟨⟨a, m', k', h1⟩, _⟩ := h
  exact ⟨⟨_, h1.b7.cell 0⟩, h1.b7.frozen 0⟩
theorem S9t.told {hh : Nat} {M : List (Key × Int)} {W : World} {A : Option Addr} {m k : Nat} {c x n u : Int} {w : World} {g : Nat} {L : List (Key × Int)} {V : World} (h : S9t hh M W A m k c x n u w g L V) (hw : w.heap.size ≤ W.heap.size) :
    S9t hh M W A m k c x n u w g L (V.setCell ⟨W.heap.size + 1 + 1, 0, none⟩ (.slice A m k)) ∧ (V.setCell ⟨W.heap.size + 1 + 1, 0, none⟩ (.slice A m k)).cell? ⟨W.heap.size + 1 + 1, 0, none⟩ = some (.slice A m k) ∧
      ∀ g' L', TwoT w g' L' hh M V → TwoT w g' L' hh M (V.setCell ⟨W.heap.size + 1 + 1, 0, none⟩ (.slice A m k)) := by
  obtain ⟨⟨a, m', k', h1⟩, h2, h3⟩ := h
  have h7 := h1.b7.set_ 0 (.slice A m k)
  refine ⟨⟨⟨A, m, k, ⟨h1.b4.far (by simp; omega) _, h1.b5.far (by simp) _, by simpa using h7, h1.keep.set h1.b7 (by omega) _⟩⟩, h2.set h1.b7 (by decide) (by decide) (by omega) 0 _, rows_set h3 h1.b7 _⟩, ?_, fun g' L' h0 => h0.set h1.b7 (by decide) (by decide) (by omega) 0 _⟩
  have := h7.cell 0
  simpa using this
set_option maxRecDepth 100000 in
set_option maxHeartbeats 6400000 in
theorem act2_any (c x n u : Int) (x0 : 0 ≤ x) (x1 : x < 4294967296) (w : World) (g : Nat) (L : List (Key × Int)) (hcap : L.length ≤ 512) (hh : Nat) (M : List (Key × Int)) (W : World) (h : TwoT w g L hh M W) (A : Option Addr) (k : Nat) (hk : (encR L).length ≤ k) (hA : LiesS W A (rowCs (encR L))) :
    Calls Try.prog 11 #[.pointer (some ⟨g, 0, none⟩), .agg #[.slice A (encR L).length k], .agg #[.int .i64 c, .int .u32 x, .int .i64 n, .int .i64 u]] W fun e w' =>
      ∃ g' v' L', e = .returned (.tuple #[.pointer (some ⟨g', 0, none⟩), v', .bool true]) ∧ TwoT w g' L' hh M w' ∧ TrieV w' v' (encR L') ∧ L'.length ≤ 512 ∧ Keep6 W w' := by
  have hle : (encR L).length ≤ 1000 := by rw [encR_len]; omega
  have HX : Hid (AcC W (.slice A (encR L).length k) c x n u (.slice none 0 0) (((W.alloc (.cells #[.slice A (encR L).length k] 28)).alloc (.cells #[.int .i64 c, .int .u32 x, .int .i64 n, .int .i64 u] 36)).alloc (.cells #[.slice none 0 0] 28))) := Lib.hid (by
    refine ⟨((Blk.new W _ _).alloc _).alloc _, ?_, ?_, Keep6.below ((two_below W _ _).alloc (by simp; omega) _)⟩
    · have := (Blk.new (W.alloc (.cells #[.slice A (encR L).length k] 28)) 36 #[.int .i64 c, .int .u32 x, .int .i64 n, .int .i64 u]).alloc (.cells #[.slice none 0 0] 28)
      simpa using this
    · have := Blk.new ((W.alloc (.cells #[.slice A (encR L).length k] 28)).alloc (.cells #[.int .i64 c, .int .u32 x, .int .i64 n, .int .i64 u] 36)) 28 #[.slice none 0 0]
      simpa using this)
  have hbw : Below W.heap.size W (((W.alloc (.cells #[.slice A (encR L).length k] 28)).alloc (.cells #[.int .i64 c, .int .u32 x, .int .i64 n, .int .i64 u] 36)).alloc (.cells #[.slice none 0 0] 28)) := (two_below W _ _).alloc (by simp; omega) _
  have HT := Lib.hid (h.below hbw)
  have HV := Lib.hid (hA.below hbw)
  have HW := Lib.hid h.one.bel
  clear hbw h hA
  go_enter Try.func11, Try.ntmps11
  go_wp2_with fail
  all_goals generalize (((W.alloc (.cells #[.slice A (encR L).length k] 28)).alloc (.cells #[.int .i64 c, .int .u32 x, .int .i64 n, .int .i64 u] 36)).alloc (.cells #[.slice none 0 0] 28)) = W3 at *
  · refine (refPut6_all A k (encR L) x n u x0 x1 hle hk _ HV.out).mono ?_
    rintro e w1 ⟨⟨v1, rfl, hv1⟩, hb1⟩
    have HX1 := Lib.hid (HX.out.next (Keep6.below hb1))
    have HT1 := Lib.hid (HT.out.below hb1)
    clear hb1 HX HT HV
    obtain ⟨A1, k1, rfl, hk1, hl1⟩ := hv1
    have hb2 := box_below w1 (.cells #[.slice A1 (putF (encR L) (x, n) u).1.length k1] 28)
    have HL2 := Lib.hid (hl1.below hb2)
    have HX2 := Lib.hid (HX1.out.next (Keep6.below hb2))
    have HT2 := Lib.hid (HT1.out.below hb2)
    have hB := Blk.new w1 28 #[.slice A1 (putF (encR L) (x, n) u).1.length k1]
    have hBg : W.heap.size + 3 ≤ w1.heap.size := by have := HX1.out.b7.lt; omega
    have HB2 := Lib.hid hB
    have HP := Lib.hid (fun V hV => putS2_any x n u x0 x1 w g hh L M hcap V hV)
    have HK1 := Lib.hid hk1
    clear hb2 hl1 HX1 HT1 hB hk1
    obtain ⟨q, hq⟩ : ∃ q, putF (encR L) (x, n) u = q := ⟨_, rfl⟩
    rw [hq] at HP HL2 HB2 HK1 HX2 HT2 ⊢
    obtain ⟨ql, q1, q2, q3⟩ := q
    dsimp only at HP HL2 HB2 HK1 HX2 HT2 ⊢
    clear hq
    have m1 := HX2.out.b5.cell 1
    have m2 := HX2.out.b5.cell 2
    have m3 := HX2.out.b5.cell 3
    simp only [List.getElem?_toArray, List.getElem?_cons_zero, List.getElem?_cons_succ] at m1 m2 m3
    go_wp2_with fail
    refine (HP.out _ HT2.out).mono ?_
    rintro e w3 ⟨rfl, L', hT3, hE, hl3, hk3⟩
    subst hE
    have HS3 : Hid (S8t hh M w W g L' A1 k1 w1.heap.size (.slice A (encR L).length k) c x n u w3) := Lib.hid (And.intro ⟨_, _, _, HX2.out.next hk3⟩ (And.intro (hk3.only.blk HB2.out (by decide) (by decide)) (And.intro hT3 (hk3.rows _ _ HL2.out))))
    have HL3 := Lib.hid hl3
    clear hT3 hl3 hk3 HX2 HB2 HL2 HT2 HP m1 m2 m3
    go_wp2_with fail
    have hs0 : S8t hh M w W g L' A1 k1 w1.heap.size (.slice A (encR L).length k) c x n u w3.drew := HS3.out.below (below_drew w3)
    clear HS3
    refine wp_region_noPanic ?_
    refine wp_region_held_drew (S := S8t hh M w W g L' A1 k1 w1.heap.size (.slice A (encR L).length k) c x n u) (by kernel_rfl) hs0 ?_
    intro _
    generalize w3.drew = w4 at *
    refine wpAnyH_take (i := 0) (v := ?v5q0) (by rw [List.getElem?_toArray]; exact rfl) (by kernel_rfl) (by kernel_rfl) (by kernel_rfl) (fun _ _ _ h => h) (Or.inl ⟨by rfl, ?hy5q0⟩) (by assumption) ?rest5q0
    case hy5q0 => intro w hSw; (try dsimp only at hSw); have k9 := hSw.box; go_simp; (try with_reducible rfl)
    try simp only [Act.put, List.setIfInBounds_toArray, List.set_cons_zero, List.set_cons_succ]
    refine wpAnyH_take (i := 1) (v := ?v6q0) (by rw [List.getElem?_toArray]; exact rfl) (by kernel_rfl) (by kernel_rfl) (by kernel_rfl) (fun _ _ _ h => h) (Or.inl ⟨by rfl, ?hy6q0⟩) (by assumption) ?rest6q0
    case hy6q0 => intro w hSw; (try dsimp only at hSw); have k9 := hSw.box; go_simp; (try with_reducible rfl)
    try simp only [Act.put, List.setIfInBounds_toArray, List.set_cons_zero, List.set_cons_succ]
    refine wpAnyH_take (i := 2) (v := ?v7q0) (by rw [List.getElem?_toArray]; exact rfl) (by kernel_rfl) (by kernel_rfl) (by kernel_rfl) (fun _ _ _ h => h) (Or.inl ⟨by rfl, ?hy7q0⟩) (by assumption) ?rest7q0
    case hy7q0 => intro w hSw; (try dsimp only at hSw); have k9 := hSw.box; go_simp; (try with_reducible rfl)
    try simp only [Act.put, List.setIfInBounds_toArray, List.set_cons_zero, List.set_cons_succ]
    refine wpAnyH_take (i := 3) (v := ?v8q0) (by rw [List.getElem?_toArray]; exact rfl) (by kernel_rfl) (by kernel_rfl) (by kernel_rfl) (fun _ _ _ h => h) (Or.inl ⟨by rfl, ?hy8q0⟩) (by assumption) ?rest8q0
    case hy8q0 => intro w hSw; (try dsimp only at hSw); have k9 := hSw.box; go_simp; (try with_reducible rfl)
    try simp only [Act.put, List.setIfInBounds_toArray, List.set_cons_zero, List.set_cons_succ]
    refine wpAnyH_take (i := 4) (v := ?v9q0) (by rw [List.getElem?_toArray]; exact rfl) (by kernel_rfl) (by kernel_rfl) (by kernel_rfl) (fun _ _ _ h => h) (Or.inl ⟨by rfl, ?hy9q0⟩) (by assumption) ?rest9q0
    case hy9q0 => intro w hSw; (try dsimp only at hSw); have k9 := hSw.box; go_simp; (try with_reducible rfl)
    try simp only [Act.put, List.setIfInBounds_toArray, List.set_cons_zero, List.set_cons_succ]
    refine wpAnyH_take (i := 5) (v := ?v10q0) (by rw [List.getElem?_toArray]; exact rfl) (by kernel_rfl) (by kernel_rfl) (by kernel_rfl) (fun _ _ _ h => h) (Or.inl ⟨by rfl, ?hy10q0⟩) (by assumption) ?rest10q0
    case hy10q0 => intro w hSw; (try dsimp only at hSw); have k9 := hSw.box; go_simp; (try with_reducible rfl)
    try simp only [Act.put, List.setIfInBounds_toArray, List.set_cons_zero, List.set_cons_succ]
    refine wpAnyH_take (i := 6) (v := ?v11q0) (by rw [List.getElem?_toArray]; exact rfl) (by kernel_rfl) (by kernel_rfl) (by kernel_rfl) (fun _ _ _ h => h) (Or.inl ⟨by rfl, ?hy11q0⟩) (by assumption) ?rest11q0
    case hy11q0 => intro w hSw; (try dsimp only at hSw); have k9 := hSw.box; go_simp; (try with_reducible rfl)
    try simp only [Act.put, List.setIfInBounds_toArray, List.set_cons_zero, List.set_cons_succ]
    refine wpAnyH_take (i := 7) (v := ?v12q0) (by rw [List.getElem?_toArray]; exact rfl) (by kernel_rfl) (by kernel_rfl) (by kernel_rfl) (fun _ _ _ h => h) (Or.inl ⟨by rfl, ?hy12q0⟩) (by assumption) ?rest12q0
    case hy12q0 => intro w hSw; (try dsimp only at hSw); have k9 := hSw.box; go_simp; (try with_reducible rfl)
    try simp only [Act.put, List.setIfInBounds_toArray, List.set_cons_zero, List.set_cons_succ]
    refine wpAnyH_take (i := 8) (v := ?v13q0) (by rw [List.getElem?_toArray]; exact rfl) (by kernel_rfl) (by kernel_rfl) (by kernel_rfl) (fun _ _ _ h => h) (Or.inl ⟨by rfl, ?hy13q0⟩) (by assumption) ?rest13q0
    case hy13q0 => intro w hSw; (try dsimp only at hSw); have k9 := hSw.box; go_simp; (try with_reducible rfl)
    try simp only [Act.put, List.setIfInBounds_toArray, List.set_cons_zero, List.set_cons_succ]
    refine wpAnyH_take (i := 9) (v := ?v14q0) (by rw [List.getElem?_toArray]; exact rfl) (by kernel_rfl) (by kernel_rfl) (by kernel_rfl) (fun _ _ _ h => h) (Or.inl ⟨by rfl, ?hy14q0⟩) (by assumption) ?rest14q0
    case hy14q0 => intro w hSw; (try dsimp only at hSw); have k9 := hSw.box; go_simp; (try with_reducible rfl)
    try simp only [Act.put, List.setIfInBounds_toArray, List.set_cons_zero, List.set_cons_succ]
    refine wpAnyH_take (i := 10) (v := ?v15q0) (by rw [List.getElem?_toArray]; exact rfl) (by kernel_rfl) (by kernel_rfl) (by kernel_rfl) (fun _ _ _ h => h) (Or.inl ⟨by rfl, ?hy15q0⟩) (by assumption) ?rest15q0
    case hy15q0 => intro w hSw; (try dsimp only at hSw); have k9 := hSw.box; go_simp; (try with_reducible rfl)
    try simp only [Act.put, List.setIfInBounds_toArray, List.set_cons_zero, List.set_cons_succ]
    refine wpAnyH_take (i := 11) (v := ?v16q0) (by rw [List.getElem?_toArray]; exact rfl) (by kernel_rfl) (by kernel_rfl) (by kernel_rfl) (fun _ _ _ h => h) (Or.inl ⟨by rfl, ?hy16q0⟩) (by assumption) ?rest16q0
    case hy16q0 => intro w hSw; (try dsimp only at hSw); have k9 := hSw.box; go_simp; (try with_reducible rfl)
    try simp only [Act.put, List.setIfInBounds_toArray, List.set_cons_zero, List.set_cons_succ]
    refine wpAnyH_take (i := 13) (v := ?v17q0) (by rw [List.getElem?_toArray]; exact rfl) (by kernel_rfl) (by kernel_rfl) (by kernel_rfl) (fun _ _ _ h => h) (Or.inl ⟨by rfl, ?hy17q0⟩) (by assumption) ?rest17q0
    case hy17q0 => intro w hSw; (try dsimp only at hSw); have k9 := hSw.box; go_simp; (try with_reducible rfl)
    try simp only [Act.put, List.setIfInBounds_toArray, List.set_cons_zero, List.set_cons_succ]
    refine ready_call (i := 12) (by kernel_rfl) (by rw [List.getElem?_toArray]; exact rfl) (by kernel_rfl) (fun K1 hK1 => ?_)
    go_simp
    refine (num6_any q3 _).mono ?_
    rintro e wx ⟨rfl, rfl⟩
    go_simp
    refine hK1.out _ _ hs0 (fun _ => ?_)
    clear hK1 K1
    try simp only [Act.put, List.setIfInBounds_toArray, List.set_cons_zero, List.set_cons_succ]
    refine wpAnyH_take (i := 14) (v := ?v2q0) (by rw [List.getElem?_toArray]; exact rfl) (by kernel_rfl) (by kernel_rfl) (by kernel_rfl) (fun _ _ _ h => h) (Or.inl ⟨by rfl, ?hy2q0⟩) (by assumption) ?rest2q0
    case hy2q0 => intro w hSw; (try dsimp only at hSw); have k9 := hSw.box; go_simp; (try with_reducible rfl)
    try simp only [Act.put, List.setIfInBounds_toArray, List.set_cons_zero, List.set_cons_succ]
    refine wpAnyH_take (i := 15) (v := ?v3q0) (by rw [List.getElem?_toArray]; exact rfl) (by kernel_rfl) (by kernel_rfl) (by kernel_rfl) (fun _ _ _ h => h) (Or.inl ⟨by rfl, ?hy3q0⟩) (by assumption) ?rest3q0
    case hy3q0 => intro w hSw; (try dsimp only at hSw); have k9 := hSw.box; go_simp; (try with_reducible rfl)
    try simp only [Act.put, List.setIfInBounds_toArray, List.set_cons_zero, List.set_cons_succ]
    refine wpAnyH_take (i := 16) (v := ?v4q0) (by rw [List.getElem?_toArray]; exact rfl) (by kernel_rfl) (by kernel_rfl) (by kernel_rfl) (fun _ _ _ h => h) (Or.inl ⟨by rfl, ?hy4q0⟩) (by assumption) ?rest4q0
    case hy4q0 => intro w hSw; (try dsimp only at hSw); have k9 := hSw.box; go_simp; (try with_reducible rfl)
    try simp only [Act.put, List.setIfInBounds_toArray, List.set_cons_zero, List.set_cons_succ]
    refine ready_call (i := 17) (by kernel_rfl) (by rw [List.getElem?_toArray]; exact rfl) (by kernel_rfl) (fun K1 hK1 => ?_)
    obtain ⟨⟨z7, c7⟩, f7⟩ := hs0.can
    have HN := Lib.hid (hs0.told HW.out.size hBg)
    go_simp
    refine hK1.out _ _ HN.out.1 (fun _ => ?_)
    clear hK1 K1 c7 f7
    try simp only [Act.put, List.setIfInBounds_toArray, List.set_cons_zero, List.set_cons_succ]
    generalize (w4.setCell ⟨W.heap.size + 1 + 1, 0, none⟩ (.slice A1 (encR L').length k1)) = w5 at *
    have hs1 := HN.out.1
    refine wpAnyH_take (i := 18) (v := ?v1q0) (by rw [List.getElem?_toArray]; exact rfl) (by kernel_rfl) (by kernel_rfl) (by kernel_rfl) (fun _ _ _ h => h) (Or.inl ⟨by rfl, ?hy1q0⟩) (by assumption) ?rest1q0
    case hy1q0 => intro w hSw; (try dsimp only at hSw); have k9 := hSw.box; go_simp; (try with_reducible rfl)
    try simp only [Act.put, List.setIfInBounds_toArray, List.set_cons_zero, List.set_cons_succ]
    refine wpAnyH_done (by kernel_rfl) ?_ _
    refine NoPanic.normal ?_
    have c7 := HN.out.2
    go_wp2_with fail
    obtain ⟨⟨a9, m9, k9, h9⟩, h10, h11, h12⟩ := hs1
    exact bodyPost_ret (v := .tuple #[.pointer (some ⟨g, 0, none⟩), .agg #[.slice A1 (encR L').length k1], .bool true]) (by simp [results, Try.results11, go_sem, c7]) rfl ⟨g, _, L', rfl, h11, ⟨A1, k1, rfl, HK1.out, h12⟩, HL3.out, h9.keep⟩
  · refine (refPut6_all A k (encR L) x n u x0 x1 hle hk _ HV.out).mono ?_
    rintro e w1 ⟨⟨v1, rfl, hv1⟩, hb1⟩
    have HX1 := Lib.hid (HX.out.next (Keep6.below hb1))
    have HT1 := Lib.hid (HT.out.below hb1)
    clear hb1 HX HT HV
    obtain ⟨A1, k1, rfl, hk1, hl1⟩ := hv1
    have hb2 := box_below w1 (.cells #[.slice A1 (putF (encR L) (x, n) u).1.length k1] 28)
    have HL2 := Lib.hid (hl1.below hb2)
    have HX2 := Lib.hid (HX1.out.next (Keep6.below hb2))
    have HT2 := Lib.hid (HT1.out.below hb2)
    have hB := Blk.new w1 28 #[.slice A1 (putF (encR L) (x, n) u).1.length k1]
    have hBg : W.heap.size + 3 ≤ w1.heap.size := by have := HX1.out.b7.lt; omega
    have HB2 := Lib.hid hB
    have HP := Lib.hid (fun V hV => putS2_any x n u x0 x1 w g hh L M hcap V hV)
    have HK1 := Lib.hid hk1
    clear hb2 hl1 HX1 HT1 hB hk1
    obtain ⟨q, hq⟩ : ∃ q, putF (encR L) (x, n) u = q := ⟨_, rfl⟩
    rw [hq] at HP HL2 HB2 HK1 HX2 HT2 ⊢
    obtain ⟨ql, q1, q2, q3⟩ := q
    dsimp only at HP HL2 HB2 HK1 HX2 HT2 ⊢
    clear hq
    have m1 := HX2.out.b5.cell 1
    have m2 := HX2.out.b5.cell 2
    have m3 := HX2.out.b5.cell 3
    simp only [List.getElem?_toArray, List.getElem?_cons_zero, List.getElem?_cons_succ] at m1 m2 m3
    go_wp2_with fail
    refine (HP.out _ HT2.out).mono ?_
    rintro e w3 ⟨rfl, L', hT3, hE, hl3, hk3⟩
    subst hE
    have HS3 : Hid (S8t hh M w W g L' A1 k1 w1.heap.size (.slice A (encR L).length k) c x n u w3) := Lib.hid (And.intro ⟨_, _, _, HX2.out.next hk3⟩ (And.intro (hk3.only.blk HB2.out (by decide) (by decide)) (And.intro hT3 (hk3.rows _ _ HL2.out))))
    have HL3 := Lib.hid hl3
    clear hT3 hl3 hk3 HX2 HB2 HL2 HT2 HP m1 m2 m3
    go_wp2_with fail
    have hs0 : S8t hh M w W g L' A1 k1 w1.heap.size (.slice A (encR L).length k) c x n u w3.drew := HS3.out.below (below_drew w3)
    clear HS3
    refine wp_region_noPanic ?_
    refine wp_region_held_drew (S := S8t hh M w W g L' A1 k1 w1.heap.size (.slice A (encR L).length k) c x n u) (by kernel_rfl) hs0 ?_
    intro _
    generalize w3.drew = w4 at *
    refine wpAnyH_take (i := 0) (v := ?v5q1) (by rw [List.getElem?_toArray]; exact rfl) (by kernel_rfl) (by kernel_rfl) (by kernel_rfl) (fun _ _ _ h => h) (Or.inl ⟨by rfl, ?hy5q1⟩) (by assumption) ?rest5q1
    case hy5q1 => intro w hSw; (try dsimp only at hSw); have k9 := hSw.box; go_simp; (try with_reducible rfl)
    try simp only [Act.put, List.setIfInBounds_toArray, List.set_cons_zero, List.set_cons_succ]
    refine wpAnyH_take (i := 1) (v := ?v6q1) (by rw [List.getElem?_toArray]; exact rfl) (by kernel_rfl) (by kernel_rfl) (by kernel_rfl) (fun _ _ _ h => h) (Or.inl ⟨by rfl, ?hy6q1⟩) (by assumption) ?rest6q1
    case hy6q1 => intro w hSw; (try dsimp only at hSw); have k9 := hSw.box; go_simp; (try with_reducible rfl)
    try simp only [Act.put, List.setIfInBounds_toArray, List.set_cons_zero, List.set_cons_succ]
    refine wpAnyH_take (i := 2) (v := ?v7q1) (by rw [List.getElem?_toArray]; exact rfl) (by kernel_rfl) (by kernel_rfl) (by kernel_rfl) (fun _ _ _ h => h) (Or.inl ⟨by rfl, ?hy7q1⟩) (by assumption) ?rest7q1
    case hy7q1 => intro w hSw; (try dsimp only at hSw); have k9 := hSw.box; go_simp; (try with_reducible rfl)
    try simp only [Act.put, List.setIfInBounds_toArray, List.set_cons_zero, List.set_cons_succ]
    refine wpAnyH_take (i := 3) (v := ?v8q1) (by rw [List.getElem?_toArray]; exact rfl) (by kernel_rfl) (by kernel_rfl) (by kernel_rfl) (fun _ _ _ h => h) (Or.inl ⟨by rfl, ?hy8q1⟩) (by assumption) ?rest8q1
    case hy8q1 => intro w hSw; (try dsimp only at hSw); have k9 := hSw.box; go_simp; (try with_reducible rfl)
    try simp only [Act.put, List.setIfInBounds_toArray, List.set_cons_zero, List.set_cons_succ]
    refine wpAnyH_take (i := 4) (v := ?v9q1) (by rw [List.getElem?_toArray]; exact rfl) (by kernel_rfl) (by kernel_rfl) (by kernel_rfl) (fun _ _ _ h => h) (Or.inl ⟨by rfl, ?hy9q1⟩) (by assumption) ?rest9q1
    case hy9q1 => intro w hSw; (try dsimp only at hSw); have k9 := hSw.box; go_simp; (try with_reducible rfl)
    try simp only [Act.put, List.setIfInBounds_toArray, List.set_cons_zero, List.set_cons_succ]
    refine wpAnyH_take (i := 5) (v := ?v10q1) (by rw [List.getElem?_toArray]; exact rfl) (by kernel_rfl) (by kernel_rfl) (by kernel_rfl) (fun _ _ _ h => h) (Or.inl ⟨by rfl, ?hy10q1⟩) (by assumption) ?rest10q1
    case hy10q1 => intro w hSw; (try dsimp only at hSw); have k9 := hSw.box; go_simp; (try with_reducible rfl)
    try simp only [Act.put, List.setIfInBounds_toArray, List.set_cons_zero, List.set_cons_succ]
    refine wpAnyH_take (i := 6) (v := ?v11q1) (by rw [List.getElem?_toArray]; exact rfl) (by kernel_rfl) (by kernel_rfl) (by kernel_rfl) (fun _ _ _ h => h) (Or.inl ⟨by rfl, ?hy11q1⟩) (by assumption) ?rest11q1
    case hy11q1 => intro w hSw; (try dsimp only at hSw); have k9 := hSw.box; go_simp; (try with_reducible rfl)
    try simp only [Act.put, List.setIfInBounds_toArray, List.set_cons_zero, List.set_cons_succ]
    refine wpAnyH_take (i := 7) (v := ?v12q1) (by rw [List.getElem?_toArray]; exact rfl) (by kernel_rfl) (by kernel_rfl) (by kernel_rfl) (fun _ _ _ h => h) (Or.inl ⟨by rfl, ?hy12q1⟩) (by assumption) ?rest12q1
    case hy12q1 => intro w hSw; (try dsimp only at hSw); have k9 := hSw.box; go_simp; (try with_reducible rfl)
    try simp only [Act.put, List.setIfInBounds_toArray, List.set_cons_zero, List.set_cons_succ]
    refine wpAnyH_take (i := 8) (v := ?v13q1) (by rw [List.getElem?_toArray]; exact rfl) (by kernel_rfl) (by kernel_rfl) (by kernel_rfl) (fun _ _ _ h => h) (Or.inl ⟨by rfl, ?hy13q1⟩) (by assumption) ?rest13q1
    case hy13q1 => intro w hSw; (try dsimp only at hSw); have k9 := hSw.box; go_simp; (try with_reducible rfl)
    try simp only [Act.put, List.setIfInBounds_toArray, List.set_cons_zero, List.set_cons_succ]
    refine wpAnyH_take (i := 9) (v := ?v14q1) (by rw [List.getElem?_toArray]; exact rfl) (by kernel_rfl) (by kernel_rfl) (by kernel_rfl) (fun _ _ _ h => h) (Or.inl ⟨by rfl, ?hy14q1⟩) (by assumption) ?rest14q1
    case hy14q1 => intro w hSw; (try dsimp only at hSw); have k9 := hSw.box; go_simp; (try with_reducible rfl)
    try simp only [Act.put, List.setIfInBounds_toArray, List.set_cons_zero, List.set_cons_succ]
    refine wpAnyH_take (i := 10) (v := ?v15q1) (by rw [List.getElem?_toArray]; exact rfl) (by kernel_rfl) (by kernel_rfl) (by kernel_rfl) (fun _ _ _ h => h) (Or.inl ⟨by rfl, ?hy15q1⟩) (by assumption) ?rest15q1
    case hy15q1 => intro w hSw; (try dsimp only at hSw); have k9 := hSw.box; go_simp; (try with_reducible rfl)
    try simp only [Act.put, List.setIfInBounds_toArray, List.set_cons_zero, List.set_cons_succ]
    refine wpAnyH_take (i := 11) (v := ?v16q1) (by rw [List.getElem?_toArray]; exact rfl) (by kernel_rfl) (by kernel_rfl) (by kernel_rfl) (fun _ _ _ h => h) (Or.inl ⟨by rfl, ?hy16q1⟩) (by assumption) ?rest16q1
    case hy16q1 => intro w hSw; (try dsimp only at hSw); have k9 := hSw.box; go_simp; (try with_reducible rfl)
    try simp only [Act.put, List.setIfInBounds_toArray, List.set_cons_zero, List.set_cons_succ]
    refine wpAnyH_take (i := 13) (v := ?v17q1) (by rw [List.getElem?_toArray]; exact rfl) (by kernel_rfl) (by kernel_rfl) (by kernel_rfl) (fun _ _ _ h => h) (Or.inl ⟨by rfl, ?hy17q1⟩) (by assumption) ?rest17q1
    case hy17q1 => intro w hSw; (try dsimp only at hSw); have k9 := hSw.box; go_simp; (try with_reducible rfl)
    try simp only [Act.put, List.setIfInBounds_toArray, List.set_cons_zero, List.set_cons_succ]
    refine ready_call (i := 12) (by kernel_rfl) (by rw [List.getElem?_toArray]; exact rfl) (by kernel_rfl) (fun K1 hK1 => ?_)
    go_simp
    refine (num6_any q3 _).mono ?_
    rintro e wx ⟨rfl, rfl⟩
    go_simp
    refine hK1.out _ _ hs0 (fun _ => ?_)
    clear hK1 K1
    try simp only [Act.put, List.setIfInBounds_toArray, List.set_cons_zero, List.set_cons_succ]
    refine wpAnyH_take (i := 14) (v := ?v2q1) (by rw [List.getElem?_toArray]; exact rfl) (by kernel_rfl) (by kernel_rfl) (by kernel_rfl) (fun _ _ _ h => h) (Or.inl ⟨by rfl, ?hy2q1⟩) (by assumption) ?rest2q1
    case hy2q1 => intro w hSw; (try dsimp only at hSw); have k9 := hSw.box; go_simp; (try with_reducible rfl)
    try simp only [Act.put, List.setIfInBounds_toArray, List.set_cons_zero, List.set_cons_succ]
    refine wpAnyH_take (i := 15) (v := ?v3q1) (by rw [List.getElem?_toArray]; exact rfl) (by kernel_rfl) (by kernel_rfl) (by kernel_rfl) (fun _ _ _ h => h) (Or.inl ⟨by rfl, ?hy3q1⟩) (by assumption) ?rest3q1
    case hy3q1 => intro w hSw; (try dsimp only at hSw); have k9 := hSw.box; go_simp; (try with_reducible rfl)
    try simp only [Act.put, List.setIfInBounds_toArray, List.set_cons_zero, List.set_cons_succ]
    refine wpAnyH_take (i := 16) (v := ?v4q1) (by rw [List.getElem?_toArray]; exact rfl) (by kernel_rfl) (by kernel_rfl) (by kernel_rfl) (fun _ _ _ h => h) (Or.inl ⟨by rfl, ?hy4q1⟩) (by assumption) ?rest4q1
    case hy4q1 => intro w hSw; (try dsimp only at hSw); have k9 := hSw.box; go_simp; (try with_reducible rfl)
    try simp only [Act.put, List.setIfInBounds_toArray, List.set_cons_zero, List.set_cons_succ]
    refine ready_call (i := 17) (by kernel_rfl) (by rw [List.getElem?_toArray]; exact rfl) (by kernel_rfl) (fun K1 hK1 => ?_)
    obtain ⟨⟨z7, c7⟩, f7⟩ := hs0.can
    have HN := Lib.hid (hs0.told HW.out.size hBg)
    go_simp
    refine hK1.out _ _ HN.out.1 (fun _ => ?_)
    clear hK1 K1 c7 f7
    try simp only [Act.put, List.setIfInBounds_toArray, List.set_cons_zero, List.set_cons_succ]
    generalize (w4.setCell ⟨W.heap.size + 1 + 1, 0, none⟩ (.slice A1 (encR L').length k1)) = w5 at *
    have hs1 := HN.out.1
    refine wpAnyH_take (i := 18) (v := ?v1q1) (by rw [List.getElem?_toArray]; exact rfl) (by kernel_rfl) (by kernel_rfl) (by kernel_rfl) (fun _ _ _ h => h) (Or.inl ⟨by rfl, ?hy1q1⟩) (by assumption) ?rest1q1
    case hy1q1 => intro w hSw; (try dsimp only at hSw); have k9 := hSw.box; go_simp; (try with_reducible rfl)
    try simp only [Act.put, List.setIfInBounds_toArray, List.set_cons_zero, List.set_cons_succ]
    refine wpAnyH_done (by kernel_rfl) ?_ _
    refine NoPanic.normal ?_
    have c7 := HN.out.2
    go_wp2_with fail
    obtain ⟨⟨a9, m9, k9, h9⟩, h10, h11, h12⟩ := hs1
    exact bodyPost_ret (v := .tuple #[.pointer (some ⟨g, 0, none⟩), .agg #[.slice A1 (encR L').length k1], .bool true]) (by simp [results, Try.results11, go_sem, c7]) rfl ⟨g, _, L', rfl, h11, ⟨A1, k1, rfl, HK1.out, h12⟩, HL3.out, h9.keep⟩
  · refine (refPut6_all A k (encR L) x n u x0 x1 hle hk _ HV.out).mono ?_
    rintro e w1 ⟨⟨v1, rfl, hv1⟩, hb1⟩
    have HX1 := Lib.hid (HX.out.next (Keep6.below hb1))
    have HT1 := Lib.hid (HT.out.below hb1)
    clear hb1 HX HT HV
    obtain ⟨A1, k1, rfl, hk1, hl1⟩ := hv1
    have hb2 := box_below w1 (.cells #[.slice A1 (putF (encR L) (x, n) u).1.length k1] 28)
    have HL2 := Lib.hid (hl1.below hb2)
    have HX2 := Lib.hid (HX1.out.next (Keep6.below hb2))
    have HT2 := Lib.hid (HT1.out.below hb2)
    have hB := Blk.new w1 28 #[.slice A1 (putF (encR L) (x, n) u).1.length k1]
    have hBg : W.heap.size + 3 ≤ w1.heap.size := by have := HX1.out.b7.lt; omega
    have HB2 := Lib.hid hB
    have HP := Lib.hid (fun V hV => putS2_any x n u x0 x1 w g hh L M hcap V hV)
    have HK1 := Lib.hid hk1
    clear hb2 hl1 HX1 HT1 hB hk1
    obtain ⟨q, hq⟩ : ∃ q, putF (encR L) (x, n) u = q := ⟨_, rfl⟩
    rw [hq] at HP HL2 HB2 HK1 HX2 HT2 ⊢
    obtain ⟨ql, q1, q2, q3⟩ := q
    dsimp only at HP HL2 HB2 HK1 HX2 HT2 ⊢
    clear hq
    have m1 := HX2.out.b5.cell 1
    have m2 := HX2.out.b5.cell 2
    have m3 := HX2.out.b5.cell 3
    simp only [List.getElem?_toArray, List.getElem?_cons_zero, List.getElem?_cons_succ] at m1 m2 m3
    go_wp2_with fail
    refine (HP.out _ HT2.out).mono ?_
    rintro e w3 ⟨rfl, L', hT3, hE, hl3, hk3⟩
    subst hE
    have HS3 : Hid (S8t hh M w W g L' A1 k1 w1.heap.size (.slice A (encR L).length k) c x n u w3) := Lib.hid (And.intro ⟨_, _, _, HX2.out.next hk3⟩ (And.intro (hk3.only.blk HB2.out (by decide) (by decide)) (And.intro hT3 (hk3.rows _ _ HL2.out))))
    have HL3 := Lib.hid hl3
    clear hT3 hl3 hk3 HX2 HB2 HL2 HT2 HP m1 m2 m3
    go_wp2_with fail
    have hs0 : S8t hh M w W g L' A1 k1 w1.heap.size (.slice A (encR L).length k) c x n u w3.drew := HS3.out.below (below_drew w3)
    clear HS3
    refine wp_region_noPanic ?_
    refine wp_region_held_drew (S := S8t hh M w W g L' A1 k1 w1.heap.size (.slice A (encR L).length k) c x n u) (by kernel_rfl) hs0 ?_
    intro _
    generalize w3.drew = w4 at *
    refine wpAnyH_take (i := 0) (v := ?v5q2) (by rw [List.getElem?_toArray]; exact rfl) (by kernel_rfl) (by kernel_rfl) (by kernel_rfl) (fun _ _ _ h => h) (Or.inl ⟨by rfl, ?hy5q2⟩) (by assumption) ?rest5q2
    case hy5q2 => intro w hSw; (try dsimp only at hSw); have k9 := hSw.box; go_simp; (try with_reducible rfl)
    try simp only [Act.put, List.setIfInBounds_toArray, List.set_cons_zero, List.set_cons_succ]
    refine wpAnyH_take (i := 1) (v := ?v6q2) (by rw [List.getElem?_toArray]; exact rfl) (by kernel_rfl) (by kernel_rfl) (by kernel_rfl) (fun _ _ _ h => h) (Or.inl ⟨by rfl, ?hy6q2⟩) (by assumption) ?rest6q2
    case hy6q2 => intro w hSw; (try dsimp only at hSw); have k9 := hSw.box; go_simp; (try with_reducible rfl)
    try simp only [Act.put, List.setIfInBounds_toArray, List.set_cons_zero, List.set_cons_succ]
    refine wpAnyH_take (i := 2) (v := ?v7q2) (by rw [List.getElem?_toArray]; exact rfl) (by kernel_rfl) (by kernel_rfl) (by kernel_rfl) (fun _ _ _ h => h) (Or.inl ⟨by rfl, ?hy7q2⟩) (by assumption) ?rest7q2
    case hy7q2 => intro w hSw; (try dsimp only at hSw); have k9 := hSw.box; go_simp; (try with_reducible rfl)
    try simp only [Act.put, List.setIfInBounds_toArray, List.set_cons_zero, List.set_cons_succ]
    refine wpAnyH_take (i := 3) (v := ?v8q2) (by rw [List.getElem?_toArray]; exact rfl) (by kernel_rfl) (by kernel_rfl) (by kernel_rfl) (fun _ _ _ h => h) (Or.inl ⟨by rfl, ?hy8q2⟩) (by assumption) ?rest8q2
    case hy8q2 => intro w hSw; (try dsimp only at hSw); have k9 := hSw.box; go_simp; (try with_reducible rfl)
    try simp only [Act.put, List.setIfInBounds_toArray, List.set_cons_zero, List.set_cons_succ]
    refine wpAnyH_take (i := 4) (v := ?v9q2) (by rw [List.getElem?_toArray]; exact rfl) (by kernel_rfl) (by kernel_rfl) (by kernel_rfl) (fun _ _ _ h => h) (Or.inl ⟨by rfl, ?hy9q2⟩) (by assumption) ?rest9q2
    case hy9q2 => intro w hSw; (try dsimp only at hSw); have k9 := hSw.box; go_simp; (try with_reducible rfl)
    try simp only [Act.put, List.setIfInBounds_toArray, List.set_cons_zero, List.set_cons_succ]
    refine wpAnyH_take (i := 5) (v := ?v10q2) (by rw [List.getElem?_toArray]; exact rfl) (by kernel_rfl) (by kernel_rfl) (by kernel_rfl) (fun _ _ _ h => h) (Or.inl ⟨by rfl, ?hy10q2⟩) (by assumption) ?rest10q2
    case hy10q2 => intro w hSw; (try dsimp only at hSw); have k9 := hSw.box; go_simp; (try with_reducible rfl)
    try simp only [Act.put, List.setIfInBounds_toArray, List.set_cons_zero, List.set_cons_succ]
    refine wpAnyH_take (i := 6) (v := ?v11q2) (by rw [List.getElem?_toArray]; exact rfl) (by kernel_rfl) (by kernel_rfl) (by kernel_rfl) (fun _ _ _ h => h) (Or.inl ⟨by rfl, ?hy11q2⟩) (by assumption) ?rest11q2
    case hy11q2 => intro w hSw; (try dsimp only at hSw); have k9 := hSw.box; go_simp; (try with_reducible rfl)
    try simp only [Act.put, List.setIfInBounds_toArray, List.set_cons_zero, List.set_cons_succ]
    refine wpAnyH_take (i := 7) (v := ?v12q2) (by rw [List.getElem?_toArray]; exact rfl) (by kernel_rfl) (by kernel_rfl) (by kernel_rfl) (fun _ _ _ h => h) (Or.inl ⟨by rfl, ?hy12q2⟩) (by assumption) ?rest12q2
    case hy12q2 => intro w hSw; (try dsimp only at hSw); have k9 := hSw.box; go_simp; (try with_reducible rfl)
    try simp only [Act.put, List.setIfInBounds_toArray, List.set_cons_zero, List.set_cons_succ]
    refine wpAnyH_take (i := 8) (v := ?v13q2) (by rw [List.getElem?_toArray]; exact rfl) (by kernel_rfl) (by kernel_rfl) (by kernel_rfl) (fun _ _ _ h => h) (Or.inl ⟨by rfl, ?hy13q2⟩) (by assumption) ?rest13q2
    case hy13q2 => intro w hSw; (try dsimp only at hSw); have k9 := hSw.box; go_simp; (try with_reducible rfl)
    try simp only [Act.put, List.setIfInBounds_toArray, List.set_cons_zero, List.set_cons_succ]
    refine wpAnyH_take (i := 9) (v := ?v14q2) (by rw [List.getElem?_toArray]; exact rfl) (by kernel_rfl) (by kernel_rfl) (by kernel_rfl) (fun _ _ _ h => h) (Or.inl ⟨by rfl, ?hy14q2⟩) (by assumption) ?rest14q2
    case hy14q2 => intro w hSw; (try dsimp only at hSw); have k9 := hSw.box; go_simp; (try with_reducible rfl)
    try simp only [Act.put, List.setIfInBounds_toArray, List.set_cons_zero, List.set_cons_succ]
    refine wpAnyH_take (i := 10) (v := ?v15q2) (by rw [List.getElem?_toArray]; exact rfl) (by kernel_rfl) (by kernel_rfl) (by kernel_rfl) (fun _ _ _ h => h) (Or.inl ⟨by rfl, ?hy15q2⟩) (by assumption) ?rest15q2
    case hy15q2 => intro w hSw; (try dsimp only at hSw); have k9 := hSw.box; go_simp; (try with_reducible rfl)
    try simp only [Act.put, List.setIfInBounds_toArray, List.set_cons_zero, List.set_cons_succ]
    refine wpAnyH_take (i := 11) (v := ?v16q2) (by rw [List.getElem?_toArray]; exact rfl) (by kernel_rfl) (by kernel_rfl) (by kernel_rfl) (fun _ _ _ h => h) (Or.inl ⟨by rfl, ?hy16q2⟩) (by assumption) ?rest16q2
    case hy16q2 => intro w hSw; (try dsimp only at hSw); have k9 := hSw.box; go_simp; (try with_reducible rfl)
    try simp only [Act.put, List.setIfInBounds_toArray, List.set_cons_zero, List.set_cons_succ]
    refine wpAnyH_take (i := 13) (v := ?v17q2) (by rw [List.getElem?_toArray]; exact rfl) (by kernel_rfl) (by kernel_rfl) (by kernel_rfl) (fun _ _ _ h => h) (Or.inl ⟨by rfl, ?hy17q2⟩) (by assumption) ?rest17q2
    case hy17q2 => intro w hSw; (try dsimp only at hSw); have k9 := hSw.box; go_simp; (try with_reducible rfl)
    try simp only [Act.put, List.setIfInBounds_toArray, List.set_cons_zero, List.set_cons_succ]
    refine ready_call (i := 12) (by kernel_rfl) (by rw [List.getElem?_toArray]; exact rfl) (by kernel_rfl) (fun K1 hK1 => ?_)
    go_simp
    refine (num6_any q3 _).mono ?_
    rintro e wx ⟨rfl, rfl⟩
    go_simp
    refine hK1.out _ _ hs0 (fun _ => ?_)
    clear hK1 K1
    try simp only [Act.put, List.setIfInBounds_toArray, List.set_cons_zero, List.set_cons_succ]
    refine wpAnyH_take (i := 14) (v := ?v2q2) (by rw [List.getElem?_toArray]; exact rfl) (by kernel_rfl) (by kernel_rfl) (by kernel_rfl) (fun _ _ _ h => h) (Or.inl ⟨by rfl, ?hy2q2⟩) (by assumption) ?rest2q2
    case hy2q2 => intro w hSw; (try dsimp only at hSw); have k9 := hSw.box; go_simp; (try with_reducible rfl)
    try simp only [Act.put, List.setIfInBounds_toArray, List.set_cons_zero, List.set_cons_succ]
    refine wpAnyH_take (i := 15) (v := ?v3q2) (by rw [List.getElem?_toArray]; exact rfl) (by kernel_rfl) (by kernel_rfl) (by kernel_rfl) (fun _ _ _ h => h) (Or.inl ⟨by rfl, ?hy3q2⟩) (by assumption) ?rest3q2
    case hy3q2 => intro w hSw; (try dsimp only at hSw); have k9 := hSw.box; go_simp; (try with_reducible rfl)
    try simp only [Act.put, List.setIfInBounds_toArray, List.set_cons_zero, List.set_cons_succ]
    refine wpAnyH_take (i := 16) (v := ?v4q2) (by rw [List.getElem?_toArray]; exact rfl) (by kernel_rfl) (by kernel_rfl) (by kernel_rfl) (fun _ _ _ h => h) (Or.inl ⟨by rfl, ?hy4q2⟩) (by assumption) ?rest4q2
    case hy4q2 => intro w hSw; (try dsimp only at hSw); have k9 := hSw.box; go_simp; (try with_reducible rfl)
    try simp only [Act.put, List.setIfInBounds_toArray, List.set_cons_zero, List.set_cons_succ]
    refine ready_call (i := 17) (by kernel_rfl) (by rw [List.getElem?_toArray]; exact rfl) (by kernel_rfl) (fun K1 hK1 => ?_)
    obtain ⟨⟨z7, c7⟩, f7⟩ := hs0.can
    have HN := Lib.hid (hs0.told HW.out.size hBg)
    go_simp
    refine hK1.out _ _ HN.out.1 (fun _ => ?_)
    clear hK1 K1 c7 f7
    try simp only [Act.put, List.setIfInBounds_toArray, List.set_cons_zero, List.set_cons_succ]
    generalize (w4.setCell ⟨W.heap.size + 1 + 1, 0, none⟩ (.slice A1 (encR L').length k1)) = w5 at *
    have hs1 := HN.out.1
    refine wpAnyH_take (i := 18) (v := ?v1q2) (by rw [List.getElem?_toArray]; exact rfl) (by kernel_rfl) (by kernel_rfl) (by kernel_rfl) (fun _ _ _ h => h) (Or.inl ⟨by rfl, ?hy1q2⟩) (by assumption) ?rest1q2
    case hy1q2 => intro w hSw; (try dsimp only at hSw); have k9 := hSw.box; go_simp; (try with_reducible rfl)
    try simp only [Act.put, List.setIfInBounds_toArray, List.set_cons_zero, List.set_cons_succ]
    refine wpAnyH_done (by kernel_rfl) ?_ _
    refine NoPanic.normal ?_
    have c7 := HN.out.2
    go_wp2_with fail
    obtain ⟨⟨a9, m9, k9, h9⟩, h10, h11, h12⟩ := hs1
    exact bodyPost_ret (v := .tuple #[.pointer (some ⟨g, 0, none⟩), .agg #[.slice A1 (encR L').length k1], .bool true]) (by simp [results, Try.results11, go_sem, c7]) rfl ⟨g, _, L', rfl, h11, ⟨A1, k1, rfl, HK1.out, h12⟩, HL3.out, h9.keep⟩
  · refine (refPut6_all A k (encR L) x n u x0 x1 hle hk _ HV.out).mono ?_
    rintro e w1 ⟨⟨v1, rfl, hv1⟩, hb1⟩
    have HX1 := Lib.hid (HX.out.next (Keep6.below hb1))
    have HT1 := Lib.hid (HT.out.below hb1)
    clear hb1 HX HT HV
    obtain ⟨A1, k1, rfl, hk1, hl1⟩ := hv1
    have hb2 := box_below w1 (.cells #[.slice A1 (putF (encR L) (x, n) u).1.length k1] 28)
    have HL2 := Lib.hid (hl1.below hb2)
    have HX2 := Lib.hid (HX1.out.next (Keep6.below hb2))
    have HT2 := Lib.hid (HT1.out.below hb2)
    have hB := Blk.new w1 28 #[.slice A1 (putF (encR L) (x, n) u).1.length k1]
    have hBg : W.heap.size + 3 ≤ w1.heap.size := by have := HX1.out.b7.lt; omega
    have HB2 := Lib.hid hB
    have HP := Lib.hid (fun V hV => putS2_any x n u x0 x1 w g hh L M hcap V hV)
    have HK1 := Lib.hid hk1
    clear hb2 hl1 HX1 HT1 hB hk1
    obtain ⟨q, hq⟩ : ∃ q, putF (encR L) (x, n) u = q := ⟨_, rfl⟩
    rw [hq] at HP HL2 HB2 HK1 HX2 HT2 ⊢
    obtain ⟨ql, q1, q2, q3⟩ := q
    dsimp only at HP HL2 HB2 HK1 HX2 HT2 ⊢
    clear hq
    have m1 := HX2.out.b5.cell 1
    have m2 := HX2.out.b5.cell 2
    have m3 := HX2.out.b5.cell 3
    simp only [List.getElem?_toArray, List.getElem?_cons_zero, List.getElem?_cons_succ] at m1 m2 m3
    go_wp2_with fail
    refine (HP.out _ HT2.out).mono ?_
    rintro e w3 ⟨rfl, L', hT3, hE, hl3, hk3⟩
    subst hE
    have HS3 : Hid (S8t hh M w W g L' A1 k1 w1.heap.size (.slice A (encR L).length k) c x n u w3) := Lib.hid (And.intro ⟨_, _, _, HX2.out.next hk3⟩ (And.intro (hk3.only.blk HB2.out (by decide) (by decide)) (And.intro hT3 (hk3.rows _ _ HL2.out))))
    have HL3 := Lib.hid hl3
    clear hT3 hl3 hk3 HX2 HB2 HL2 HT2 HP m1 m2 m3
    go_wp2_with fail
    have hs0 : S8t hh M w W g L' A1 k1 w1.heap.size (.slice A (encR L).length k) c x n u w3.drew := HS3.out.below (below_drew w3)
    clear HS3
    refine wp_region_noPanic ?_
    refine wp_region_held_drew (S := S8t hh M w W g L' A1 k1 w1.heap.size (.slice A (encR L).length k) c x n u) (by kernel_rfl) hs0 ?_
    intro _
    generalize w3.drew = w4 at *
    refine wpAnyH_take (i := 0) (v := ?v5q3) (by rw [List.getElem?_toArray]; exact rfl) (by kernel_rfl) (by kernel_rfl) (by kernel_rfl) (fun _ _ _ h => h) (Or.inl ⟨by rfl, ?hy5q3⟩) (by assumption) ?rest5q3
    case hy5q3 => intro w hSw; (try dsimp only at hSw); have k9 := hSw.box; go_simp; (try with_reducible rfl)
    try simp only [Act.put, List.setIfInBounds_toArray, List.set_cons_zero, List.set_cons_succ]
    refine wpAnyH_take (i := 1) (v := ?v6q3) (by rw [List.getElem?_toArray]; exact rfl) (by kernel_rfl) (by kernel_rfl) (by kernel_rfl) (fun _ _ _ h => h) (Or.inl ⟨by rfl, ?hy6q3⟩) (by assumption) ?rest6q3
    case hy6q3 => intro w hSw; (try dsimp only at hSw); have k9 := hSw.box; go_simp; (try with_reducible rfl)
    try simp only [Act.put, List.setIfInBounds_toArray, List.set_cons_zero, List.set_cons_succ]
    refine wpAnyH_take (i := 2) (v := ?v7q3) (by rw [List.getElem?_toArray]; exact rfl) (by kernel_rfl) (by kernel_rfl) (by kernel_rfl) (fun _ _ _ h => h) (Or.inl ⟨by rfl, ?hy7q3⟩) (by assumption) ?rest7q3
    case hy7q3 => intro w hSw; (try dsimp only at hSw); have k9 := hSw.box; go_simp; (try with_reducible rfl)
    try simp only [Act.put, List.setIfInBounds_toArray, List.set_cons_zero, List.set_cons_succ]
    refine wpAnyH_take (i := 3) (v := ?v8q3) (by rw [List.getElem?_toArray]; exact rfl) (by kernel_rfl) (by kernel_rfl) (by kernel_rfl) (fun _ _ _ h => h) (Or.inl ⟨by rfl, ?hy8q3⟩) (by assumption) ?rest8q3
    case hy8q3 => intro w hSw; (try dsimp only at hSw); have k9 := hSw.box; go_simp; (try with_reducible rfl)
    try simp only [Act.put, List.setIfInBounds_toArray, List.set_cons_zero, List.set_cons_succ]
    refine wpAnyH_take (i := 4) (v := ?v9q3) (by rw [List.getElem?_toArray]; exact rfl) (by kernel_rfl) (by kernel_rfl) (by kernel_rfl) (fun _ _ _ h => h) (Or.inl ⟨by rfl, ?hy9q3⟩) (by assumption) ?rest9q3
    case hy9q3 => intro w hSw; (try dsimp only at hSw); have k9 := hSw.box; go_simp; (try with_reducible rfl)
    try simp only [Act.put, List.setIfInBounds_toArray, List.set_cons_zero, List.set_cons_succ]
    refine wpAnyH_take (i := 5) (v := ?v10q3) (by rw [List.getElem?_toArray]; exact rfl) (by kernel_rfl) (by kernel_rfl) (by kernel_rfl) (fun _ _ _ h => h) (Or.inl ⟨by rfl, ?hy10q3⟩) (by assumption) ?rest10q3
    case hy10q3 => intro w hSw; (try dsimp only at hSw); have k9 := hSw.box; go_simp; (try with_reducible rfl)
    try simp only [Act.put, List.setIfInBounds_toArray, List.set_cons_zero, List.set_cons_succ]
    refine wpAnyH_take (i := 6) (v := ?v11q3) (by rw [List.getElem?_toArray]; exact rfl) (by kernel_rfl) (by kernel_rfl) (by kernel_rfl) (fun _ _ _ h => h) (Or.inl ⟨by rfl, ?hy11q3⟩) (by assumption) ?rest11q3
    case hy11q3 => intro w hSw; (try dsimp only at hSw); have k9 := hSw.box; go_simp; (try with_reducible rfl)
    try simp only [Act.put, List.setIfInBounds_toArray, List.set_cons_zero, List.set_cons_succ]
    refine wpAnyH_take (i := 7) (v := ?v12q3) (by rw [List.getElem?_toArray]; exact rfl) (by kernel_rfl) (by kernel_rfl) (by kernel_rfl) (fun _ _ _ h => h) (Or.inl ⟨by rfl, ?hy12q3⟩) (by assumption) ?rest12q3
    case hy12q3 => intro w hSw; (try dsimp only at hSw); have k9 := hSw.box; go_simp; (try with_reducible rfl)
    try simp only [Act.put, List.setIfInBounds_toArray, List.set_cons_zero, List.set_cons_succ]
    refine wpAnyH_take (i := 8) (v := ?v13q3) (by rw [List.getElem?_toArray]; exact rfl) (by kernel_rfl) (by kernel_rfl) (by kernel_rfl) (fun _ _ _ h => h) (Or.inl ⟨by rfl, ?hy13q3⟩) (by assumption) ?rest13q3
    case hy13q3 => intro w hSw; (try dsimp only at hSw); have k9 := hSw.box; go_simp; (try with_reducible rfl)
    try simp only [Act.put, List.setIfInBounds_toArray, List.set_cons_zero, List.set_cons_succ]
    refine wpAnyH_take (i := 9) (v := ?v14q3) (by rw [List.getElem?_toArray]; exact rfl) (by kernel_rfl) (by kernel_rfl) (by kernel_rfl) (fun _ _ _ h => h) (Or.inl ⟨by rfl, ?hy14q3⟩) (by assumption) ?rest14q3
    case hy14q3 => intro w hSw; (try dsimp only at hSw); have k9 := hSw.box; go_simp; (try with_reducible rfl)
    try simp only [Act.put, List.setIfInBounds_toArray, List.set_cons_zero, List.set_cons_succ]
    refine wpAnyH_take (i := 10) (v := ?v15q3) (by rw [List.getElem?_toArray]; exact rfl) (by kernel_rfl) (by kernel_rfl) (by kernel_rfl) (fun _ _ _ h => h) (Or.inl ⟨by rfl, ?hy15q3⟩) (by assumption) ?rest15q3
    case hy15q3 => intro w hSw; (try dsimp only at hSw); have k9 := hSw.box; go_simp; (try with_reducible rfl)
    try simp only [Act.put, List.setIfInBounds_toArray, List.set_cons_zero, List.set_cons_succ]
    refine wpAnyH_take (i := 11) (v := ?v16q3) (by rw [List.getElem?_toArray]; exact rfl) (by kernel_rfl) (by kernel_rfl) (by kernel_rfl) (fun _ _ _ h => h) (Or.inl ⟨by rfl, ?hy16q3⟩) (by assumption) ?rest16q3
    case hy16q3 => intro w hSw; (try dsimp only at hSw); have k9 := hSw.box; go_simp; (try with_reducible rfl)
    try simp only [Act.put, List.setIfInBounds_toArray, List.set_cons_zero, List.set_cons_succ]
    refine wpAnyH_take (i := 13) (v := ?v17q3) (by rw [List.getElem?_toArray]; exact rfl) (by kernel_rfl) (by kernel_rfl) (by kernel_rfl) (fun _ _ _ h => h) (Or.inl ⟨by rfl, ?hy17q3⟩) (by assumption) ?rest17q3
    case hy17q3 => intro w hSw; (try dsimp only at hSw); have k9 := hSw.box; go_simp; (try with_reducible rfl)
    try simp only [Act.put, List.setIfInBounds_toArray, List.set_cons_zero, List.set_cons_succ]
    refine ready_call (i := 12) (by kernel_rfl) (by rw [List.getElem?_toArray]; exact rfl) (by kernel_rfl) (fun K1 hK1 => ?_)
    go_simp
    refine (num6_any q3 _).mono ?_
    rintro e wx ⟨rfl, rfl⟩
    go_simp
    refine hK1.out _ _ hs0 (fun _ => ?_)
    clear hK1 K1
    try simp only [Act.put, List.setIfInBounds_toArray, List.set_cons_zero, List.set_cons_succ]
    refine wpAnyH_take (i := 14) (v := ?v2q3) (by rw [List.getElem?_toArray]; exact rfl) (by kernel_rfl) (by kernel_rfl) (by kernel_rfl) (fun _ _ _ h => h) (Or.inl ⟨by rfl, ?hy2q3⟩) (by assumption) ?rest2q3
    case hy2q3 => intro w hSw; (try dsimp only at hSw); have k9 := hSw.box; go_simp; (try with_reducible rfl)
    try simp only [Act.put, List.setIfInBounds_toArray, List.set_cons_zero, List.set_cons_succ]
    refine wpAnyH_take (i := 15) (v := ?v3q3) (by rw [List.getElem?_toArray]; exact rfl) (by kernel_rfl) (by kernel_rfl) (by kernel_rfl) (fun _ _ _ h => h) (Or.inl ⟨by rfl, ?hy3q3⟩) (by assumption) ?rest3q3
    case hy3q3 => intro w hSw; (try dsimp only at hSw); have k9 := hSw.box; go_simp; (try with_reducible rfl)
    try simp only [Act.put, List.setIfInBounds_toArray, List.set_cons_zero, List.set_cons_succ]
    refine wpAnyH_take (i := 16) (v := ?v4q3) (by rw [List.getElem?_toArray]; exact rfl) (by kernel_rfl) (by kernel_rfl) (by kernel_rfl) (fun _ _ _ h => h) (Or.inl ⟨by rfl, ?hy4q3⟩) (by assumption) ?rest4q3
    case hy4q3 => intro w hSw; (try dsimp only at hSw); have k9 := hSw.box; go_simp; (try with_reducible rfl)
    try simp only [Act.put, List.setIfInBounds_toArray, List.set_cons_zero, List.set_cons_succ]
    refine ready_call (i := 17) (by kernel_rfl) (by rw [List.getElem?_toArray]; exact rfl) (by kernel_rfl) (fun K1 hK1 => ?_)
    obtain ⟨⟨z7, c7⟩, f7⟩ := hs0.can
    have HN := Lib.hid (hs0.told HW.out.size hBg)
    go_simp
    refine hK1.out _ _ HN.out.1 (fun _ => ?_)
    clear hK1 K1 c7 f7
    try simp only [Act.put, List.setIfInBounds_toArray, List.set_cons_zero, List.set_cons_succ]
    generalize (w4.setCell ⟨W.heap.size + 1 + 1, 0, none⟩ (.slice A1 (encR L').length k1)) = w5 at *
    have hs1 := HN.out.1
    refine wpAnyH_take (i := 18) (v := ?v1q3) (by rw [List.getElem?_toArray]; exact rfl) (by kernel_rfl) (by kernel_rfl) (by kernel_rfl) (fun _ _ _ h => h) (Or.inl ⟨by rfl, ?hy1q3⟩) (by assumption) ?rest1q3
    case hy1q3 => intro w hSw; (try dsimp only at hSw); have k9 := hSw.box; go_simp; (try with_reducible rfl)
    try simp only [Act.put, List.setIfInBounds_toArray, List.set_cons_zero, List.set_cons_succ]
    refine wpAnyH_done (by kernel_rfl) ?_ _
    refine NoPanic.normal ?_
    have c7 := HN.out.2
    go_wp2_with fail
    obtain ⟨⟨a9, m9, k9, h9⟩, h10, h11, h12⟩ := hs1
    exact bodyPost_ret (v := .tuple #[.pointer (some ⟨g, 0, none⟩), .agg #[.slice A1 (encR L').length k1], .bool true]) (by simp [results, Try.results11, go_sem, c7]) rfl ⟨g, _, L', rfl, h11, ⟨A1, k1, rfl, HK1.out, h12⟩, HL3.out, h9.keep⟩
  · refine (refTake_any A k (encR L) x n x0 x1 hle hk _ HV.out).mono ?_
    rintro e w1 ⟨⟨v1, rfl, hv1⟩, hb1⟩
    have HX1 := Lib.hid (HX.out.next (Keep6.below hb1))
    have HT1 := Lib.hid (HT.out.below hb1)
    clear hb1 HX HT HV
    obtain ⟨A1, k1, rfl, hk1, hl1⟩ := hv1
    have hb2 := box_below w1 (.cells #[.slice A1 (takeF (encR L) (x, n)).1.length k1] 28)
    have HL2 := Lib.hid (hl1.below hb2)
    have HX2 := Lib.hid (HX1.out.next (Keep6.below hb2))
    have HT2 := Lib.hid (HT1.out.below hb2)
    have hB := Blk.new w1 28 #[.slice A1 (takeF (encR L) (x, n)).1.length k1]
    have hBg : W.heap.size + 3 ≤ w1.heap.size := by have := HX1.out.b7.lt; omega
    have HB2 := Lib.hid hB
    have HP := Lib.hid (fun V hV => takeS2_any x n x0 x1 w g hh L M hcap V hV)
    have HK1 := Lib.hid hk1
    clear hb2 hl1 HX1 HT1 hB hk1
    obtain ⟨q, hq⟩ : ∃ q, takeF (encR L) (x, n) = q := ⟨_, rfl⟩
    rw [hq] at HP HL2 HB2 HK1 HX2 HT2 ⊢
    obtain ⟨ql, q1, q2, q3⟩ := q
    dsimp only at HP HL2 HB2 HK1 HX2 HT2 ⊢
    clear hq
    have m1 := HX2.out.b5.cell 1
    have m2 := HX2.out.b5.cell 2
    simp only [List.getElem?_toArray, List.getElem?_cons_zero, List.getElem?_cons_succ] at m1 m2
    go_wp2_with fail
    refine (HP.out _ HT2.out).mono ?_
    rintro e w3 ⟨rfl, L', hT3, hE, hl3, hk3⟩
    subst hE
    have HS3 : Hid (S8t hh M w W g L' A1 k1 w1.heap.size (.slice A (encR L).length k) c x n u w3) := Lib.hid (And.intro ⟨_, _, _, HX2.out.next hk3⟩ (And.intro (hk3.only.blk HB2.out (by decide) (by decide)) (And.intro hT3 (hk3.rows _ _ HL2.out))))
    have HL3 := Lib.hid hl3
    clear hT3 hl3 hk3 HX2 HB2 HL2 HT2 HP m1 m2
    go_wp2_with fail
    have hs0 : S8t hh M w W g L' A1 k1 w1.heap.size (.slice A (encR L).length k) c x n u w3.drew := HS3.out.below (below_drew w3)
    clear HS3
    refine wp_region_noPanic ?_
    refine wp_region_held_drew (S := S8t hh M w W g L' A1 k1 w1.heap.size (.slice A (encR L).length k) c x n u) (by kernel_rfl) hs0 ?_
    intro _
    generalize w3.drew = w4 at *
    refine wpAnyH_take (i := 0) (v := ?v5q4) (by rw [List.getElem?_toArray]; exact rfl) (by kernel_rfl) (by kernel_rfl) (by kernel_rfl) (fun _ _ _ h => h) (Or.inl ⟨by rfl, ?hy5q4⟩) (by assumption) ?rest5q4
    case hy5q4 => intro w hSw; (try dsimp only at hSw); have k9 := hSw.box; go_simp; (try with_reducible rfl)
    try simp only [Act.put, List.setIfInBounds_toArray, List.set_cons_zero, List.set_cons_succ]
    refine wpAnyH_take (i := 1) (v := ?v6q4) (by rw [List.getElem?_toArray]; exact rfl) (by kernel_rfl) (by kernel_rfl) (by kernel_rfl) (fun _ _ _ h => h) (Or.inl ⟨by rfl, ?hy6q4⟩) (by assumption) ?rest6q4
    case hy6q4 => intro w hSw; (try dsimp only at hSw); have k9 := hSw.box; go_simp; (try with_reducible rfl)
    try simp only [Act.put, List.setIfInBounds_toArray, List.set_cons_zero, List.set_cons_succ]
    refine wpAnyH_take (i := 2) (v := ?v7q4) (by rw [List.getElem?_toArray]; exact rfl) (by kernel_rfl) (by kernel_rfl) (by kernel_rfl) (fun _ _ _ h => h) (Or.inl ⟨by rfl, ?hy7q4⟩) (by assumption) ?rest7q4
    case hy7q4 => intro w hSw; (try dsimp only at hSw); have k9 := hSw.box; go_simp; (try with_reducible rfl)
    try simp only [Act.put, List.setIfInBounds_toArray, List.set_cons_zero, List.set_cons_succ]
    refine wpAnyH_take (i := 3) (v := ?v8q4) (by rw [List.getElem?_toArray]; exact rfl) (by kernel_rfl) (by kernel_rfl) (by kernel_rfl) (fun _ _ _ h => h) (Or.inl ⟨by rfl, ?hy8q4⟩) (by assumption) ?rest8q4
    case hy8q4 => intro w hSw; (try dsimp only at hSw); have k9 := hSw.box; go_simp; (try with_reducible rfl)
    try simp only [Act.put, List.setIfInBounds_toArray, List.set_cons_zero, List.set_cons_succ]
    refine wpAnyH_take (i := 4) (v := ?v9q4) (by rw [List.getElem?_toArray]; exact rfl) (by kernel_rfl) (by kernel_rfl) (by kernel_rfl) (fun _ _ _ h => h) (Or.inl ⟨by rfl, ?hy9q4⟩) (by assumption) ?rest9q4
    case hy9q4 => intro w hSw; (try dsimp only at hSw); have k9 := hSw.box; go_simp; (try with_reducible rfl)
    try simp only [Act.put, List.setIfInBounds_toArray, List.set_cons_zero, List.set_cons_succ]
    refine wpAnyH_take (i := 5) (v := ?v10q4) (by rw [List.getElem?_toArray]; exact rfl) (by kernel_rfl) (by kernel_rfl) (by kernel_rfl) (fun _ _ _ h => h) (Or.inl ⟨by rfl, ?hy10q4⟩) (by assumption) ?rest10q4
    case hy10q4 => intro w hSw; (try dsimp only at hSw); have k9 := hSw.box; go_simp; (try with_reducible rfl)
    try simp only [Act.put, List.setIfInBounds_toArray, List.set_cons_zero, List.set_cons_succ]
    refine wpAnyH_take (i := 6) (v := ?v11q4) (by rw [List.getElem?_toArray]; exact rfl) (by kernel_rfl) (by kernel_rfl) (by kernel_rfl) (fun _ _ _ h => h) (Or.inl ⟨by rfl, ?hy11q4⟩) (by assumption) ?rest11q4
    case hy11q4 => intro w hSw; (try dsimp only at hSw); have k9 := hSw.box; go_simp; (try with_reducible rfl)
    try simp only [Act.put, List.setIfInBounds_toArray, List.set_cons_zero, List.set_cons_succ]
    refine wpAnyH_take (i := 7) (v := ?v12q4) (by rw [List.getElem?_toArray]; exact rfl) (by kernel_rfl) (by kernel_rfl) (by kernel_rfl) (fun _ _ _ h => h) (Or.inl ⟨by rfl, ?hy12q4⟩) (by assumption) ?rest12q4
    case hy12q4 => intro w hSw; (try dsimp only at hSw); have k9 := hSw.box; go_simp; (try with_reducible rfl)
    try simp only [Act.put, List.setIfInBounds_toArray, List.set_cons_zero, List.set_cons_succ]
    refine wpAnyH_take (i := 8) (v := ?v13q4) (by rw [List.getElem?_toArray]; exact rfl) (by kernel_rfl) (by kernel_rfl) (by kernel_rfl) (fun _ _ _ h => h) (Or.inl ⟨by rfl, ?hy13q4⟩) (by assumption) ?rest13q4
    case hy13q4 => intro w hSw; (try dsimp only at hSw); have k9 := hSw.box; go_simp; (try with_reducible rfl)
    try simp only [Act.put, List.setIfInBounds_toArray, List.set_cons_zero, List.set_cons_succ]
    refine wpAnyH_take (i := 9) (v := ?v14q4) (by rw [List.getElem?_toArray]; exact rfl) (by kernel_rfl) (by kernel_rfl) (by kernel_rfl) (fun _ _ _ h => h) (Or.inl ⟨by rfl, ?hy14q4⟩) (by assumption) ?rest14q4
    case hy14q4 => intro w hSw; (try dsimp only at hSw); have k9 := hSw.box; go_simp; (try with_reducible rfl)
    try simp only [Act.put, List.setIfInBounds_toArray, List.set_cons_zero, List.set_cons_succ]
    refine wpAnyH_take (i := 10) (v := ?v15q4) (by rw [List.getElem?_toArray]; exact rfl) (by kernel_rfl) (by kernel_rfl) (by kernel_rfl) (fun _ _ _ h => h) (Or.inl ⟨by rfl, ?hy15q4⟩) (by assumption) ?rest15q4
    case hy15q4 => intro w hSw; (try dsimp only at hSw); have k9 := hSw.box; go_simp; (try with_reducible rfl)
    try simp only [Act.put, List.setIfInBounds_toArray, List.set_cons_zero, List.set_cons_succ]
    refine wpAnyH_take (i := 11) (v := ?v16q4) (by rw [List.getElem?_toArray]; exact rfl) (by kernel_rfl) (by kernel_rfl) (by kernel_rfl) (fun _ _ _ h => h) (Or.inl ⟨by rfl, ?hy16q4⟩) (by assumption) ?rest16q4
    case hy16q4 => intro w hSw; (try dsimp only at hSw); have k9 := hSw.box; go_simp; (try with_reducible rfl)
    try simp only [Act.put, List.setIfInBounds_toArray, List.set_cons_zero, List.set_cons_succ]
    refine wpAnyH_take (i := 13) (v := ?v17q4) (by rw [List.getElem?_toArray]; exact rfl) (by kernel_rfl) (by kernel_rfl) (by kernel_rfl) (fun _ _ _ h => h) (Or.inl ⟨by rfl, ?hy17q4⟩) (by assumption) ?rest17q4
    case hy17q4 => intro w hSw; (try dsimp only at hSw); have k9 := hSw.box; go_simp; (try with_reducible rfl)
    try simp only [Act.put, List.setIfInBounds_toArray, List.set_cons_zero, List.set_cons_succ]
    refine ready_call (i := 12) (by kernel_rfl) (by rw [List.getElem?_toArray]; exact rfl) (by kernel_rfl) (fun K1 hK1 => ?_)
    go_simp
    refine (num6_any q3 _).mono ?_
    rintro e wx ⟨rfl, rfl⟩
    go_simp
    refine hK1.out _ _ hs0 (fun _ => ?_)
    clear hK1 K1
    try simp only [Act.put, List.setIfInBounds_toArray, List.set_cons_zero, List.set_cons_succ]
    refine wpAnyH_take (i := 14) (v := ?v2q4) (by rw [List.getElem?_toArray]; exact rfl) (by kernel_rfl) (by kernel_rfl) (by kernel_rfl) (fun _ _ _ h => h) (Or.inl ⟨by rfl, ?hy2q4⟩) (by assumption) ?rest2q4
    case hy2q4 => intro w hSw; (try dsimp only at hSw); have k9 := hSw.box; go_simp; (try with_reducible rfl)
    try simp only [Act.put, List.setIfInBounds_toArray, List.set_cons_zero, List.set_cons_succ]
    refine wpAnyH_take (i := 15) (v := ?v3q4) (by rw [List.getElem?_toArray]; exact rfl) (by kernel_rfl) (by kernel_rfl) (by kernel_rfl) (fun _ _ _ h => h) (Or.inl ⟨by rfl, ?hy3q4⟩) (by assumption) ?rest3q4
    case hy3q4 => intro w hSw; (try dsimp only at hSw); have k9 := hSw.box; go_simp; (try with_reducible rfl)
    try simp only [Act.put, List.setIfInBounds_toArray, List.set_cons_zero, List.set_cons_succ]
    refine wpAnyH_take (i := 16) (v := ?v4q4) (by rw [List.getElem?_toArray]; exact rfl) (by kernel_rfl) (by kernel_rfl) (by kernel_rfl) (fun _ _ _ h => h) (Or.inl ⟨by rfl, ?hy4q4⟩) (by assumption) ?rest4q4
    case hy4q4 => intro w hSw; (try dsimp only at hSw); have k9 := hSw.box; go_simp; (try with_reducible rfl)
    try simp only [Act.put, List.setIfInBounds_toArray, List.set_cons_zero, List.set_cons_succ]
    refine ready_call (i := 17) (by kernel_rfl) (by rw [List.getElem?_toArray]; exact rfl) (by kernel_rfl) (fun K1 hK1 => ?_)
    obtain ⟨⟨z7, c7⟩, f7⟩ := hs0.can
    have HN := Lib.hid (hs0.told HW.out.size hBg)
    go_simp
    refine hK1.out _ _ HN.out.1 (fun _ => ?_)
    clear hK1 K1 c7 f7
    try simp only [Act.put, List.setIfInBounds_toArray, List.set_cons_zero, List.set_cons_succ]
    generalize (w4.setCell ⟨W.heap.size + 1 + 1, 0, none⟩ (.slice A1 (encR L').length k1)) = w5 at *
    have hs1 := HN.out.1
    refine wpAnyH_take (i := 18) (v := ?v1q4) (by rw [List.getElem?_toArray]; exact rfl) (by kernel_rfl) (by kernel_rfl) (by kernel_rfl) (fun _ _ _ h => h) (Or.inl ⟨by rfl, ?hy1q4⟩) (by assumption) ?rest1q4
    case hy1q4 => intro w hSw; (try dsimp only at hSw); have k9 := hSw.box; go_simp; (try with_reducible rfl)
    try simp only [Act.put, List.setIfInBounds_toArray, List.set_cons_zero, List.set_cons_succ]
    refine wpAnyH_done (by kernel_rfl) ?_ _
    refine NoPanic.normal ?_
    have c7 := HN.out.2
    go_wp2_with fail
    obtain ⟨⟨a9, m9, k9, h9⟩, h10, h11, h12⟩ := hs1
    exact bodyPost_ret (v := .tuple #[.pointer (some ⟨g, 0, none⟩), .agg #[.slice A1 (encR L').length k1], .bool true]) (by simp [results, Try.results11, go_sem, c7]) rfl ⟨g, _, L', rfl, h11, ⟨A1, k1, rfl, HK1.out, h12⟩, HL3.out, h9.keep⟩
  · refine (refTake_any A k (encR L) x n x0 x1 hle hk _ HV.out).mono ?_
    rintro e w1 ⟨⟨v1, rfl, hv1⟩, hb1⟩
    have HX1 := Lib.hid (HX.out.next (Keep6.below hb1))
    have HT1 := Lib.hid (HT.out.below hb1)
    clear hb1 HX HT HV
    obtain ⟨A1, k1, rfl, hk1, hl1⟩ := hv1
    have hb2 := box_below w1 (.cells #[.slice A1 (takeF (encR L) (x, n)).1.length k1] 28)
    have HL2 := Lib.hid (hl1.below hb2)
    have HX2 := Lib.hid (HX1.out.next (Keep6.below hb2))
    have HT2 := Lib.hid (HT1.out.below hb2)
    have hB := Blk.new w1 28 #[.slice A1 (takeF (encR L) (x, n)).1.length k1]
    have hBg : W.heap.size + 3 ≤ w1.heap.size := by have := HX1.out.b7.lt; omega
    have HB2 := Lib.hid hB
    have HP := Lib.hid (fun V hV => takeS2_any x n x0 x1 w g hh L M hcap V hV)
    have HK1 := Lib.hid hk1
    clear hb2 hl1 HX1 HT1 hB hk1
    obtain ⟨q, hq⟩ : ∃ q, takeF (encR L) (x, n) = q := ⟨_, rfl⟩
    rw [hq] at HP HL2 HB2 HK1 HX2 HT2 ⊢
    obtain ⟨ql, q1, q2, q3⟩ := q
    dsimp only at HP HL2 HB2 HK1 HX2 HT2 ⊢
    clear hq
    have m1 := HX2.out.b5.cell 1
    have m2 := HX2.out.b5.cell 2
    simp only [List.getElem?_toArray, List.getElem?_cons_zero, List.getElem?_cons_succ] at m1 m2
    go_wp2_with fail
    refine (HP.out _ HT2.out).mono ?_
    rintro e w3 ⟨rfl, L', hT3, hE, hl3, hk3⟩
    subst hE
    have HS3 : Hid (S8t hh M w W g L' A1 k1 w1.heap.size (.slice A (encR L).length k) c x n u w3) := Lib.hid (And.intro ⟨_, _, _, HX2.out.next hk3⟩ (And.intro (hk3.only.blk HB2.out (by decide) (by decide)) (And.intro hT3 (hk3.rows _ _ HL2.out))))
    have HL3 := Lib.hid hl3
    clear hT3 hl3 hk3 HX2 HB2 HL2 HT2 HP m1 m2
    go_wp2_with fail
    have hs0 : S8t hh M w W g L' A1 k1 w1.heap.size (.slice A (encR L).length k) c x n u w3.drew := HS3.out.below (below_drew w3)
    clear HS3
    refine wp_region_noPanic ?_
    refine wp_region_held_drew (S := S8t hh M w W g L' A1 k1 w1.heap.size (.slice A (encR L).length k) c x n u) (by kernel_rfl) hs0 ?_
    intro _
    generalize w3.drew = w4 at *
    refine wpAnyH_take (i := 0) (v := ?v5q5) (by rw [List.getElem?_toArray]; exact rfl) (by kernel_rfl) (by kernel_rfl) (by kernel_rfl) (fun _ _ _ h => h) (Or.inl ⟨by rfl, ?hy5q5⟩) (by assumption) ?rest5q5
    case hy5q5 => intro w hSw; (try dsimp only at hSw); have k9 := hSw.box; go_simp; (try with_reducible rfl)
    try simp only [Act.put, List.setIfInBounds_toArray, List.set_cons_zero, List.set_cons_succ]
    refine wpAnyH_take (i := 1) (v := ?v6q5) (by rw [List.getElem?_toArray]; exact rfl) (by kernel_rfl) (by kernel_rfl) (by kernel_rfl) (fun _ _ _ h => h) (Or.inl ⟨by rfl, ?hy6q5⟩) (by assumption) ?rest6q5
    case hy6q5 => intro w hSw; (try dsimp only at hSw); have k9 := hSw.box; go_simp; (try with_reducible rfl)
    try simp only [Act.put, List.setIfInBounds_toArray, List.set_cons_zero, List.set_cons_succ]
    refine wpAnyH_take (i := 2) (v := ?v7q5) (by rw [List.getElem?_toArray]; exact rfl) (by kernel_rfl) (by kernel_rfl) (by kernel_rfl) (fun _ _ _ h => h) (Or.inl ⟨by rfl, ?hy7q5⟩) (by assumption) ?rest7q5
    case hy7q5 => intro w hSw; (try dsimp only at hSw); have k9 := hSw.box; go_simp; (try with_reducible rfl)
    try simp only [Act.put, List.setIfInBounds_toArray, List.set_cons_zero, List.set_cons_succ]
    refine wpAnyH_take (i := 3) (v := ?v8q5) (by rw [List.getElem?_toArray]; exact rfl) (by kernel_rfl) (by kernel_rfl) (by kernel_rfl) (fun _ _ _ h => h) (Or.inl ⟨by rfl, ?hy8q5⟩) (by assumption) ?rest8q5
    case hy8q5 => intro w hSw; (try dsimp only at hSw); have k9 := hSw.box; go_simp; (try with_reducible rfl)
    try simp only [Act.put, List.setIfInBounds_toArray, List.set_cons_zero, List.set_cons_succ]
    refine wpAnyH_take (i := 4) (v := ?v9q5) (by rw [List.getElem?_toArray]; exact rfl) (by kernel_rfl) (by kernel_rfl) (by kernel_rfl) (fun _ _ _ h => h) (Or.inl ⟨by rfl, ?hy9q5⟩) (by assumption) ?rest9q5
    case hy9q5 => intro w hSw; (try dsimp only at hSw); have k9 := hSw.box; go_simp; (try with_reducible rfl)
    try simp only [Act.put, List.setIfInBounds_toArray, List.set_cons_zero, List.set_cons_succ]
    refine wpAnyH_take (i := 5) (v := ?v10q5) (by rw [List.getElem?_toArray]; exact rfl) (by kernel_rfl) (by kernel_rfl) (by kernel_rfl) (fun _ _ _ h => h) (Or.inl ⟨by rfl, ?hy10q5⟩) (by assumption) ?rest10q5
    case hy10q5 => intro w hSw; (try dsimp only at hSw); have k9 := hSw.box; go_simp; (try with_reducible rfl)
    try simp only [Act.put, List.setIfInBounds_toArray, List.set_cons_zero, List.set_cons_succ]
    refine wpAnyH_take (i := 6) (v := ?v11q5) (by rw [List.getElem?_toArray]; exact rfl) (by kernel_rfl) (by kernel_rfl) (by kernel_rfl) (fun _ _ _ h => h) (Or.inl ⟨by rfl, ?hy11q5⟩) (by assumption) ?rest11q5
    case hy11q5 => intro w hSw; (try dsimp only at hSw); have k9 := hSw.box; go_simp; (try with_reducible rfl)
    try simp only [Act.put, List.setIfInBounds_toArray, List.set_cons_zero, List.set_cons_succ]
    refine wpAnyH_take (i := 7) (v := ?v12q5) (by rw [List.getElem?_toArray]; exact rfl) (by kernel_rfl) (by kernel_rfl) (by kernel_rfl) (fun _ _ _ h => h) (Or.inl ⟨by rfl, ?hy12q5⟩) (by assumption) ?rest12q5
    case hy12q5 => intro w hSw; (try dsimp only at hSw); have k9 := hSw.box; go_simp; (try with_reducible rfl)
    try simp only [Act.put, List.setIfInBounds_toArray, List.set_cons_zero, List.set_cons_succ]
    refine wpAnyH_take (i := 8) (v := ?v13q5) (by rw [List.getElem?_toArray]; exact rfl) (by kernel_rfl) (by kernel_rfl) (by kernel_rfl) (fun _ _ _ h => h) (Or.inl ⟨by rfl, ?hy13q5⟩) (by assumption) ?rest13q5
    case hy13q5 => intro w hSw; (try dsimp only at hSw); have k9 := hSw.box; go_simp; (try with_reducible rfl)
    try simp only [Act.put, List.setIfInBounds_toArray, List.set_cons_zero, List.set_cons_succ]
    refine wpAnyH_take (i := 9) (v := ?v14q5) (by rw [List.getElem?_toArray]; exact rfl) (by kernel_rfl) (by kernel_rfl) (by kernel_rfl) (fun _ _ _ h => h) (Or.inl ⟨by rfl, ?hy14q5⟩) (by assumption) ?rest14q5
    case hy14q5 => intro w hSw; (try dsimp only at hSw); have k9 := hSw.box; go_simp; (try with_reducible rfl)
    try simp only [Act.put, List.setIfInBounds_toArray, List.set_cons_zero, List.set_cons_succ]
    refine wpAnyH_take (i := 10) (v := ?v15q5) (by rw [List.getElem?_toArray]; exact rfl) (by kernel_rfl) (by kernel_rfl) (by kernel_rfl) (fun _ _ _ h => h) (Or.inl ⟨by rfl, ?hy15q5⟩) (by assumption) ?rest15q5
    case hy15q5 => intro w hSw; (try dsimp only at hSw); have k9 := hSw.box; go_simp; (try with_reducible rfl)
    try simp only [Act.put, List.setIfInBounds_toArray, List.set_cons_zero, List.set_cons_succ]
    refine wpAnyH_take (i := 11) (v := ?v16q5) (by rw [List.getElem?_toArray]; exact rfl) (by kernel_rfl) (by kernel_rfl) (by kernel_rfl) (fun _ _ _ h => h) (Or.inl ⟨by rfl, ?hy16q5⟩) (by assumption) ?rest16q5
    case hy16q5 => intro w hSw; (try dsimp only at hSw); have k9 := hSw.box; go_simp; (try with_reducible rfl)
    try simp only [Act.put, List.setIfInBounds_toArray, List.set_cons_zero, List.set_cons_succ]
    refine wpAnyH_take (i := 13) (v := ?v17q5) (by rw [List.getElem?_toArray]; exact rfl) (by kernel_rfl) (by kernel_rfl) (by kernel_rfl) (fun _ _ _ h => h) (Or.inl ⟨by rfl, ?hy17q5⟩) (by assumption) ?rest17q5
    case hy17q5 => intro w hSw; (try dsimp only at hSw); have k9 := hSw.box; go_simp; (try with_reducible rfl)
    try simp only [Act.put, List.setIfInBounds_toArray, List.set_cons_zero, List.set_cons_succ]
    refine ready_call (i := 12) (by kernel_rfl) (by rw [List.getElem?_toArray]; exact rfl) (by kernel_rfl) (fun K1 hK1 => ?_)
    go_simp
    refine (num6_any q3 _).mono ?_
    rintro e wx ⟨rfl, rfl⟩
    go_simp
    refine hK1.out _ _ hs0 (fun _ => ?_)
    clear hK1 K1
    try simp only [Act.put, List.setIfInBounds_toArray, List.set_cons_zero, List.set_cons_succ]
    refine wpAnyH_take (i := 14) (v := ?v2q5) (by rw [List.getElem?_toArray]; exact rfl) (by kernel_rfl) (by kernel_rfl) (by kernel_rfl) (fun _ _ _ h => h) (Or.inl ⟨by rfl, ?hy2q5⟩) (by assumption) ?rest2q5
    case hy2q5 => intro w hSw; (try dsimp only at hSw); have k9 := hSw.box; go_simp; (try with_reducible rfl)
    try simp only [Act.put, List.setIfInBounds_toArray, List.set_cons_zero, List.set_cons_succ]
    refine wpAnyH_take (i := 15) (v := ?v3q5) (by rw [List.getElem?_toArray]; exact rfl) (by kernel_rfl) (by kernel_rfl) (by kernel_rfl) (fun _ _ _ h => h) (Or.inl ⟨by rfl, ?hy3q5⟩) (by assumption) ?rest3q5
    case hy3q5 => intro w hSw; (try dsimp only at hSw); have k9 := hSw.box; go_simp; (try with_reducible rfl)
    try simp only [Act.put, List.setIfInBounds_toArray, List.set_cons_zero, List.set_cons_succ]
    refine wpAnyH_take (i := 16) (v := ?v4q5) (by rw [List.getElem?_toArray]; exact rfl) (by kernel_rfl) (by kernel_rfl) (by kernel_rfl) (fun _ _ _ h => h) (Or.inl ⟨by rfl, ?hy4q5⟩) (by assumption) ?rest4q5
    case hy4q5 => intro w hSw; (try dsimp only at hSw); have k9 := hSw.box; go_simp; (try with_reducible rfl)
    try simp only [Act.put, List.setIfInBounds_toArray, List.set_cons_zero, List.set_cons_succ]
    refine ready_call (i := 17) (by kernel_rfl) (by rw [List.getElem?_toArray]; exact rfl) (by kernel_rfl) (fun K1 hK1 => ?_)
    obtain ⟨⟨z7, c7⟩, f7⟩ := hs0.can
    have HN := Lib.hid (hs0.told HW.out.size hBg)
    go_simp
    refine hK1.out _ _ HN.out.1 (fun _ => ?_)
    clear hK1 K1 c7 f7
    try simp only [Act.put, List.setIfInBounds_toArray, List.set_cons_zero, List.set_cons_succ]
    generalize (w4.setCell ⟨W.heap.size + 1 + 1, 0, none⟩ (.slice A1 (encR L').length k1)) = w5 at *
    have hs1 := HN.out.1
    refine wpAnyH_take (i := 18) (v := ?v1q5) (by rw [List.getElem?_toArray]; exact rfl) (by kernel_rfl) (by kernel_rfl) (by kernel_rfl) (fun _ _ _ h => h) (Or.inl ⟨by rfl, ?hy1q5⟩) (by assumption) ?rest1q5
    case hy1q5 => intro w hSw; (try dsimp only at hSw); have k9 := hSw.box; go_simp; (try with_reducible rfl)
    try simp only [Act.put, List.setIfInBounds_toArray, List.set_cons_zero, List.set_cons_succ]
    refine wpAnyH_done (by kernel_rfl) ?_ _
    refine NoPanic.normal ?_
    have c7 := HN.out.2
    go_wp2_with fail
    obtain ⟨⟨a9, m9, k9, h9⟩, h10, h11, h12⟩ := hs1
    exact bodyPost_ret (v := .tuple #[.pointer (some ⟨g, 0, none⟩), .agg #[.slice A1 (encR L').length k1], .bool true]) (by simp [results, Try.results11, go_sem, c7]) rfl ⟨g, _, L', rfl, h11, ⟨A1, k1, rfl, HK1.out, h12⟩, HL3.out, h9.keep⟩
  · have hs0 : S9t hh M W A (encR L).length k c x n u w g L W3.drew := S9t.below ⟨⟨_, _, _, HX.out⟩, HT.out, HV.out⟩ (below_drew W3)
    clear HX HT HV
    refine wp_region_noPanic ?_
    refine wp_region_held_drew (S := S9t hh M W A (encR L).length k c x n u w g L) (by kernel_rfl) hs0 ?_
    intro _
    generalize W3.drew = w4 at *
    refine wpAnyH_take (i := 0) (v := ?v20q6) (by rw [List.getElem?_toArray]; exact rfl) (by kernel_rfl) (by kernel_rfl) (by kernel_rfl) (fun _ _ _ h => h) (Or.inl ⟨by rfl, ?hy20q6⟩) (by assumption) ?rest20q6
    case hy20q6 => intro w hSw; (try dsimp only at hSw); have k9 := hSw.box; go_simp; (try with_reducible rfl)
    try simp only [Act.put, List.setIfInBounds_toArray, List.set_cons_zero, List.set_cons_succ]
    refine wpAnyH_take (i := 2) (v := ?v21q6) (by rw [List.getElem?_toArray]; exact rfl) (by kernel_rfl) (by kernel_rfl) (by kernel_rfl) (fun _ _ _ h => h) (Or.inl ⟨by rfl, ?hy21q6⟩) (by assumption) ?rest21q6
    case hy21q6 => intro w hSw; (try dsimp only at hSw); have k9 := hSw.box; go_simp; (try with_reducible rfl)
    try simp only [Act.put, List.setIfInBounds_toArray, List.set_cons_zero, List.set_cons_succ]
    refine ready_call (i := 1) (by kernel_rfl) (by rw [List.getElem?_toArray]; exact rfl) (by kernel_rfl) (fun K1 hK1 => ?_)
    go_simp
    refine (copyT_any w g L hcap w4 hs0.2.1.one).mono ?_
    rintro e w5 ⟨g', rfl, hO, hb5⟩
    go_simp
    have hs1 := hs0.below hb5
    have HO := Lib.hid (TwoT.new hs0.2.1.two hb5 hO (Nat.le_refl _)).swap
    clear hO hb5
    refine hK1.out _ _ hs1 (fun _ => ?_)
    clear hK1 K1
    try simp only [Act.put, List.setIfInBounds_toArray, List.set_cons_zero, List.set_cons_succ]
    refine wpAnyH_take (i := 3) (v := ?v18q6) (by rw [List.getElem?_toArray]; exact rfl) (by kernel_rfl) (by kernel_rfl) (by kernel_rfl) (fun _ _ _ h => h) (Or.inl ⟨by rfl, ?hy18q6⟩) (by assumption) ?rest18q6
    case hy18q6 => intro w hSw; (try dsimp only at hSw); have k9 := hSw.box; go_simp; (try with_reducible rfl)
    try simp only [Act.put, List.setIfInBounds_toArray, List.set_cons_zero, List.set_cons_succ]
    refine ready_call (i := 4) (by kernel_rfl) (by rw [List.getElem?_toArray]; exact rfl) (by kernel_rfl) (fun K1 hK1 => ?_)
    obtain ⟨⟨z7, c7⟩, f7⟩ := hs1.can
    have HN := Lib.hid (hs1.told HW.out.size)
    go_simp
    refine hK1.out _ _ HN.out.1 (fun _ => ?_)
    clear hK1 K1 c7 f7
    try simp only [Act.put, List.setIfInBounds_toArray, List.set_cons_zero, List.set_cons_succ]
    have HO2 := Lib.hid (HN.out.2.2 g' L HO.out)
    generalize (w5.setCell ⟨W.heap.size + 1 + 1, 0, none⟩ (.slice A (encR L).length k)) = w6 at *
    have hs2 := HN.out.1
    clear hs0 hs1
    refine wpAnyH_take (i := 5) (v := ?v19q6) (by rw [List.getElem?_toArray]; exact rfl) (by kernel_rfl) (by kernel_rfl) (by kernel_rfl) (fun _ _ _ h => h) (Or.inl ⟨by rfl, ?hy19q6⟩) (by assumption) ?rest19q6
    case hy19q6 => intro w hSw; (try dsimp only at hSw); have k9 := hSw.box; go_simp; (try with_reducible rfl)
    try simp only [Act.put, List.setIfInBounds_toArray, List.set_cons_zero, List.set_cons_succ]
    refine wpAnyH_done (by kernel_rfl) ?_ _
    refine NoPanic.normal ?_
    have c7 := HN.out.2.1
    go_wp2_with fail
    obtain ⟨⟨a9, m9, k9, h9⟩, h10, h11⟩ := hs2
    exact bodyPost_ret (v := .tuple #[.pointer (some ⟨g', 0, none⟩), .agg #[.slice A (encR L).length k], .bool true]) (by simp [results, Try.results11, go_sem, c7]) rfl ⟨g', _, L, rfl, HO2.out, ⟨A, k, rfl, hk, h11⟩, hcap, h9.keep⟩
end T6
end Go.Proofs.Ytghkacciihocdaa

namespace Go.Proofs.Ytghkacciihocdaa
open Go Go.RowKit Go.Shelf Go.Sort
attribute [local go_sem] Oper.semAt_some
attribute [local irreducible] wpQuiet
namespace T6

theorem OwnT.few {w W : World} {g : Nat} {L : List (Key × Int)} (h : OwnT w g L W) (hcap : L.length ≤ 512) : (skeys L).length ≤ 1023 := by
  obtain ⟨t, h1, rfl, _⟩ := h
  rw [← keys_rows h1.wf]
  have := nodes_most h1.wf
  omega
set_option maxRecDepth 100000 in
set_option maxHeartbeats 3200000 in
theorem is6_any (w : World) (g : Nat) (L : List (Key × Int)) (hcap : L.length ≤ 512) (W : World) (h : OwnT w g L W) (A : Option Addr) (k : Nat) (hA : LiesS W A (rowCs (encR L))) :
    Calls Try.prog 14 #[.pointer (some ⟨g, 0, none⟩), .agg #[.slice A (encR L).length k]] W fun e w' => e = .returned (.bool true) ∧ Below W.heap.size W w' := by
  have hb0 := box_below W (.cells #[.slice A (encR L).length k] 28)
  have HX := Lib.hid (And.intro hb0 (Blk.new W 28 #[.slice A (encR L).length k]))
  have HT := Lib.hid (h.below hb0)
  have HV := Lib.hid (hA.below hb0)
  have hsr := h.srow
  have hfit := h.fit
  have hfew := h.few hcap
  clear hb0 hA h
  go_enter Try.func14, Try.ntmps14
  have r0 := HX.out.2.cell 0
  simp only [List.getElem?_toArray, List.getElem?_cons_zero] at r0
  go_wp2_with fail
  generalize (W.alloc (.cells #[.slice A (encR L).length k] 28)) = W1 at *
  refine (refAll6_any A k (encR L) (by rw [encR_len]; omega) (fair6_enc hfit) W1 HV.out).mono ?_
  rintro e w2 ⟨v, rfl, ho, hb2⟩
  obtain ⟨A5, c5, rfl⟩ := own_slice ho
  have hl5 := lies_own ho
  rw [all_enc hfit] at hl5
  have hl5 := lies_pfxs hl5
  rw [all_enc hfit, List.length_map]
  have hkf : ((skeys L).map kp).length ≤ 1000000 := by rw [List.length_map]; omega
  have HD := Lib.hid (fun (V : World) (hV : Pfxs V A5 ((skeys L).map kp)) => refDepth_any A5 c5 ((skeys L).map kp) hkf (fair_enc (skeys_fit hfit)) V hV)
  rw [List.length_map, depth_enc (skeys_fit hfit)] at HD
  have HX2 : Hid (Below W.heap.size W w2 ∧ Blk w2 W.heap.size 28 #[.slice A (encR L).length k] ∧ OwnT w g L w2 ∧ LiesS w2 A (rowCs (encR L)) ∧ Pfxs w2 A5 ((skeys L).map kp)) := Lib.hid ⟨HX.out.1.trans (hb2.mono HX.out.1.size), HX.out.2.below hb2 HX.out.2.lt, HT.out.below hb2, HV.out.below hb2, hl5⟩
  have hfrom := filter_from hfit
  clear ho hl5 hb2 HX HT HV r0 hkf
  have HND := Lib.hid (fun (V : World) (hV : OwnT w g L V) => nodesT_any w g L hcap V hV)
  have HDP := Lib.hid (fun (V : World) (hV : OwnT w g L V) => depthT'_any w g L hcap V hV)
  generalize skeys L = M at *
  go_wp2_with fail
  have hs0 : Below w2.heap.size w2 w2.drew := below_drew w2
  refine wp_region_noPanic ?_
  refine wp_region_held_drew (S := fun V => Below w2.heap.size w2 V) (by kernel_rfl) hs0 ?_
  intro _
  generalize w2.drew = w4 at *
  refine wpAnyH_take (i := 0) (v := ?v1) (by rw [List.getElem?_toArray]; exact rfl) (by kernel_rfl) (by kernel_rfl) (by kernel_rfl) (fun _ _ _ h => h) (Or.inl ⟨by rfl, ?hy1⟩) (by assumption) ?rest1
  case hy1 => intro w hSw; (try dsimp only at hSw); have k9 := (HX2.out.2.1.below hSw HX2.out.2.1.lt).cell 0; simp only [List.getElem?_toArray, List.getElem?_cons_zero] at k9; go_simp; (try with_reducible rfl)
  try simp only [Act.put, List.setIfInBounds_toArray, List.set_cons_zero, List.set_cons_succ]
  refine wpAnyH_take (i := 1) (v := ?v2) (by rw [List.getElem?_toArray]; exact rfl) (by kernel_rfl) (by kernel_rfl) (by kernel_rfl) (fun _ _ _ h => h) (Or.inl ⟨by rfl, ?hy2⟩) (by assumption) ?rest2
  case hy2 => intro w hSw; (try dsimp only at hSw); have k9 := (HX2.out.2.1.below hSw HX2.out.2.1.lt).cell 0; simp only [List.getElem?_toArray, List.getElem?_cons_zero] at k9; go_simp; (try with_reducible rfl)
  try simp only [Act.put, List.setIfInBounds_toArray, List.set_cons_zero, List.set_cons_succ]
  refine wpAnyH_take (i := 3) (v := ?v3) (by rw [List.getElem?_toArray]; exact rfl) (by kernel_rfl) (by kernel_rfl) (by kernel_rfl) (fun _ _ _ h => h) (Or.inl ⟨by rfl, ?hy3⟩) (by assumption) ?rest3
  case hy3 => intro w hSw; (try dsimp only at hSw); have k9 := (HX2.out.2.1.below hSw HX2.out.2.1.lt).cell 0; simp only [List.getElem?_toArray, List.getElem?_cons_zero] at k9; go_simp; (try with_reducible rfl)
  try simp only [Act.put, List.setIfInBounds_toArray, List.set_cons_zero, List.set_cons_succ]
  refine wpAnyH_take (i := 4) (v := ?v4) (by rw [List.getElem?_toArray]; exact rfl) (by kernel_rfl) (by kernel_rfl) (by kernel_rfl) (fun _ _ _ h => h) (Or.inl ⟨by rfl, ?hy4⟩) (by assumption) ?rest4
  case hy4 => intro w hSw; (try dsimp only at hSw); have k9 := (HX2.out.2.1.below hSw HX2.out.2.1.lt).cell 0; simp only [List.getElem?_toArray, List.getElem?_cons_zero] at k9; go_simp; (try with_reducible rfl)
  try simp only [Act.put, List.setIfInBounds_toArray, List.set_cons_zero, List.set_cons_succ]
  refine ready_call (i := 2) (by kernel_rfl) (by rw [List.getElem?_toArray]; exact rfl) (by kernel_rfl) (fun K1 hK1 => ?_)
  go_simp
  refine (fromT_any 0 0 w g L hcap w4 (HX2.out.2.2.1.below hs0)).mono ?_
  rintro e w5 ⟨v, rfl, ⟨l', hl', bs, As, cs, rfl, ht1, ht2⟩, hb5⟩
  rw [hfrom] at hl'
  have hs1 := hs0.trans (hb5.mono hs0.size)
  have HTC : Hid (TC bs As cs l' w5) := Lib.hid ⟨ht1, ht2⟩
  have hw := snaps_enc hl'
  have hll : l'.length ≤ 1000 := by
    have h1 := congrArg List.length hl'
    rw [List.length_map] at h1
    omega
  clear ht1 ht2 hl' hs0
  go_simp
  refine hK1.out _ _ hs1 (fun _ => ?_)
  clear hK1 K1
  try simp only [Act.put, List.setIfInBounds_toArray, List.set_cons_zero, List.set_cons_succ]
  refine ready_call (i := 5) (by kernel_rfl) (by rw [List.getElem?_toArray]; exact rfl) (by kernel_rfl) (fun K1 hK1 => ?_)
  go_simp
  refine (rows6_any bs As cs l' A k _ 1000 (by decide) (by decide) hll hw w5 HTC.out (HX2.out.2.2.2.1.below hs1)).mono ?_
  rintro e w6 ⟨rfl, hb6⟩
  have hs2 := hs1.trans (hb6.mono hs1.size)
  clear hs1 hb6 HTC hw hll hb5
  go_simp
  refine hK1.out _ _ hs2 (fun _ => ?_)
  clear hK1 K1
  try simp only [Act.put, List.setIfInBounds_toArray, List.set_cons_zero, List.set_cons_succ]
  refine wpAnyH_take (i := 6) (v := ?v5) (by rw [List.getElem?_toArray]; exact rfl) (by kernel_rfl) (by kernel_rfl) (by kernel_rfl) (fun _ _ _ h => h) (Or.inl ⟨by rfl, ?hy5⟩) (by assumption) ?rest5
  case hy5 => intro w hSw; (try dsimp only at hSw); have k9 := (HX2.out.2.1.below hSw HX2.out.2.1.lt).cell 0; simp only [List.getElem?_toArray, List.getElem?_cons_zero] at k9; go_simp; (try with_reducible rfl)
  try simp only [Act.put, List.setIfInBounds_toArray, List.set_cons_zero, List.set_cons_succ]
  refine wpAnyH_take (i := 7) (v := ?v6) (by rw [List.getElem?_toArray]; exact rfl) (by kernel_rfl) (by kernel_rfl) (by kernel_rfl) (fun _ _ _ h => h) (Or.inl ⟨by rfl, ?hy6⟩) (by assumption) ?rest6
  case hy6 => intro w hSw; (try dsimp only at hSw); have k9 := (HX2.out.2.1.below hSw HX2.out.2.1.lt).cell 0; simp only [List.getElem?_toArray, List.getElem?_cons_zero] at k9; go_simp; (try with_reducible rfl)
  try simp only [Act.put, List.setIfInBounds_toArray, List.set_cons_zero, List.set_cons_succ]
  refine wpAnyH_take (i := 9) (v := ?v7) (by rw [List.getElem?_toArray]; exact rfl) (by kernel_rfl) (by kernel_rfl) (by kernel_rfl) (fun _ _ _ h => h) (Or.inl ⟨by rfl, ?hy7⟩) (by assumption) ?rest7
  case hy7 => intro w hSw; (try dsimp only at hSw); have k9 := (HX2.out.2.1.below hSw HX2.out.2.1.lt).cell 0; simp only [List.getElem?_toArray, List.getElem?_cons_zero] at k9; go_simp; (try with_reducible rfl)
  try simp only [Act.put, List.setIfInBounds_toArray, List.set_cons_zero, List.set_cons_succ]
  refine wpAnyH_take (i := 10) (v := ?v8) (by rw [List.getElem?_toArray]; exact rfl) (by kernel_rfl) (by kernel_rfl) (by kernel_rfl) (fun _ _ _ h => h) (Or.inl ⟨by rfl, ?hy8⟩) (by assumption) ?rest8
  case hy8 => intro w hSw; (try dsimp only at hSw); have k9 := (HX2.out.2.1.below hSw HX2.out.2.1.lt).cell 0; simp only [List.getElem?_toArray, List.getElem?_cons_zero] at k9; go_simp; (try with_reducible rfl)
  try simp only [Act.put, List.setIfInBounds_toArray, List.set_cons_zero, List.set_cons_succ]
  refine wpAnyH_take (i := 11) (v := ?v9) (by rw [List.getElem?_toArray]; exact rfl) (by kernel_rfl) (by kernel_rfl) (by kernel_rfl) (fun _ _ _ h => h) (Or.inl ⟨by rfl, ?hy9⟩) (by assumption) ?rest9
  case hy9 => intro w hSw; (try dsimp only at hSw); have k9 := (HX2.out.2.1.below hSw HX2.out.2.1.lt).cell 0; simp only [List.getElem?_toArray, List.getElem?_cons_zero] at k9; go_simp; (try with_reducible rfl)
  try simp only [Act.put, List.setIfInBounds_toArray, List.set_cons_zero, List.set_cons_succ]
  refine ready_call (i := 8) (by kernel_rfl) (by rw [List.getElem?_toArray]; exact rfl) (by kernel_rfl) (fun K1 hK1 => ?_)
  go_simp
  have hlenq := lenT_any w g L w6 (HX2.out.2.2.1.below hs2)
  rw [← encR_len L] at hlenq
  refine hlenq.mono ?_
  clear hlenq
  rintro e wx ⟨rfl, rfl⟩
  go_simp
  refine hK1.out _ _ hs2 (fun _ => ?_)
  clear hK1 K1
  try simp only [Act.put, List.setIfInBounds_toArray, List.set_cons_zero, List.set_cons_succ]
  refine wpAnyH_take (i := 12) (v := ?v10) (by rw [List.getElem?_toArray]; exact rfl) (by kernel_rfl) (by kernel_rfl) (by kernel_rfl) (fun _ _ _ h => h) (Or.inl ⟨by rfl, ?hy10⟩) (by assumption) ?rest10
  case hy10 => intro w hSw; (try dsimp only at hSw); have k9 := (HX2.out.2.1.below hSw HX2.out.2.1.lt).cell 0; simp only [List.getElem?_toArray, List.getElem?_cons_zero] at k9; go_simp; (try with_reducible rfl)
  try simp only [Act.put, List.setIfInBounds_toArray, List.set_cons_zero, List.set_cons_succ]
  refine wpAnyH_take (i := 13) (v := ?v11) (by rw [List.getElem?_toArray]; exact rfl) (by kernel_rfl) (by kernel_rfl) (by kernel_rfl) (fun _ _ _ h => h) (Or.inl ⟨by rfl, ?hy11⟩) (by assumption) ?rest11
  case hy11 => intro w hSw; (try dsimp only at hSw); have k9 := (HX2.out.2.1.below hSw HX2.out.2.1.lt).cell 0; simp only [List.getElem?_toArray, List.getElem?_cons_zero] at k9; go_simp; (try with_reducible rfl)
  try simp only [Act.put, List.setIfInBounds_toArray, List.set_cons_zero, List.set_cons_succ]
  refine wpAnyH_take (i := 14) (v := ?v12) (by rw [List.getElem?_toArray]; exact rfl) (by kernel_rfl) (by kernel_rfl) (by kernel_rfl) (fun _ _ _ h => h) (Or.inl ⟨by rfl, ?hy12⟩) (by assumption) ?rest12
  case hy12 => intro w hSw; (try dsimp only at hSw); have k9 := (HX2.out.2.1.below hSw HX2.out.2.1.lt).cell 0; simp only [List.getElem?_toArray, List.getElem?_cons_zero] at k9; go_simp; (try with_reducible rfl)
  try simp only [Act.put, List.setIfInBounds_toArray, List.set_cons_zero, List.set_cons_succ]
  refine wpAnyH_take (i := 15) (v := ?v13) (by rw [List.getElem?_toArray]; exact rfl) (by kernel_rfl) (by kernel_rfl) (by kernel_rfl) (fun _ _ _ h => h) (Or.inl ⟨by rfl, ?hy13⟩) (by assumption) ?rest13
  case hy13 => intro w hSw; (try dsimp only at hSw); have k9 := (HX2.out.2.1.below hSw HX2.out.2.1.lt).cell 0; simp only [List.getElem?_toArray, List.getElem?_cons_zero] at k9; go_simp; (try with_reducible rfl)
  try simp only [Act.put, List.setIfInBounds_toArray, List.set_cons_zero, List.set_cons_succ]
  refine wpAnyH_take (i := 17) (v := ?v14) (by rw [List.getElem?_toArray]; exact rfl) (by kernel_rfl) (by kernel_rfl) (by kernel_rfl) (fun _ _ _ h => h) (Or.inl ⟨by rfl, ?hy14⟩) (by assumption) ?rest14
  case hy14 => intro w hSw; (try dsimp only at hSw); have k9 := (HX2.out.2.1.below hSw HX2.out.2.1.lt).cell 0; simp only [List.getElem?_toArray, List.getElem?_cons_zero] at k9; go_simp; (try with_reducible rfl)
  try simp only [Act.put, List.setIfInBounds_toArray, List.set_cons_zero, List.set_cons_succ]
  refine wpAnyH_take (i := 18) (v := ?v15) (by rw [List.getElem?_toArray]; exact rfl) (by kernel_rfl) (by kernel_rfl) (by kernel_rfl) (fun _ _ _ h => h) (Or.inl ⟨by rfl, ?hy15⟩) (by assumption) ?rest15
  case hy15 => intro w hSw; (try dsimp only at hSw); have k9 := (HX2.out.2.1.below hSw HX2.out.2.1.lt).cell 0; simp only [List.getElem?_toArray, List.getElem?_cons_zero] at k9; go_simp; (try with_reducible rfl)
  try simp only [Act.put, List.setIfInBounds_toArray, List.set_cons_zero, List.set_cons_succ]
  refine ready_call (i := 16) (by kernel_rfl) (by rw [List.getElem?_toArray]; exact rfl) (by kernel_rfl) (fun K1 hK1 => ?_)
  go_simp
  refine (HND.out w6 (HX2.out.2.2.1.below hs2)).mono ?_
  rintro e w7 ⟨rfl, hb7⟩
  have hs3 := hs2.trans (hb7.mono hs2.size)
  clear hs2 hb7
  go_simp
  refine hK1.out _ _ hs3 (fun _ => ?_)
  clear hK1 K1
  try simp only [Act.put, List.setIfInBounds_toArray, List.set_cons_zero, List.set_cons_succ]
  refine wpAnyH_take (i := 19) (v := ?v16) (by rw [List.getElem?_toArray]; exact rfl) (by kernel_rfl) (by kernel_rfl) (by kernel_rfl) (fun _ _ _ h => h) (Or.inl ⟨by rfl, ?hy16⟩) (by assumption) ?rest16
  case hy16 => intro w hSw; (try dsimp only at hSw); have k9 := (HX2.out.2.1.below hSw HX2.out.2.1.lt).cell 0; simp only [List.getElem?_toArray, List.getElem?_cons_zero] at k9; go_simp; (try with_reducible rfl)
  try simp only [Act.put, List.setIfInBounds_toArray, List.set_cons_zero, List.set_cons_succ]
  refine wpAnyH_take (i := 20) (v := ?v17) (by rw [List.getElem?_toArray]; exact rfl) (by kernel_rfl) (by kernel_rfl) (by kernel_rfl) (fun _ _ _ h => h) (Or.inl ⟨by rfl, ?hy17⟩) (by assumption) ?rest17
  case hy17 => intro w hSw; (try dsimp only at hSw); have k9 := (HX2.out.2.1.below hSw HX2.out.2.1.lt).cell 0; simp only [List.getElem?_toArray, List.getElem?_cons_zero] at k9; go_simp; (try with_reducible rfl)
  try simp only [Act.put, List.setIfInBounds_toArray, List.set_cons_zero, List.set_cons_succ]
  refine wpAnyH_take (i := 21) (v := ?v18) (by rw [List.getElem?_toArray]; exact rfl) (by kernel_rfl) (by kernel_rfl) (by kernel_rfl) (fun _ _ _ h => h) (Or.inl ⟨by rfl, ?hy18⟩) (by assumption) ?rest18
  case hy18 => intro w hSw; (try dsimp only at hSw); have k9 := (HX2.out.2.1.below hSw HX2.out.2.1.lt).cell 0; simp only [List.getElem?_toArray, List.getElem?_cons_zero] at k9; go_simp; (try with_reducible rfl)
  try simp only [Act.put, List.setIfInBounds_toArray, List.set_cons_zero, List.set_cons_succ]
  refine wpAnyH_take (i := 22) (v := ?v19) (by rw [List.getElem?_toArray]; exact rfl) (by kernel_rfl) (by kernel_rfl) (by kernel_rfl) (fun _ _ _ h => h) (Or.inl ⟨by rfl, ?hy19⟩) (by assumption) ?rest19
  case hy19 => intro w hSw; (try dsimp only at hSw); have k9 := (HX2.out.2.1.below hSw HX2.out.2.1.lt).cell 0; simp only [List.getElem?_toArray, List.getElem?_cons_zero] at k9; go_simp; (try with_reducible rfl)
  try simp only [Act.put, List.setIfInBounds_toArray, List.set_cons_zero, List.set_cons_succ]
  refine wpAnyH_take (i := 24) (v := ?v20) (by rw [List.getElem?_toArray]; exact rfl) (by kernel_rfl) (by kernel_rfl) (by kernel_rfl) (fun _ _ _ h => h) (Or.inl ⟨by rfl, ?hy20⟩) (by assumption) ?rest20
  case hy20 => intro w hSw; (try dsimp only at hSw); have k9 := (HX2.out.2.1.below hSw HX2.out.2.1.lt).cell 0; simp only [List.getElem?_toArray, List.getElem?_cons_zero] at k9; go_simp; (try with_reducible rfl)
  try simp only [Act.put, List.setIfInBounds_toArray, List.set_cons_zero, List.set_cons_succ]
  refine ready_call (i := 23) (by kernel_rfl) (by rw [List.getElem?_toArray]; exact rfl) (by kernel_rfl) (fun K1 hK1 => ?_)
  go_simp
  refine (HDP.out w7 (HX2.out.2.2.1.below hs3)).mono ?_
  rintro e w8 ⟨rfl, hb8⟩
  have hs4 := hs3.trans (hb8.mono hs3.size)
  clear hb8
  go_simp
  refine hK1.out _ _ hs4 (fun _ => ?_)
  clear hK1 K1
  try simp only [Act.put, List.setIfInBounds_toArray, List.set_cons_zero, List.set_cons_succ]
  refine ready_call (i := 25) (by kernel_rfl) (by rw [List.getElem?_toArray]; exact rfl) (by kernel_rfl) (fun K1 hK1 => ?_)
  go_simp
  refine (HD.out w8 (HX2.out.2.2.2.2.below hs4)).mono ?_
  rintro e w9 ⟨rfl, hb8⟩
  have hs5 := hs4.trans (hb8.mono hs4.size)
  clear hb8
  go_simp
  refine hK1.out _ _ hs5 (fun _ => ?_)
  clear hK1 K1
  try simp only [Act.put, List.setIfInBounds_toArray, List.set_cons_zero, List.set_cons_succ]
  refine wpAnyH_take (i := 26) (v := ?v21) (by rw [List.getElem?_toArray]; exact rfl) (by kernel_rfl) (by kernel_rfl) (by kernel_rfl) (fun _ _ _ h => h) (Or.inl ⟨by rfl, ?hy21⟩) (by assumption) ?rest21
  case hy21 => intro w hSw; (try dsimp only at hSw); have k9 := (HX2.out.2.1.below hSw HX2.out.2.1.lt).cell 0; simp only [List.getElem?_toArray, List.getElem?_cons_zero] at k9; go_simp; (try with_reducible rfl)
  try simp only [Act.put, List.setIfInBounds_toArray, List.set_cons_zero, List.set_cons_succ]
  refine wpAnyH_take (i := 27) (v := ?v22) (by rw [List.getElem?_toArray]; exact rfl) (by kernel_rfl) (by kernel_rfl) (by kernel_rfl) (fun _ _ _ h => h) (Or.inl ⟨by rfl, ?hy22⟩) (by assumption) ?rest22
  case hy22 => intro w hSw; (try dsimp only at hSw); have k9 := (HX2.out.2.1.below hSw HX2.out.2.1.lt).cell 0; simp only [List.getElem?_toArray, List.getElem?_cons_zero] at k9; go_simp; (try with_reducible rfl)
  try simp only [Act.put, List.setIfInBounds_toArray, List.set_cons_zero, List.set_cons_succ]
  refine wpAnyH_take (i := 28) (v := ?v23) (by rw [List.getElem?_toArray]; exact rfl) (by kernel_rfl) (by kernel_rfl) (by kernel_rfl) (fun _ _ _ h => h) (Or.inl ⟨by rfl, ?hy23⟩) (by assumption) ?rest23
  case hy23 => intro w hSw; (try dsimp only at hSw); have k9 := (HX2.out.2.1.below hSw HX2.out.2.1.lt).cell 0; simp only [List.getElem?_toArray, List.getElem?_cons_zero] at k9; go_simp; (try with_reducible rfl)
  try simp only [Act.put, List.setIfInBounds_toArray, List.set_cons_zero, List.set_cons_succ]
  refine wpAnyH_done (by kernel_rfl) ?_ _
  refine NoPanic.normal ?_
  go_wp2_with fail
  have HE := HX2.out.1.trans (hs5.mono HX2.out.1.size)
  go_ret
  exact ⟨rfl, HE⟩

end T6
end Go.Proofs.Ytghkacciihocdaa

namespace Go.Proofs.Ytghkacciihocdaa
open Go Go.RowKit Go.Shelf Go.Sort
attribute [local go_sem] Oper.semAt_some
attribute [local irreducible] wpQuiet
namespace T6

/-- Where the document finds a prefix's row. -/
theorem at_enc {L : List (Key × Int)} (hs : SRow L) (hf : ∀ r ∈ L, r.1.length ≤ 32) (x n : Int) (x0 : 0 ≤ x) (x1 : x < 4294967296) :
    (getP L (x, n) = none ∧ atF (encR L) (x, n) = -1) ∨ (∃ u, getP L (x, n) = some u ∧ ∃ s, ∃ h : s < (encR L).length, atF (encR L) (x, n) = (s : Int) ∧ (encR L)[s]'h = ((x, n), u)) := by
  unfold getP
  by_cases hr : right x n
  · have hk := kp_bitsOf x0 x1 hr
    simp only [if_pos hr]
    generalize hK : bitsOf x n = K at *
    obtain ⟨rfl, rfl, hk3⟩ := hk
    cases hg : getR L K with
    | some u =>
      obtain ⟨A, B, rfl, hA, hB⟩ := srow_split hs ((get_some hs).1 hg)
      have hsp := spot_some hk3 hf rfl hA
      have hl : (encR A).length = A.length := encR_len A
      have e : encR (A ++ (K, u) :: B) = encR A ++ rowR (K, u) :: encR B := by simp [encR]
      have hlt : A.length < (encR (A ++ (K, u) :: B)).length := by rw [encR_len]; simp
      refine .inr ⟨u, rfl, A.length, hlt, ?_, ?_⟩
      · unfold atF
        rw [hsp, if_pos hlt]
      · simp only [e, ← hl]
        simp [rowR]
    | none =>
      refine .inl ⟨by first | rfl | trivial, ?_⟩
      unfold atF
      rw [spot_none hk3 hf hg, encR_len, if_neg (by omega)]
  · simp only [if_neg hr]
    refine .inl ⟨by first | rfl | trivial, ?_⟩
    have hsp : spot6 (encR L) (x, n) = (encR L).length := by
      unfold spot6
      have := List.takeWhile_append_of_pos (p := fun r : Row6 => decide (r.1 ≠ (x, n))) (l₁ := encR L) (l₂ := []) (fun r hr' => by
        obtain ⟨q, hq, rfl⟩ := List.mem_map.1 hr'
        refine decide_eq_true fun e => hr ?_
        simp only [rowR, Prod.mk.injEq] at e
        rw [← e.1, ← e.2]
        exact kp_right (hf q hq))
      simp only [List.append_nil, List.takeWhile_nil] at this
      rw [this]
    unfold atF
    rw [hsp, if_neg (by omega)]
/-- Both sides, behind calls: the trie, the list in its box. -/
structure Ply2 (w : World) (B : Nat) (g : Nat) (L : List (Key × Int)) (A1 : Option Addr) (k1 : Nat) (W : World) : Prop where
  own : OwnT w g L W
  cap : L.length ≤ 512
  rows : LiesS W A1 (rowCs (encR L))
  fit : (encR L).length ≤ k1
  b6 : Blk W B 28 #[.slice A1 (encR L).length k1]
  lo : w.heap.size ≤ B
theorem Ply2.below {w : World} {B g : Nat} {L : List (Key × Int)} {A1 : Option Addr} {k1 : Nat} {W W' : World} (h : Ply2 w B g L A1 k1 W) (hb : Below W.heap.size W W') : Ply2 w B g L A1 k1 W' :=
  ⟨h.own.below hb, h.cap, h.rows.below hb, h.fit, h.b6.below hb h.b6.lt, h.lo⟩
set_option maxRecDepth 100000 in
set_option maxHeartbeats 12800000 in
theorem law06_plays (A : Option Addr) (c : Nat) (l : List Act6) (hl : ∀ p ∈ l, 0 ≤ p.2.1 ∧ p.2.1 < 4294967296) (w : World) (hA : ActsS w A l) :
    Calls Try.prog 3 #[.slice A l.length c] w fun e w' => e = .returned (.bool true) ∧ Below w.heap.size w w' := by
  have HA := Lib.hid (fun (V : World) (hV : Below w.heap.size w V) => hA.below hV)
  have HL := Lib.hid hl
  clear hA hl
  go_enter Try.func3, Try.ntmps3
  by_cases h40 : 40 < (l.length : Int)
  · go_wp2_with fail
    refine (works6_any _).mono ?_
    rintro e w1 ⟨rfl, hb1⟩
    go_wp2_with fail
    go_ret
    exact ⟨rfl, hb1⟩
  have hlen : l.length ≤ 40 := by omega
  go_wp2_with fail
  refine (newT_any w w (Below.refl _ _)).mono ?_
  rintro e w2 ⟨rfl, ho, hb⟩
  have hb2 := box_below w2 (.cells #[.slice none 0 0] 28)
  have HP0 : Hid (Ply2 w w2.heap.size w.heap.size [] none 0 (w2.alloc (.cells #[.slice none 0 0] 28))) := Lib.hid ⟨ho.below hb2, by decide, LiesS.nil _ _, by simp [encR], Blk.new w2 _ _, ho.bel.size⟩
  clear ho hb hb2
  go_wp2_with fail
  generalize (w2.alloc (.cells #[.slice none 0 0] 28)) = w3 at *
  generalize hg0 : w.heap.size = g0 at HP0 ⊢
  generalize w2.heap.size = B at *
  go_loopw [3, 5] (fun t i wr => ∃ (k g : Nat) (L : List (Key × Int)) (A1 : Option Addr) (k1 : Nat), k ≤ l.length ∧ i = .int .i64 k ∧ t = .pointer (some ⟨g, 0, none⟩) ∧ Hid (Ply2 w B g L A1 k1 wr)) (fun _ i _ => l.length - (intOf i).toNat)
  case atStart => exact ⟨0, g0, [], none, 0, by omega, rfl, rfl, HP0⟩
  case round =>
    clear HP0
    obtain ⟨k, g, L, A1, k1, hk, rfl, rfl, HP⟩ := hrel
    by_cases hlt : k < l.length
    · have hlt2 : (k : Int) < (l.length : Int) := by omega
      have hk40 : (k : Int) ≤ 40 := by omega
      have hk0 : (0 : Int) ≤ (k : Int) := by omega
      obtain ⟨b, o, rfl, hb, _⟩ := HA.out wr HP.out.own.bel (by omega)
      have hxr := HL.out _ (List.getElem_mem hlt)
      have HC : Hid (∀ V, Below w.heap.size w V → V.cell? ⟨b, o + k * 4, none⟩ = some (.int .i64 (l[k]'hlt).1) ∧ V.cell? ⟨b, o + k * 4 + 1, none⟩ = some (.int .u32 (l[k]'hlt).2.1) ∧ V.cell? ⟨b, o + k * 4 + 2, none⟩ = some (.int .i64 (l[k]'hlt).2.2.1) ∧ V.cell? ⟨b, o + k * 4 + 3, none⟩ = some (.int .i64 (l[k]'hlt).2.2.2)) := Lib.hid (fun V hV => by
        obtain ⟨b', o', e', _, hc'⟩ := HA.out V hV (by omega)
        cases e'
        exact hc' k hlt)
      generalize (l[k]'hlt) = p at *
      obtain ⟨pc, px, pn, pu⟩ := p
      dsimp only at HC hxr
      have HAC := Lib.hid (fun V hV hA => act_any pc px pn pu hxr.1 hxr.2 w g L HP.out.cap V hV A1 k1 HP.out.fit hA)
      clear hb
      go_wp2_with fail
      have hs0 : Below w.heap.size w wr.drew ∧ Blk wr.drew B 28 #[.slice A1 (encR L).length k1] := ⟨HP.out.own.bel.trans ((below_drew wr).mono HP.out.own.bel.size), HP.out.b6.below (below_drew wr) HP.out.b6.lt⟩
      have HP1 := Lib.hid (HP.out.below (below_drew wr))
      clear HP
      refine wp_region_noPanic ?_
      refine wp_region_held_drew (S := fun V => Below w.heap.size w V ∧ Blk V B 28 #[.slice A1 (encR L).length k1]) (by kernel_rfl) hs0 ?_
      intro _
      generalize wr.drew = w4 at *
      refine wpAnyH_take (i := 0) (v := ?v1) (by rw [List.getElem?_toArray]; exact rfl) (by kernel_rfl) (by kernel_rfl) (by kernel_rfl) (fun _ _ _ h => h) (Or.inl ⟨by rfl, ?hy1⟩) (by assumption) ?rest1
      case hy1 => intro w hSw; (try dsimp only at hSw); obtain ⟨p0, p1, p2, p3⟩ := HC.out w hSw.1; have k9 := hSw.2.cell 0; simp only [List.getElem?_toArray, List.getElem?_cons_zero] at k9; go_simp; (try with_reducible rfl)
      try simp only [Act.put, List.setIfInBounds_toArray, List.set_cons_zero, List.set_cons_succ]
      refine wpAnyH_take (i := 1) (v := ?v2) (by rw [List.getElem?_toArray]; exact rfl) (by kernel_rfl) (by kernel_rfl) (by kernel_rfl) (fun _ _ _ h => h) (Or.inl ⟨by rfl, ?hy2⟩) (by assumption) ?rest2
      case hy2 => intro w hSw; (try dsimp only at hSw); obtain ⟨p0, p1, p2, p3⟩ := HC.out w hSw.1; have k9 := hSw.2.cell 0; simp only [List.getElem?_toArray, List.getElem?_cons_zero] at k9; go_simp; (try with_reducible rfl)
      try simp only [Act.put, List.setIfInBounds_toArray, List.set_cons_zero, List.set_cons_succ]
      refine wpAnyH_take (i := 2) (v := ?v3) (by rw [List.getElem?_toArray]; exact rfl) (by kernel_rfl) (by kernel_rfl) (by kernel_rfl) (fun _ _ _ h => h) (Or.inl ⟨by rfl, ?hy3⟩) (by assumption) ?rest3
      case hy3 => intro w hSw; (try dsimp only at hSw); obtain ⟨p0, p1, p2, p3⟩ := HC.out w hSw.1; have k9 := hSw.2.cell 0; simp only [List.getElem?_toArray, List.getElem?_cons_zero] at k9; go_simp; (try with_reducible rfl)
      try simp only [Act.put, List.setIfInBounds_toArray, List.set_cons_zero, List.set_cons_succ]
      refine wpAnyH_take (i := 3) (v := ?v4) (by rw [List.getElem?_toArray]; exact rfl) (by kernel_rfl) (by kernel_rfl) (by kernel_rfl) (fun _ _ _ h => h) (Or.inl ⟨by rfl, ?hy4⟩) (by assumption) ?rest4
      case hy4 => intro w hSw; (try dsimp only at hSw); obtain ⟨p0, p1, p2, p3⟩ := HC.out w hSw.1; have k9 := hSw.2.cell 0; simp only [List.getElem?_toArray, List.getElem?_cons_zero] at k9; go_simp; (try with_reducible rfl)
      try simp only [Act.put, List.setIfInBounds_toArray, List.set_cons_zero, List.set_cons_succ]
      refine wpAnyH_take (i := 4) (v := ?v5) (by rw [List.getElem?_toArray]; exact rfl) (by kernel_rfl) (by kernel_rfl) (by kernel_rfl) (fun _ _ _ h => h) (Or.inl ⟨by rfl, ?hy5⟩) (by assumption) ?rest5
      case hy5 => intro w hSw; (try dsimp only at hSw); obtain ⟨p0, p1, p2, p3⟩ := HC.out w hSw.1; have k9 := hSw.2.cell 0; simp only [List.getElem?_toArray, List.getElem?_cons_zero] at k9; go_simp; (try with_reducible rfl)
      try simp only [Act.put, List.setIfInBounds_toArray, List.set_cons_zero, List.set_cons_succ]
      refine wpAnyH_take (i := 5) (v := ?v6) (by rw [List.getElem?_toArray]; exact rfl) (by kernel_rfl) (by kernel_rfl) (by kernel_rfl) (fun _ _ _ h => h) (Or.inl ⟨by rfl, ?hy6⟩) (by assumption) ?rest6
      case hy6 => intro w hSw; (try dsimp only at hSw); obtain ⟨p0, p1, p2, p3⟩ := HC.out w hSw.1; have k9 := hSw.2.cell 0; simp only [List.getElem?_toArray, List.getElem?_cons_zero] at k9; go_simp; (try with_reducible rfl)
      try simp only [Act.put, List.setIfInBounds_toArray, List.set_cons_zero, List.set_cons_succ]
      refine ready_pair (i := 6) (j := 11) (by kernel_rfl) (by rw [List.getElem?_toArray]; exact rfl) (by rw [List.getElem?_toArray]; exact rfl) (by kernel_rfl) (by kernel_rfl) (fun K1 hK1 => ?_) (fun K1 hK1 => ?_)
      · go_simp
        refine (HAC.out w4 HP1.out.own HP1.out.rows).mono ?_
        rintro e w5 ⟨g', v', L', rfl, hO, ⟨A2, k2, rfl, hk2, hr2⟩, hc2, hkp⟩
        go_simp
        have hs1 : Below w.heap.size w w5 ∧ Blk w5 B 28 #[.slice A1 (encR L).length k1] := ⟨hO.bel, hkp.only.blk HP1.out.b6 (by decide) (by decide)⟩
        have HQ : Hid (OwnT w g' L' w5 ∧ LiesS w5 A2 (rowCs (encR L')) ∧ (encR L').length ≤ k2 ∧ L'.length ≤ 512 ∧ w.heap.size ≤ B) := Lib.hid ⟨hO, hr2, hk2, hc2, HP1.out.lo⟩
        clear hO hr2 hk2 hc2 hkp HP1 HAC hs0
        refine hK1.out _ _ hs1 (fun _ => ?_)
        clear hK1 K1
        try simp only [Act.put, List.setIfInBounds_toArray, List.set_cons_zero, List.set_cons_succ]
        refine wpAnyH_take (i := 7) (v := ?v7) (by rw [List.getElem?_toArray]; exact rfl) (by kernel_rfl) (by kernel_rfl) (by kernel_rfl) (fun _ _ _ h => h) (Or.inl ⟨by rfl, ?hy7⟩) (by assumption) ?rest7
        case hy7 => intro w hSw; (try dsimp only at hSw); have k9 := hSw.2.cell 0; simp only [List.getElem?_toArray, List.getElem?_cons_zero] at k9; go_simp; (try with_reducible rfl)
        try simp only [Act.put, List.setIfInBounds_toArray, List.set_cons_zero, List.set_cons_succ]
        refine wpAnyH_take (i := 8) (v := ?v8) (by rw [List.getElem?_toArray]; exact rfl) (by kernel_rfl) (by kernel_rfl) (by kernel_rfl) (fun _ _ _ h => h) (Or.inl ⟨by rfl, ?hy8⟩) (by assumption) ?rest8
        case hy8 => intro w hSw; (try dsimp only at hSw); have k9 := hSw.2.cell 0; simp only [List.getElem?_toArray, List.getElem?_cons_zero] at k9; go_simp; (try with_reducible rfl)
        try simp only [Act.put, List.setIfInBounds_toArray, List.set_cons_zero, List.set_cons_succ]
        refine wpAnyH_take (i := 9) (v := ?v9) (by rw [List.getElem?_toArray]; exact rfl) (by kernel_rfl) (by kernel_rfl) (by kernel_rfl) (fun _ _ _ h => h) (Or.inl ⟨by rfl, ?hy9⟩) (by assumption) ?rest9
        case hy9 => intro w hSw; (try dsimp only at hSw); have k9 := hSw.2.cell 0; simp only [List.getElem?_toArray, List.getElem?_cons_zero] at k9; go_simp; (try with_reducible rfl)
        try simp only [Act.put, List.setIfInBounds_toArray, List.set_cons_zero, List.set_cons_succ]
        refine wpAnyH_take (i := 10) (v := ?v10) (by rw [List.getElem?_toArray]; exact rfl) (by kernel_rfl) (by kernel_rfl) (by kernel_rfl) (fun _ _ _ h => h) (Or.inl ⟨by rfl, ?hy10⟩) (by assumption) ?rest10
        case hy10 => intro w hSw; (try dsimp only at hSw); have k9 := hSw.2.cell 0; simp only [List.getElem?_toArray, List.getElem?_cons_zero] at k9; go_simp; (try with_reducible rfl)
        try simp only [Act.put, List.setIfInBounds_toArray, List.set_cons_zero, List.set_cons_succ]
        refine ready_call (i := 11) (by kernel_rfl) (by rw [List.getElem?_toArray]; exact rfl) (by kernel_rfl) (fun K1 hK1 => ?_)
        have hbx := box_below w5 (.cells #[.slice none 0 0] 28)
        have hs2 : Below w.heap.size w (w5.alloc (.cells #[.slice none 0 0] 28)) ∧ Blk (w5.alloc (.cells #[.slice none 0 0] 28)) B 28 #[.slice A1 (encR L).length k1] := ⟨hs1.1.trans (hbx.mono hs1.1.size), hs1.2.below hbx hs1.2.lt⟩
        have HQ2 : Hid (OwnT w g' L' (w5.alloc (.cells #[.slice none 0 0] 28)) ∧ LiesS (w5.alloc (.cells #[.slice none 0 0] 28)) A2 (rowCs (encR L')) ∧ (encR L').length ≤ k2 ∧ L'.length ≤ 512 ∧ w.heap.size ≤ B ∧ B < w5.heap.size ∧ Blk (w5.alloc (.cells #[.slice none 0 0] 28)) w5.heap.size 28 #[.slice none 0 0] ∧ w.heap.size ≤ w5.heap.size) := Lib.hid ⟨HQ.out.1.below hbx, HQ.out.2.1.below hbx, HQ.out.2.2.1, HQ.out.2.2.2.1, HQ.out.2.2.2.2, hs1.2.lt, Blk.new w5 _ _, hs1.1.size⟩
        clear HQ hbx hs1
        go_simp
        refine hK1.out _ _ hs2 (fun _ => ?_)
        clear hK1 K1
        generalize (w5.alloc (.cells #[.slice none 0 0] 28)) = w6 at *
        generalize w5.heap.size = Bn at *
        try simp only [Act.put, List.setIfInBounds_toArray, List.set_cons_zero, List.set_cons_succ]
        refine wpAnyH_take (i := 12) (v := ?v11) (by rw [List.getElem?_toArray]; exact rfl) (by kernel_rfl) (by kernel_rfl) (by kernel_rfl) (fun _ _ _ h => h) (Or.inl ⟨by rfl, ?hy11⟩) (by assumption) ?rest11
        case hy11 => intro w hSw; (try dsimp only at hSw); have k9 := hSw.2.cell 0; simp only [List.getElem?_toArray, List.getElem?_cons_zero] at k9; go_simp; (try with_reducible rfl)
        try simp only [Act.put, List.setIfInBounds_toArray, List.set_cons_zero, List.set_cons_succ]
        refine ready_call (i := 13) (by kernel_rfl) (by rw [List.getElem?_toArray]; exact rfl) (by kernel_rfl) (fun K1 hK1 => ?_)
        have c7 := HQ2.out.2.2.2.2.2.2.1.cell 0
        have f7 := HQ2.out.2.2.2.2.2.2.1.frozen 0
        simp only [List.getElem?_toArray, List.getElem?_cons_zero] at c7
        go_simp
        have HQ3 : Hid (OwnT w g' L' (w6.setCell ⟨Bn, 0, none⟩ (.slice A2 (encR L').length k2)) ∧ LiesS (w6.setCell ⟨Bn, 0, none⟩ (.slice A2 (encR L').length k2)) A2 (rowCs (encR L')) ∧ (encR L').length ≤ k2 ∧ L'.length ≤ 512 ∧ w.heap.size ≤ B ∧ B < Bn ∧ Blk (w6.setCell ⟨Bn, 0, none⟩ (.slice A2 (encR L').length k2)) Bn 28 #[.slice A2 (encR L').length k2] ∧ Blk (w6.setCell ⟨Bn, 0, none⟩ (.slice A2 (encR L').length k2)) B 28 #[.slice A1 (encR L).length k1]) := Lib.hid (by
          obtain ⟨q1, q2, q3, q4, q5, q6, q7, q8⟩ := HQ2.out
          have h7 := q7.set_ 0 (.slice A2 (encR L').length k2)
          exact ⟨q1.set q7 (by decide) (by decide) q8 0 _, rows_set q2 q7 _, q3, q4, q5, q6, by simpa using h7, hs2.2.far (by simp; omega) _⟩)
        have hs3 : Below w.heap.size w (w6.setCell ⟨Bn, 0, none⟩ (.slice A2 (encR L').length k2)) ∧ Blk (w6.setCell ⟨Bn, 0, none⟩ (.slice A2 (encR L').length k2)) B 28 #[.slice A1 (encR L).length k1] := ⟨HQ3.out.1.bel, HQ3.out.2.2.2.2.2.2.2⟩
        clear hs2 HQ2 c7 f7
        refine hK1.out _ _ hs3 (fun _ => ?_)
        clear hK1 K1
        generalize (w6.setCell ⟨Bn, 0, none⟩ (.slice A2 (encR L').length k2)) = w7 at *
        try simp only [Act.put, List.setIfInBounds_toArray, List.set_cons_zero, List.set_cons_succ]
        refine wpAnyH_take (i := 14) (v := ?v12) (by rw [List.getElem?_toArray]; exact rfl) (by kernel_rfl) (by kernel_rfl) (by kernel_rfl) (fun _ _ _ h => h) (Or.inl ⟨by rfl, ?hy12⟩) (by assumption) ?rest12
        case hy12 => intro w hSw; (try dsimp only at hSw); have k9 := hSw.2.cell 0; simp only [List.getElem?_toArray, List.getElem?_cons_zero] at k9; go_simp; (try with_reducible rfl)
        try simp only [Act.put, List.setIfInBounds_toArray, List.set_cons_zero, List.set_cons_succ]
        refine wpAnyH_done (by kernel_rfl) ?_ _
        refine NoPanic.normal ?_
        go_wp2_with fail
        have HQ4 : Hid (OwnT w g' L' w7.drew ∧ LiesS w7.drew A2 (rowCs (encR L')) ∧ (encR L').length ≤ k2 ∧ L'.length ≤ 512 ∧ w.heap.size ≤ B ∧ B < Bn ∧ Blk w7.drew B 28 #[.slice A1 (encR L).length k1]) := Lib.hid (by
          have hd := below_drew w7
          obtain ⟨q1, q2, q3, q4, q5, q6, q7, q8⟩ := HQ3.out
          exact ⟨q1.below hd, q2.below hd, q3, q4, q5, q6, q8.below hd q8.lt⟩)
        have hs0 : Below w.heap.size w w7.drew ∧ Blk w7.drew Bn 28 #[.slice A2 (encR L').length k2] := ⟨HQ4.out.1.bel, HQ3.out.2.2.2.2.2.2.1.below (below_drew w7) HQ3.out.2.2.2.2.2.2.1.lt⟩
        clear HQ3 hs3
        refine wp_region_noPanic ?_
        refine wp_region_held_drew (S := fun V => Below w.heap.size w V ∧ Blk V Bn 28 #[.slice A2 (encR L').length k2]) (by kernel_rfl) hs0 ?_
        intro _
        generalize w7.drew = w8 at *
        refine wpAnyH_take (i := 0) (v := ?v13) (by rw [List.getElem?_toArray]; exact rfl) (by kernel_rfl) (by kernel_rfl) (by kernel_rfl) (fun _ _ _ h => h) (Or.inl ⟨by rfl, ?hy13⟩) (by assumption) ?rest13
        case hy13 => intro w hSw; (try dsimp only at hSw); have k9 := hSw.2.cell 0; simp only [List.getElem?_toArray, List.getElem?_cons_zero] at k9; go_simp; (try with_reducible rfl)
        try simp only [Act.put, List.setIfInBounds_toArray, List.set_cons_zero, List.set_cons_succ]
        refine wpAnyH_take (i := 1) (v := ?v14) (by rw [List.getElem?_toArray]; exact rfl) (by kernel_rfl) (by kernel_rfl) (by kernel_rfl) (fun _ _ _ h => h) (Or.inl ⟨by rfl, ?hy14⟩) (by assumption) ?rest14
        case hy14 => intro w hSw; (try dsimp only at hSw); have k9 := hSw.2.cell 0; simp only [List.getElem?_toArray, List.getElem?_cons_zero] at k9; go_simp; (try with_reducible rfl)
        try simp only [Act.put, List.setIfInBounds_toArray, List.set_cons_zero, List.set_cons_succ]
        refine wpAnyH_take (i := 2) (v := ?v15) (by rw [List.getElem?_toArray]; exact rfl) (by kernel_rfl) (by kernel_rfl) (by kernel_rfl) (fun _ _ _ h => h) (Or.inl ⟨by rfl, ?hy15⟩) (by assumption) ?rest15
        case hy15 => intro w hSw; (try dsimp only at hSw); have k9 := hSw.2.cell 0; simp only [List.getElem?_toArray, List.getElem?_cons_zero] at k9; go_simp; (try with_reducible rfl)
        try simp only [Act.put, List.setIfInBounds_toArray, List.set_cons_zero, List.set_cons_succ]
        refine ready_call (i := 3) (by kernel_rfl) (by rw [List.getElem?_toArray]; exact rfl) (by kernel_rfl) (fun K1 hK1 => ?_)
        have c7 := HQ4.out.2.2.2.2.2.2.cell 0
        have f7 := HQ4.out.2.2.2.2.2.2.frozen 0
        simp only [List.getElem?_toArray, List.getElem?_cons_zero] at c7
        go_simp
        have HQ5 : Hid (Ply2 w B g' L' A2 k2 (w8.setCell ⟨B, 0, none⟩ (.slice A2 (encR L').length k2))) := Lib.hid (by
          obtain ⟨q1, q2, q3, q4, q5, q6, q7⟩ := HQ4.out
          have h7 := q7.set_ 0 (.slice A2 (encR L').length k2)
          exact ⟨q1.set q7 (by decide) (by decide) q5 0 _, q4, rows_set q2 q7 _, q3, by simpa using h7, q5⟩)
        have hs4 : Below w.heap.size w (w8.setCell ⟨B, 0, none⟩ (.slice A2 (encR L').length k2)) ∧ Blk (w8.setCell ⟨B, 0, none⟩ (.slice A2 (encR L').length k2)) Bn 28 #[.slice A2 (encR L').length k2] := ⟨HQ5.out.own.bel, hs0.2.far (by have := HQ4.out.2.2.2.2.2.1; simp; omega) _⟩
        clear HQ4 c7 f7
        refine hK1.out _ _ hs4 (fun _ => ?_)
        clear hK1 K1
        clear hs4 hs0
        generalize (w8.setCell ⟨B, 0, none⟩ (.slice A2 (encR L').length k2)) = w9 at *
        try simp only [Act.put, List.setIfInBounds_toArray, List.set_cons_zero, List.set_cons_succ]
        refine wpAnyH_done (by kernel_rfl) ?_ _
        refine NoPanic.normal ?_
        obtain ⟨p0, p1, p2, p3⟩ := HC.out w9 HQ5.out.own.bel
        have HG := Lib.hid (getP_any px pn hxr.1 hxr.2 w g' L' w9 HQ5.out.own)
        have HAT := Lib.hid (fun (V : World) (hV : LiesS V A2 (rowCs (encR L'))) => refAt_any A2 k2 (encR L') px pn (by have := HQ5.out.cap; rw [encR_len]; omega) V hV)
        have hat := at_enc HQ5.out.own.srow HQ5.out.own.fit px pn hxr.1 hxr.2
        go_wp2_with fail
        refine HG.out.mono ?_
        rintro e wa ⟨rfl, hba⟩
        have HQ6 := Lib.hid (HQ5.out.below hba)
        clear HG HQ5 hba p0 p1 p2 p3
        go_wp2_with fail
        have HQ7 := Lib.hid (HQ6.out.below (below_drew wa))
        have hs0 : Below w.heap.size w wa.drew ∧ Blk wa.drew B 28 #[.slice A2 (encR L').length k2] := ⟨HQ7.out.own.bel, HQ7.out.b6⟩
        clear HQ6
        refine wp_region_noPanic ?_
        refine wp_region_held_drew (S := fun V => Below w.heap.size w V ∧ Blk V B 28 #[.slice A2 (encR L').length k2]) (by kernel_rfl) hs0 ?_
        intro _
        generalize wa.drew = w10 at *
        refine wpAnyH_take (i := 0) (v := ?v16) (by rw [List.getElem?_toArray]; exact rfl) (by kernel_rfl) (by kernel_rfl) (by kernel_rfl) (fun _ _ _ h => h) (Or.inl ⟨by rfl, ?hy16⟩) (by assumption) ?rest16
        case hy16 => intro w hSw; (try dsimp only at hSw); obtain ⟨p0, p1, p2, p3⟩ := HC.out w hSw.1; have k9 := hSw.2.cell 0; simp only [List.getElem?_toArray, List.getElem?_cons_zero] at k9; go_simp; (try with_reducible rfl)
        try simp only [Act.put, List.setIfInBounds_toArray, List.set_cons_zero, List.set_cons_succ]
        refine wpAnyH_take (i := 1) (v := ?v17) (by rw [List.getElem?_toArray]; exact rfl) (by kernel_rfl) (by kernel_rfl) (by kernel_rfl) (fun _ _ _ h => h) (Or.inl ⟨by rfl, ?hy17⟩) (by assumption) ?rest17
        case hy17 => intro w hSw; (try dsimp only at hSw); obtain ⟨p0, p1, p2, p3⟩ := HC.out w hSw.1; have k9 := hSw.2.cell 0; simp only [List.getElem?_toArray, List.getElem?_cons_zero] at k9; go_simp; (try with_reducible rfl)
        try simp only [Act.put, List.setIfInBounds_toArray, List.set_cons_zero, List.set_cons_succ]
        refine wpAnyH_take (i := 2) (v := ?v18) (by rw [List.getElem?_toArray]; exact rfl) (by kernel_rfl) (by kernel_rfl) (by kernel_rfl) (fun _ _ _ h => h) (Or.inl ⟨by rfl, ?hy18⟩) (by assumption) ?rest18
        case hy18 => intro w hSw; (try dsimp only at hSw); obtain ⟨p0, p1, p2, p3⟩ := HC.out w hSw.1; have k9 := hSw.2.cell 0; simp only [List.getElem?_toArray, List.getElem?_cons_zero] at k9; go_simp; (try with_reducible rfl)
        try simp only [Act.put, List.setIfInBounds_toArray, List.set_cons_zero, List.set_cons_succ]
        refine wpAnyH_take (i := 3) (v := ?v19) (by rw [List.getElem?_toArray]; exact rfl) (by kernel_rfl) (by kernel_rfl) (by kernel_rfl) (fun _ _ _ h => h) (Or.inl ⟨by rfl, ?hy19⟩) (by assumption) ?rest19
        case hy19 => intro w hSw; (try dsimp only at hSw); obtain ⟨p0, p1, p2, p3⟩ := HC.out w hSw.1; have k9 := hSw.2.cell 0; simp only [List.getElem?_toArray, List.getElem?_cons_zero] at k9; go_simp; (try with_reducible rfl)
        try simp only [Act.put, List.setIfInBounds_toArray, List.set_cons_zero, List.set_cons_succ]
        refine wpAnyH_take (i := 4) (v := ?v20) (by rw [List.getElem?_toArray]; exact rfl) (by kernel_rfl) (by kernel_rfl) (by kernel_rfl) (fun _ _ _ h => h) (Or.inl ⟨by rfl, ?hy20⟩) (by assumption) ?rest20
        case hy20 => intro w hSw; (try dsimp only at hSw); obtain ⟨p0, p1, p2, p3⟩ := HC.out w hSw.1; have k9 := hSw.2.cell 0; simp only [List.getElem?_toArray, List.getElem?_cons_zero] at k9; go_simp; (try with_reducible rfl)
        try simp only [Act.put, List.setIfInBounds_toArray, List.set_cons_zero, List.set_cons_succ]
        refine wpAnyH_take (i := 5) (v := ?v21) (by rw [List.getElem?_toArray]; exact rfl) (by kernel_rfl) (by kernel_rfl) (by kernel_rfl) (fun _ _ _ h => h) (Or.inl ⟨by rfl, ?hy21⟩) (by assumption) ?rest21
        case hy21 => intro w hSw; (try dsimp only at hSw); obtain ⟨p0, p1, p2, p3⟩ := HC.out w hSw.1; have k9 := hSw.2.cell 0; simp only [List.getElem?_toArray, List.getElem?_cons_zero] at k9; go_simp; (try with_reducible rfl)
        try simp only [Act.put, List.setIfInBounds_toArray, List.set_cons_zero, List.set_cons_succ]
        refine ready_call (i := 6) (by kernel_rfl) (by rw [List.getElem?_toArray]; exact rfl) (by kernel_rfl) (fun K1 hK1 => ?_)
        go_simp
        refine (HAT.out w10 HQ7.out.rows).mono ?_
        rintro e w11 ⟨rfl, hb11⟩
        go_simp
        have HQ8 := Lib.hid (HQ7.out.below hb11)
        have hs1 : Below w.heap.size w w11 ∧ Blk w11 B 28 #[.slice A2 (encR L').length k2] := ⟨HQ8.out.own.bel, HQ8.out.b6⟩
        clear HQ7 hb11 HAT hs0
        refine hK1.out _ _ hs1 (fun _ => ?_)
        clear hK1 K1
        try simp only [Act.put, List.setIfInBounds_toArray, List.set_cons_zero, List.set_cons_succ]
        refine wpAnyH_take (i := 7) (v := ?v22) (by rw [List.getElem?_toArray]; exact rfl) (by kernel_rfl) (by kernel_rfl) (by kernel_rfl) (fun _ _ _ h => h) (Or.inl ⟨by rfl, ?hy22⟩) (by assumption) ?rest22
        case hy22 => intro w hSw; (try dsimp only at hSw); have k9 := hSw.2.cell 0; simp only [List.getElem?_toArray, List.getElem?_cons_zero] at k9; go_simp; (try with_reducible rfl)
        try simp only [Act.put, List.setIfInBounds_toArray, List.set_cons_zero, List.set_cons_succ]
        refine wpAnyH_done (by kernel_rfl) ?_ _
        refine NoPanic.normal ?_
        generalize atF (encR L') (px, pn) = at0 at *
        generalize getP L' (px, pn) = gp at *
        clear hs1
        have c9 := HQ8.out.b6.cell 0
        simp only [List.getElem?_toArray, List.getElem?_cons_zero] at c9
        have hc512 : ((encR L').length : Int) ≤ 512 := by have := HQ8.out.cap; rw [encR_len]; omega
        rcases hat with ⟨rfl, rfl⟩ | ⟨u, rfl, s, hs, rfl, hrow⟩
        · by_cases hm4 : (k : Int) % 4 = 3
          · go_wp2_with fail
            refine (is6_any w g' L' HQ8.out.cap w11 HQ8.out.own A2 k2 HQ8.out.rows).mono ?_
            rintro e w12 ⟨rfl, hb12⟩
            have HQ9 := Lib.hid (HQ8.out.below hb12)
            clear HQ8 hb12 c9
            go_wp2_with fail
            go_roundw
            case rel => exact ⟨k + 1, g', L', A2, k2, by omega, by go_num, rfl, HQ9⟩
            case measure => simp [intOf] <;> omega
          · go_wp2_with fail
            go_roundw
            case rel => exact ⟨k + 1, g', L', A2, k2, by omega, by go_num, rfl, HQ8⟩
            case measure => simp [intOf] <;> omega
        · obtain ⟨b2, o2, rfl, hb2, _, _, c2⟩ := lies_row HQ8.out.rows s hs
          rw [hrow] at c2
          have hs2 : (s : Int) < ((encR L').length : Int) := by omega
          have hs0 : (0 : Int) ≤ (s : Int) := by omega
          clear hrow
          by_cases hm4 : (k : Int) % 4 = 3
          · go_wp2_with fail
            refine (is6_any w g' L' HQ8.out.cap w11 HQ8.out.own (some ⟨b2, o2, none⟩) k2 HQ8.out.rows).mono ?_
            rintro e w12 ⟨rfl, hb12⟩
            have HQ9 := Lib.hid (HQ8.out.below hb12)
            clear HQ8 hb12 c9
            go_wp2_with fail
            go_roundw
            case rel => exact ⟨k + 1, g', L', (some ⟨b2, o2, none⟩), k2, by omega, by go_num, rfl, HQ9⟩
            case measure => simp [intOf] <;> omega
          · go_wp2_with fail
            go_roundw
            case rel => exact ⟨k + 1, g', L', (some ⟨b2, o2, none⟩), k2, by omega, by go_num, rfl, HQ8⟩
            case measure => simp [intOf] <;> omega
      · have hbx := box_below w4 (.cells #[.slice none 0 0] 28)
        have hs1 : Below w.heap.size w (w4.alloc (.cells #[.slice none 0 0] 28)) ∧ Blk (w4.alloc (.cells #[.slice none 0 0] 28)) B 28 #[.slice A1 (encR L).length k1] := ⟨hs0.1.trans (hbx.mono hs0.1.size), hs0.2.below hbx hs0.2.lt⟩
        have HP2 := Lib.hid (And.intro (HP1.out.below hbx) (And.intro (Blk.new w4 28 #[.slice none 0 0]) (And.intro hs0.2.lt hs0.1.size)))
        clear HP1 hbx hs0
        go_simp
        refine hK1.out _ _ hs1 (fun _ => ?_)
        clear hK1 K1
        generalize (w4.alloc (.cells #[.slice none 0 0] 28)) = w5 at *
        generalize w4.heap.size = Bn at *
        try simp only [Act.put, List.setIfInBounds_toArray, List.set_cons_zero, List.set_cons_succ]
        refine ready_call (i := 6) (by kernel_rfl) (by rw [List.getElem?_toArray]; exact rfl) (by kernel_rfl) (fun K1 hK1 => ?_)
        go_simp
        refine (HAC.out w5 HP2.out.1.own HP2.out.1.rows).mono ?_
        rintro e w6 ⟨g', v', L', rfl, hO, ⟨A2, k2, rfl, hk2, hr2⟩, hc2, hkp⟩
        go_simp
        have hs2 : Below w.heap.size w w6 ∧ Blk w6 B 28 #[.slice A1 (encR L).length k1] := ⟨hO.bel, hkp.only.blk HP2.out.1.b6 (by decide) (by decide)⟩
        have HQ2 : Hid (OwnT w g' L' w6 ∧ LiesS w6 A2 (rowCs (encR L')) ∧ (encR L').length ≤ k2 ∧ L'.length ≤ 512 ∧ w.heap.size ≤ B ∧ B < Bn ∧ Blk w6 Bn 28 #[.slice none 0 0] ∧ w.heap.size ≤ Bn) := Lib.hid ⟨hO, hr2, hk2, hc2, HP2.out.1.lo, HP2.out.2.2.1, hkp.only.blk HP2.out.2.1 (by decide) (by decide), HP2.out.2.2.2⟩
        clear hO hr2 hk2 hc2 hkp HP2 HAC hs1
        refine hK1.out _ _ hs2 (fun _ => ?_)
        clear hK1 K1
        try simp only [Act.put, List.setIfInBounds_toArray, List.set_cons_zero, List.set_cons_succ]
        refine wpAnyH_take (i := 7) (v := ?v23) (by rw [List.getElem?_toArray]; exact rfl) (by kernel_rfl) (by kernel_rfl) (by kernel_rfl) (fun _ _ _ h => h) (Or.inl ⟨by rfl, ?hy23⟩) (by assumption) ?rest23
        case hy23 => intro w hSw; (try dsimp only at hSw); have k9 := hSw.2.cell 0; simp only [List.getElem?_toArray, List.getElem?_cons_zero] at k9; go_simp; (try with_reducible rfl)
        try simp only [Act.put, List.setIfInBounds_toArray, List.set_cons_zero, List.set_cons_succ]
        refine wpAnyH_take (i := 8) (v := ?v24) (by rw [List.getElem?_toArray]; exact rfl) (by kernel_rfl) (by kernel_rfl) (by kernel_rfl) (fun _ _ _ h => h) (Or.inl ⟨by rfl, ?hy24⟩) (by assumption) ?rest24
        case hy24 => intro w hSw; (try dsimp only at hSw); have k9 := hSw.2.cell 0; simp only [List.getElem?_toArray, List.getElem?_cons_zero] at k9; go_simp; (try with_reducible rfl)
        try simp only [Act.put, List.setIfInBounds_toArray, List.set_cons_zero, List.set_cons_succ]
        refine wpAnyH_take (i := 9) (v := ?v25) (by rw [List.getElem?_toArray]; exact rfl) (by kernel_rfl) (by kernel_rfl) (by kernel_rfl) (fun _ _ _ h => h) (Or.inl ⟨by rfl, ?hy25⟩) (by assumption) ?rest25
        case hy25 => intro w hSw; (try dsimp only at hSw); have k9 := hSw.2.cell 0; simp only [List.getElem?_toArray, List.getElem?_cons_zero] at k9; go_simp; (try with_reducible rfl)
        try simp only [Act.put, List.setIfInBounds_toArray, List.set_cons_zero, List.set_cons_succ]
        refine wpAnyH_take (i := 10) (v := ?v26) (by rw [List.getElem?_toArray]; exact rfl) (by kernel_rfl) (by kernel_rfl) (by kernel_rfl) (fun _ _ _ h => h) (Or.inl ⟨by rfl, ?hy26⟩) (by assumption) ?rest26
        case hy26 => intro w hSw; (try dsimp only at hSw); have k9 := hSw.2.cell 0; simp only [List.getElem?_toArray, List.getElem?_cons_zero] at k9; go_simp; (try with_reducible rfl)
        try simp only [Act.put, List.setIfInBounds_toArray, List.set_cons_zero, List.set_cons_succ]
        refine wpAnyH_take (i := 12) (v := ?v27) (by rw [List.getElem?_toArray]; exact rfl) (by kernel_rfl) (by kernel_rfl) (by kernel_rfl) (fun _ _ _ h => h) (Or.inl ⟨by rfl, ?hy27⟩) (by assumption) ?rest27
        case hy27 => intro w hSw; (try dsimp only at hSw); have k9 := hSw.2.cell 0; simp only [List.getElem?_toArray, List.getElem?_cons_zero] at k9; go_simp; (try with_reducible rfl)
        try simp only [Act.put, List.setIfInBounds_toArray, List.set_cons_zero, List.set_cons_succ]
        refine ready_call (i := 13) (by kernel_rfl) (by rw [List.getElem?_toArray]; exact rfl) (by kernel_rfl) (fun K1 hK1 => ?_)
        have c7 := HQ2.out.2.2.2.2.2.2.1.cell 0
        have f7 := HQ2.out.2.2.2.2.2.2.1.frozen 0
        simp only [List.getElem?_toArray, List.getElem?_cons_zero] at c7
        go_simp
        have HQ3 : Hid (OwnT w g' L' (w6.setCell ⟨Bn, 0, none⟩ (.slice A2 (encR L').length k2)) ∧ LiesS (w6.setCell ⟨Bn, 0, none⟩ (.slice A2 (encR L').length k2)) A2 (rowCs (encR L')) ∧ (encR L').length ≤ k2 ∧ L'.length ≤ 512 ∧ w.heap.size ≤ B ∧ B < Bn ∧ Blk (w6.setCell ⟨Bn, 0, none⟩ (.slice A2 (encR L').length k2)) Bn 28 #[.slice A2 (encR L').length k2] ∧ Blk (w6.setCell ⟨Bn, 0, none⟩ (.slice A2 (encR L').length k2)) B 28 #[.slice A1 (encR L).length k1]) := Lib.hid (by
          obtain ⟨q1, q2, q3, q4, q5, q6, q7, q8⟩ := HQ2.out
          have h7 := q7.set_ 0 (.slice A2 (encR L').length k2)
          exact ⟨q1.set q7 (by decide) (by decide) q8 0 _, rows_set q2 q7 _, q3, q4, q5, q6, by simpa using h7, hs2.2.far (by simp; omega) _⟩)
        have hs3 : Below w.heap.size w (w6.setCell ⟨Bn, 0, none⟩ (.slice A2 (encR L').length k2)) ∧ Blk (w6.setCell ⟨Bn, 0, none⟩ (.slice A2 (encR L').length k2)) B 28 #[.slice A1 (encR L).length k1] := ⟨HQ3.out.1.bel, HQ3.out.2.2.2.2.2.2.2⟩
        clear hs2 HQ2 c7 f7
        refine hK1.out _ _ hs3 (fun _ => ?_)
        clear hK1 K1
        generalize (w6.setCell ⟨Bn, 0, none⟩ (.slice A2 (encR L').length k2)) = w7 at *
        try simp only [Act.put, List.setIfInBounds_toArray, List.set_cons_zero, List.set_cons_succ]
        refine wpAnyH_take (i := 14) (v := ?v28) (by rw [List.getElem?_toArray]; exact rfl) (by kernel_rfl) (by kernel_rfl) (by kernel_rfl) (fun _ _ _ h => h) (Or.inl ⟨by rfl, ?hy28⟩) (by assumption) ?rest28
        case hy28 => intro w hSw; (try dsimp only at hSw); have k9 := hSw.2.cell 0; simp only [List.getElem?_toArray, List.getElem?_cons_zero] at k9; go_simp; (try with_reducible rfl)
        try simp only [Act.put, List.setIfInBounds_toArray, List.set_cons_zero, List.set_cons_succ]
        refine wpAnyH_done (by kernel_rfl) ?_ _
        refine NoPanic.normal ?_
        go_wp2_with fail
        have HQ4 : Hid (OwnT w g' L' w7.drew ∧ LiesS w7.drew A2 (rowCs (encR L')) ∧ (encR L').length ≤ k2 ∧ L'.length ≤ 512 ∧ w.heap.size ≤ B ∧ B < Bn ∧ Blk w7.drew B 28 #[.slice A1 (encR L).length k1]) := Lib.hid (by
          have hd := below_drew w7
          obtain ⟨q1, q2, q3, q4, q5, q6, q7, q8⟩ := HQ3.out
          exact ⟨q1.below hd, q2.below hd, q3, q4, q5, q6, q8.below hd q8.lt⟩)
        have hs0 : Below w.heap.size w w7.drew ∧ Blk w7.drew Bn 28 #[.slice A2 (encR L').length k2] := ⟨HQ4.out.1.bel, HQ3.out.2.2.2.2.2.2.1.below (below_drew w7) HQ3.out.2.2.2.2.2.2.1.lt⟩
        clear HQ3 hs3
        refine wp_region_noPanic ?_
        refine wp_region_held_drew (S := fun V => Below w.heap.size w V ∧ Blk V Bn 28 #[.slice A2 (encR L').length k2]) (by kernel_rfl) hs0 ?_
        intro _
        generalize w7.drew = w8 at *
        refine wpAnyH_take (i := 0) (v := ?v29) (by rw [List.getElem?_toArray]; exact rfl) (by kernel_rfl) (by kernel_rfl) (by kernel_rfl) (fun _ _ _ h => h) (Or.inl ⟨by rfl, ?hy29⟩) (by assumption) ?rest29
        case hy29 => intro w hSw; (try dsimp only at hSw); have k9 := hSw.2.cell 0; simp only [List.getElem?_toArray, List.getElem?_cons_zero] at k9; go_simp; (try with_reducible rfl)
        try simp only [Act.put, List.setIfInBounds_toArray, List.set_cons_zero, List.set_cons_succ]
        refine wpAnyH_take (i := 1) (v := ?v30) (by rw [List.getElem?_toArray]; exact rfl) (by kernel_rfl) (by kernel_rfl) (by kernel_rfl) (fun _ _ _ h => h) (Or.inl ⟨by rfl, ?hy30⟩) (by assumption) ?rest30
        case hy30 => intro w hSw; (try dsimp only at hSw); have k9 := hSw.2.cell 0; simp only [List.getElem?_toArray, List.getElem?_cons_zero] at k9; go_simp; (try with_reducible rfl)
        try simp only [Act.put, List.setIfInBounds_toArray, List.set_cons_zero, List.set_cons_succ]
        refine wpAnyH_take (i := 2) (v := ?v31) (by rw [List.getElem?_toArray]; exact rfl) (by kernel_rfl) (by kernel_rfl) (by kernel_rfl) (fun _ _ _ h => h) (Or.inl ⟨by rfl, ?hy31⟩) (by assumption) ?rest31
        case hy31 => intro w hSw; (try dsimp only at hSw); have k9 := hSw.2.cell 0; simp only [List.getElem?_toArray, List.getElem?_cons_zero] at k9; go_simp; (try with_reducible rfl)
        try simp only [Act.put, List.setIfInBounds_toArray, List.set_cons_zero, List.set_cons_succ]
        refine ready_call (i := 3) (by kernel_rfl) (by rw [List.getElem?_toArray]; exact rfl) (by kernel_rfl) (fun K1 hK1 => ?_)
        have c7 := HQ4.out.2.2.2.2.2.2.cell 0
        have f7 := HQ4.out.2.2.2.2.2.2.frozen 0
        simp only [List.getElem?_toArray, List.getElem?_cons_zero] at c7
        go_simp
        have HQ5 : Hid (Ply2 w B g' L' A2 k2 (w8.setCell ⟨B, 0, none⟩ (.slice A2 (encR L').length k2))) := Lib.hid (by
          obtain ⟨q1, q2, q3, q4, q5, q6, q7⟩ := HQ4.out
          have h7 := q7.set_ 0 (.slice A2 (encR L').length k2)
          exact ⟨q1.set q7 (by decide) (by decide) q5 0 _, q4, rows_set q2 q7 _, q3, by simpa using h7, q5⟩)
        have hs4 : Below w.heap.size w (w8.setCell ⟨B, 0, none⟩ (.slice A2 (encR L').length k2)) ∧ Blk (w8.setCell ⟨B, 0, none⟩ (.slice A2 (encR L').length k2)) Bn 28 #[.slice A2 (encR L').length k2] := ⟨HQ5.out.own.bel, hs0.2.far (by have := HQ4.out.2.2.2.2.2.1; simp; omega) _⟩
        clear HQ4 c7 f7
        refine hK1.out _ _ hs4 (fun _ => ?_)
        clear hK1 K1
        clear hs4 hs0
        generalize (w8.setCell ⟨B, 0, none⟩ (.slice A2 (encR L').length k2)) = w9 at *
        try simp only [Act.put, List.setIfInBounds_toArray, List.set_cons_zero, List.set_cons_succ]
        refine wpAnyH_done (by kernel_rfl) ?_ _
        refine NoPanic.normal ?_
        obtain ⟨p0, p1, p2, p3⟩ := HC.out w9 HQ5.out.own.bel
        have HG := Lib.hid (getP_any px pn hxr.1 hxr.2 w g' L' w9 HQ5.out.own)
        have HAT := Lib.hid (fun (V : World) (hV : LiesS V A2 (rowCs (encR L'))) => refAt_any A2 k2 (encR L') px pn (by have := HQ5.out.cap; rw [encR_len]; omega) V hV)
        have hat := at_enc HQ5.out.own.srow HQ5.out.own.fit px pn hxr.1 hxr.2
        go_wp2_with fail
        refine HG.out.mono ?_
        rintro e wa ⟨rfl, hba⟩
        have HQ6 := Lib.hid (HQ5.out.below hba)
        clear HG HQ5 hba p0 p1 p2 p3
        go_wp2_with fail
        have HQ7 := Lib.hid (HQ6.out.below (below_drew wa))
        have hs0 : Below w.heap.size w wa.drew ∧ Blk wa.drew B 28 #[.slice A2 (encR L').length k2] := ⟨HQ7.out.own.bel, HQ7.out.b6⟩
        clear HQ6
        refine wp_region_noPanic ?_
        refine wp_region_held_drew (S := fun V => Below w.heap.size w V ∧ Blk V B 28 #[.slice A2 (encR L').length k2]) (by kernel_rfl) hs0 ?_
        intro _
        generalize wa.drew = w10 at *
        refine wpAnyH_take (i := 0) (v := ?v32) (by rw [List.getElem?_toArray]; exact rfl) (by kernel_rfl) (by kernel_rfl) (by kernel_rfl) (fun _ _ _ h => h) (Or.inl ⟨by rfl, ?hy32⟩) (by assumption) ?rest32
        case hy32 => intro w hSw; (try dsimp only at hSw); obtain ⟨p0, p1, p2, p3⟩ := HC.out w hSw.1; have k9 := hSw.2.cell 0; simp only [List.getElem?_toArray, List.getElem?_cons_zero] at k9; go_simp; (try with_reducible rfl)
        try simp only [Act.put, List.setIfInBounds_toArray, List.set_cons_zero, List.set_cons_succ]
        refine wpAnyH_take (i := 1) (v := ?v33) (by rw [List.getElem?_toArray]; exact rfl) (by kernel_rfl) (by kernel_rfl) (by kernel_rfl) (fun _ _ _ h => h) (Or.inl ⟨by rfl, ?hy33⟩) (by assumption) ?rest33
        case hy33 => intro w hSw; (try dsimp only at hSw); obtain ⟨p0, p1, p2, p3⟩ := HC.out w hSw.1; have k9 := hSw.2.cell 0; simp only [List.getElem?_toArray, List.getElem?_cons_zero] at k9; go_simp; (try with_reducible rfl)
        try simp only [Act.put, List.setIfInBounds_toArray, List.set_cons_zero, List.set_cons_succ]
        refine wpAnyH_take (i := 2) (v := ?v34) (by rw [List.getElem?_toArray]; exact rfl) (by kernel_rfl) (by kernel_rfl) (by kernel_rfl) (fun _ _ _ h => h) (Or.inl ⟨by rfl, ?hy34⟩) (by assumption) ?rest34
        case hy34 => intro w hSw; (try dsimp only at hSw); obtain ⟨p0, p1, p2, p3⟩ := HC.out w hSw.1; have k9 := hSw.2.cell 0; simp only [List.getElem?_toArray, List.getElem?_cons_zero] at k9; go_simp; (try with_reducible rfl)
        try simp only [Act.put, List.setIfInBounds_toArray, List.set_cons_zero, List.set_cons_succ]
        refine wpAnyH_take (i := 3) (v := ?v35) (by rw [List.getElem?_toArray]; exact rfl) (by kernel_rfl) (by kernel_rfl) (by kernel_rfl) (fun _ _ _ h => h) (Or.inl ⟨by rfl, ?hy35⟩) (by assumption) ?rest35
        case hy35 => intro w hSw; (try dsimp only at hSw); obtain ⟨p0, p1, p2, p3⟩ := HC.out w hSw.1; have k9 := hSw.2.cell 0; simp only [List.getElem?_toArray, List.getElem?_cons_zero] at k9; go_simp; (try with_reducible rfl)
        try simp only [Act.put, List.setIfInBounds_toArray, List.set_cons_zero, List.set_cons_succ]
        refine wpAnyH_take (i := 4) (v := ?v36) (by rw [List.getElem?_toArray]; exact rfl) (by kernel_rfl) (by kernel_rfl) (by kernel_rfl) (fun _ _ _ h => h) (Or.inl ⟨by rfl, ?hy36⟩) (by assumption) ?rest36
        case hy36 => intro w hSw; (try dsimp only at hSw); obtain ⟨p0, p1, p2, p3⟩ := HC.out w hSw.1; have k9 := hSw.2.cell 0; simp only [List.getElem?_toArray, List.getElem?_cons_zero] at k9; go_simp; (try with_reducible rfl)
        try simp only [Act.put, List.setIfInBounds_toArray, List.set_cons_zero, List.set_cons_succ]
        refine wpAnyH_take (i := 5) (v := ?v37) (by rw [List.getElem?_toArray]; exact rfl) (by kernel_rfl) (by kernel_rfl) (by kernel_rfl) (fun _ _ _ h => h) (Or.inl ⟨by rfl, ?hy37⟩) (by assumption) ?rest37
        case hy37 => intro w hSw; (try dsimp only at hSw); obtain ⟨p0, p1, p2, p3⟩ := HC.out w hSw.1; have k9 := hSw.2.cell 0; simp only [List.getElem?_toArray, List.getElem?_cons_zero] at k9; go_simp; (try with_reducible rfl)
        try simp only [Act.put, List.setIfInBounds_toArray, List.set_cons_zero, List.set_cons_succ]
        refine ready_call (i := 6) (by kernel_rfl) (by rw [List.getElem?_toArray]; exact rfl) (by kernel_rfl) (fun K1 hK1 => ?_)
        go_simp
        refine (HAT.out w10 HQ7.out.rows).mono ?_
        rintro e w11 ⟨rfl, hb11⟩
        go_simp
        have HQ8 := Lib.hid (HQ7.out.below hb11)
        have hs1 : Below w.heap.size w w11 ∧ Blk w11 B 28 #[.slice A2 (encR L').length k2] := ⟨HQ8.out.own.bel, HQ8.out.b6⟩
        clear HQ7 hb11 HAT hs0
        refine hK1.out _ _ hs1 (fun _ => ?_)
        clear hK1 K1
        try simp only [Act.put, List.setIfInBounds_toArray, List.set_cons_zero, List.set_cons_succ]
        refine wpAnyH_take (i := 7) (v := ?v38) (by rw [List.getElem?_toArray]; exact rfl) (by kernel_rfl) (by kernel_rfl) (by kernel_rfl) (fun _ _ _ h => h) (Or.inl ⟨by rfl, ?hy38⟩) (by assumption) ?rest38
        case hy38 => intro w hSw; (try dsimp only at hSw); have k9 := hSw.2.cell 0; simp only [List.getElem?_toArray, List.getElem?_cons_zero] at k9; go_simp; (try with_reducible rfl)
        try simp only [Act.put, List.setIfInBounds_toArray, List.set_cons_zero, List.set_cons_succ]
        refine wpAnyH_done (by kernel_rfl) ?_ _
        refine NoPanic.normal ?_
        generalize atF (encR L') (px, pn) = at0 at *
        generalize getP L' (px, pn) = gp at *
        clear hs1
        have c9 := HQ8.out.b6.cell 0
        simp only [List.getElem?_toArray, List.getElem?_cons_zero] at c9
        have hc512 : ((encR L').length : Int) ≤ 512 := by have := HQ8.out.cap; rw [encR_len]; omega
        rcases hat with ⟨rfl, rfl⟩ | ⟨u, rfl, s, hs, rfl, hrow⟩
        · by_cases hm4 : (k : Int) % 4 = 3
          · go_wp2_with fail
            refine (is6_any w g' L' HQ8.out.cap w11 HQ8.out.own A2 k2 HQ8.out.rows).mono ?_
            rintro e w12 ⟨rfl, hb12⟩
            have HQ9 := Lib.hid (HQ8.out.below hb12)
            clear HQ8 hb12 c9
            go_wp2_with fail
            go_roundw
            case rel => exact ⟨k + 1, g', L', A2, k2, by omega, by go_num, rfl, HQ9⟩
            case measure => simp [intOf] <;> omega
          · go_wp2_with fail
            go_roundw
            case rel => exact ⟨k + 1, g', L', A2, k2, by omega, by go_num, rfl, HQ8⟩
            case measure => simp [intOf] <;> omega
        · obtain ⟨b2, o2, rfl, hb2, _, _, c2⟩ := lies_row HQ8.out.rows s hs
          rw [hrow] at c2
          have hs2 : (s : Int) < ((encR L').length : Int) := by omega
          have hs0 : (0 : Int) ≤ (s : Int) := by omega
          clear hrow
          by_cases hm4 : (k : Int) % 4 = 3
          · go_wp2_with fail
            refine (is6_any w g' L' HQ8.out.cap w11 HQ8.out.own (some ⟨b2, o2, none⟩) k2 HQ8.out.rows).mono ?_
            rintro e w12 ⟨rfl, hb12⟩
            have HQ9 := Lib.hid (HQ8.out.below hb12)
            clear HQ8 hb12 c9
            go_wp2_with fail
            go_roundw
            case rel => exact ⟨k + 1, g', L', (some ⟨b2, o2, none⟩), k2, by omega, by go_num, rfl, HQ9⟩
            case measure => simp [intOf] <;> omega
          · go_wp2_with fail
            go_roundw
            case rel => exact ⟨k + 1, g', L', (some ⟨b2, o2, none⟩), k2, by omega, by go_num, rfl, HQ8⟩
            case measure => simp [intOf] <;> omega
    · obtain rfl : k = l.length := by omega
      have hlt2 : ¬ (l.length : Int) < (l.length : Int) := by omega
      have c9 := HP.out.b6.cell 0
      simp only [List.getElem?_toArray, List.getElem?_cons_zero] at c9
      go_wp2_with fail
      refine (is6_any w g L HP.out.cap wr HP.out.own A1 k1 HP.out.rows).mono ?_
      rintro e w12 ⟨rfl, hb12⟩
      have HZ := Lib.hid (HP.out.own.bel.trans (hb12.mono HP.out.own.bel.size))
      clear HP hb12 c9
      go_wp2_with fail
      refine (works6_any _).mono ?_
      rintro e w13 ⟨rfl, hb13⟩
      have HE := Lib.hid (HZ.out.trans (hb13.mono HZ.out.size))
      clear hb13
      go_wp2_with fail
      go_ret
      exact ⟨rfl, HE.out⟩
end T6
end Go.Proofs.Ytghkacciihocdaa

namespace Go.Proofs.Ytghkacciihocdaa
open Go Go.RowKit Go.Shelf Go.Sort
attribute [local go_sem] Oper.semAt_some
namespace T6

theorem enc_inj : ∀ {a b : List (Key × Int)}, (∀ r ∈ a, r.1.length ≤ 32) → (∀ r ∈ b, r.1.length ≤ 32) → encR a = encR b → a = b
  | [], [], _, _, _ => rfl
  | [], y :: b, _, _, h => by simp [encR] at h
  | x :: a, [], _, _, h => by simp [encR] at h
  | x :: a, y :: b, ha, hb, h => by
    simp only [encR, List.map_cons, List.cons.injEq, rowR, Prod.mk.injEq] at h
    have h1 := kp_inj (ha x (by simp)) (hb y (by simp)) h.1.1.1 h.1.1.2
    have h2 := enc_inj (fun r hr => ha r (by simp [hr])) (fun r hr => hb r (by simp [hr])) h.2
    rw [h2, Prod.ext h1 h.1.2]
theorem sameT_any (w : World) (g h : Nat) (L M : List (Key × Int)) (hcap : L.length ≤ 512) (W : World) (H : TwoT w g L h M W) :
    Calls Try.prog 30 #[.pointer (some ⟨g, 0, none⟩), .pointer (some ⟨h, 0, none⟩)] W fun e w' => e = .returned (.bool (decide (encR L = encR M))) ∧ Below W.heap.size W w' := by
  have h1 := H.one
  have h2 := H.two
  refine (same6_any w _ _ L M hcap W h1.bel.size (.inr ⟨g, rfl, h1⟩) (.inr ⟨h, rfl, h2⟩)).mono fun e w' ⟨he, hb⟩ => ⟨?_, hb⟩
  rw [he]
  congr 2
  exact decide_eq_decide.2 ⟨fun e => by rw [e.2], fun e => ⟨rfl, enc_inj h1.fit h2.fit e⟩⟩
/-- What TrieCopies holds on to: both tries, both lists in their boxes. -/
structure CpC (W0 w0 : World) (g : Nat) (L : List (Key × Int)) (h : Nat) (M : List (Key × Int)) (B C : Nat) (A1 A2 : Option Addr) (k1 k2 : Nat) (W : World) : Prop where
  two : TwoT w0 g L h M W
  bB : Blk W B 28 #[.slice A1 (encR L).length k1]
  bC : Blk W C 28 #[.slice A2 (encR M).length k2]
  r1 : LiesS W A1 (rowCs (encR L))
  r2 : LiesS W A2 (rowCs (encR M))
  c1 : L.length ≤ 512
  c2 : M.length ≤ 512
  bel : Below W0.heap.size W0 W
theorem CpC.below {W0 w0 : World} {g : Nat} {L : List (Key × Int)} {h : Nat} {M : List (Key × Int)} {B C : Nat} {A1 A2 : Option Addr} {k1 k2 : Nat} {W W' : World} (H : CpC W0 w0 g L h M B C A1 A2 k1 k2 W) (hb : Below W.heap.size W W') : CpC W0 w0 g L h M B C A1 A2 k1 k2 W' :=
  ⟨H.two.below hb, H.bB.below hb H.bB.lt, H.bC.below hb H.bC.lt, H.r1.below hb, H.r2.below hb, H.c1, H.c2, H.bel.trans (hb.mono H.bel.size)⟩
set_option maxRecDepth 100000 in
set_option maxHeartbeats 3200000 in
theorem law06_copies (A : Option Addr) (c : Nat) (l : List Act6) (hl : ∀ p ∈ l, 0 ≤ p.2.1 ∧ p.2.1 < 4294967296) (ac ax an au bc bx bn bu : Int) (ax0 : 0 ≤ ax) (ax1 : ax < 4294967296) (bx0 : 0 ≤ bx) (bx1 : bx < 4294967296) (w : World) (hA : ActsS w A l) :
    Calls Try.prog 7 #[.slice A l.length c, .agg #[.int .i64 ac, .int .u32 ax, .int .i64 an, .int .i64 au], .agg #[.int .i64 bc, .int .u32 bx, .int .i64 bn, .int .i64 bu]] w fun e w' => e = .returned (.bool true) ∧ Below w.heap.size w w' := by
  have hb0 := two_below w (.cells #[.int .i64 ac, .int .u32 ax, .int .i64 an, .int .i64 au] 36) (.cells #[.int .i64 bc, .int .u32 bx, .int .i64 bn, .int .i64 bu] 36)
  have hx5 := (Blk.new w 36 #[.int .i64 ac, .int .u32 ax, .int .i64 an, .int .i64 au]).alloc (.cells #[.int .i64 bc, .int .u32 bx, .int .i64 bn, .int .i64 bu] 36)
  have hx7 : Blk ((w.alloc (.cells #[.int .i64 ac, .int .u32 ax, .int .i64 an, .int .i64 au] 36)).alloc (.cells #[.int .i64 bc, .int .u32 bx, .int .i64 bn, .int .i64 bu] 36)) (w.heap.size + 1) 36 #[.int .i64 bc, .int .u32 bx, .int .i64 bn, .int .i64 bu] := by
    have := Blk.new (w.alloc (.cells #[.int .i64 ac, .int .u32 ax, .int .i64 an, .int .i64 au] 36)) 36 #[.int .i64 bc, .int .u32 bx, .int .i64 bn, .int .i64 bu]
    simpa using this
  have HX := Lib.hid (And.intro hb0 (And.intro hx5 hx7))
  have HA := Lib.hid (hA.below hb0)
  have HL := Lib.hid hl
  have HBW := Lib.hid hb0
  clear hb0 hx5 hx7 hA hl
  go_enter Try.func7, Try.ntmps7
  by_cases h40 : 30 < (l.length : Int)
  · go_wp2_with fail
    refine (works6_any _).mono ?_
    rintro e w1 ⟨rfl, hb1⟩
    have HB1 := Lib.hid (HX.out.1.trans (hb1.mono HX.out.1.size))
    clear hb1
    go_wp2_with fail
    go_ret
    exact ⟨rfl, HB1.out⟩
  have hl40 : l.length ≤ 40 := by omega
  go_wp2_with fail
  generalize ((w.alloc (.cells #[.int .i64 ac, .int .u32 ax, .int .i64 an, .int .i64 au] 36)).alloc (.cells #[.int .i64 bc, .int .u32 bx, .int .i64 bn, .int .i64 bu] 36)) = w0 at *
  refine (played_any A c l HL.out hl40 w0 HA.out).mono ?_
  rintro e w1 ⟨g, v, L, rfl, hO, ⟨A1, k1, rfl, hk1, hr1⟩, hcap⟩
  have hbel := hO.bel
  have hb2 := box_below w1 (.cells #[.slice A1 (encR L).length k1] 28)
  have HO := Lib.hid (hO.below hb2)
  have HR := Lib.hid (hr1.below hb2)
  have HX2 : Hid (Blk (w1.alloc (.cells #[.slice A1 (encR L).length k1] 28)) w.heap.size 36 #[.int .i64 ac, .int .u32 ax, .int .i64 an, .int .i64 au] ∧ Blk (w1.alloc (.cells #[.slice A1 (encR L).length k1] 28)) (w.heap.size + 1) 36 #[.int .i64 bc, .int .u32 bx, .int .i64 bn, .int .i64 bu] ∧ Blk (w1.alloc (.cells #[.slice A1 (encR L).length k1] 28)) w1.heap.size 28 #[.slice A1 (encR L).length k1]) := Lib.hid (by
    have e5 := HX.out.2.1.below hbel HX.out.2.1.lt
    have e7 := HX.out.2.2.below hbel HX.out.2.2.lt
    exact ⟨e5.below hb2 e5.lt, e7.below hb2 e7.lt, Blk.new w1 _ _⟩)
  have HF := Lib.hid (And.intro hcap hk1)
  clear hO hr1 hbel hb2 HX HA
  go_wp2_with fail
  generalize (w1.alloc (.cells #[.slice A1 (encR L).length k1] 28)) = w2 at *
  generalize w1.heap.size = B at *
  refine (copyT_any w0 g L HF.out.1 w2 HO.out).mono ?_
  rintro e w3 ⟨g', rfl, hO', hb3⟩
  have HT := Lib.hid (TwoT.new HO.out hb3 hO' (Nat.le_refl _))
  have HR3 := Lib.hid (HR.out.below hb3)
  have HX3 := Lib.hid (And.intro (HX2.out.1.below hb3 HX2.out.1.lt) (And.intro (HX2.out.2.1.below hb3 HX2.out.2.1.lt) (HX2.out.2.2.below hb3 HX2.out.2.2.lt)))
  clear hO' hb3 HO HR HX2
  have r0 := HX3.out.2.2.cell 0
  have q0 := HX3.out.1.cell 0
  have q1 := HX3.out.1.cell 1
  have q2 := HX3.out.1.cell 2
  have q3 := HX3.out.1.cell 3
  simp only [List.getElem?_toArray, List.getElem?_cons_zero, List.getElem?_cons_succ] at q0 q1 q2 q3 r0
  go_wp2_with fail
  refine (act2_any ac ax an au ax0 ax1 w0 g L HF.out.1 g' L w3 HT.out A1 k1 HF.out.2 HR3.out).mono ?_
  rintro e w4 ⟨g2, v2, L2, rfl, hT2, ⟨A2, k2, rfl, hk2, hr2⟩, hc2, hkp⟩
  have hb4 := box_below w4 (.cells #[.slice A2 (encR L2).length k2] 28)
  have HT4 := Lib.hid (hT2.below hb4)
  have HR4 := Lib.hid ((hkp.rows _ _ HR3.out).below hb4)
  have HR2 := Lib.hid (hr2.below hb4)
  have HX4 : Hid (Blk (w4.alloc (.cells #[.slice A2 (encR L2).length k2] 28)) (w.heap.size + 1) 36 #[.int .i64 bc, .int .u32 bx, .int .i64 bn, .int .i64 bu] ∧ Blk (w4.alloc (.cells #[.slice A2 (encR L2).length k2] 28)) B 28 #[.slice A1 (encR L).length k1] ∧ Blk (w4.alloc (.cells #[.slice A2 (encR L2).length k2] 28)) w4.heap.size 28 #[.slice A2 (encR L2).length k2]) := Lib.hid (by
    have e7 := hkp.only.blk HX3.out.2.1 (by decide) (by decide)
    have eB := hkp.only.blk HX3.out.2.2 (by decide) (by decide)
    exact ⟨e7.below hb4 e7.lt, eB.below hb4 eB.lt, Blk.new w4 _ _⟩)
  have HF2 := Lib.hid (And.intro hc2 hk2)
  clear hT2 hr2 hc2 hk2 hkp hb4 HT HR3 HX3 q0 q1 q2 q3 r0
  have r0 := HX4.out.2.1.cell 0
  have q0 := HX4.out.1.cell 0
  have q1 := HX4.out.1.cell 1
  have q2 := HX4.out.1.cell 2
  have q3 := HX4.out.1.cell 3
  simp only [List.getElem?_toArray, List.getElem?_cons_zero, List.getElem?_cons_succ] at q0 q1 q2 q3 r0
  go_wp2_with fail
  generalize (w4.alloc (.cells #[.slice A2 (encR L2).length k2] 28)) = w5 at *
  generalize w4.heap.size = C at *
  refine (act2_any bc bx bn bu bx0 bx1 w0 g' L HF.out.1 g2 L2 w5 HT4.out.swap A1 k1 HF.out.2 HR4.out).mono ?_
  rintro e w6 ⟨g3, v3, L3, rfl, hT3, ⟨A3, k3, rfl, hk3, hr3⟩, hc3, hkp⟩
  have hb6 := box_below w6 (.cells #[.slice A3 (encR L3).length k3] 28)
  have hcp : CpC w w0 g2 L2 g3 L3 C w6.heap.size A2 A3 k2 k3 (w6.alloc (.cells #[.slice A3 (encR L3).length k3] 28)) := by
    have eC := hkp.only.blk HX4.out.2.2 (by decide) (by decide)
    have h0 := hT3.one.bel
    exact ⟨hT3.swap.below hb6, eC.below hb6 eC.lt, Blk.new w6 _ _, (hkp.rows _ _ HR2.out).below hb6, hr3.below hb6, HF2.out.1, hc3, HBW.out.trans ((h0.trans (hb6.mono h0.size)).mono HBW.out.size)⟩
  have HC := Lib.hid hcp
  clear hcp hT3 hr3 hk3 hkp hb6 HT4 HR4 HR2 HX4 HF HF2 hc3 q0 q1 q2 q3 r0
  have r0 := HC.out.bB.cell 0
  have r1 := HC.out.bC.cell 0
  simp only [List.getElem?_toArray, List.getElem?_cons_zero] at r0 r1
  go_wp2_with fail
  generalize (w6.alloc (.cells #[.slice A3 (encR L3).length k3] 28)) = w7 at *
  generalize w6.heap.size = D at *
  refine (refSame6_any A2 A3 k2 k3 (encR L2) (encR L3) (by have := HC.out.c1; rw [encR_len]; omega) (by have := HC.out.c2; rw [encR_len]; omega) w7 HC.out.r1 HC.out.r2).mono ?_
  rintro e w8 ⟨rfl, hb8⟩
  have HC8 := Lib.hid (HC.out.below hb8)
  have HS1 := Lib.hid (fun (V : World) (hV : TwoT w0 g2 L2 g3 L3 V) => sameT_any w0 g2 g3 L2 L3 HC.out.c1 V hV)
  have HS2 := Lib.hid (fun (V : World) (hV : TwoT w0 g2 L2 g3 L3 V) => sameT_any w0 g3 g2 L3 L2 HC.out.c2 V hV.swap)
  rw [show decide (encR L3 = encR L2) = decide (encR L2 = encR L3) from decide_eq_decide.2 ⟨Eq.symm, Eq.symm⟩] at HS2
  generalize decide (encR L2 = encR L3) = same at *
  clear hb8 HC r0 r1
  have r0 := HC8.out.bB.cell 0
  simp only [List.getElem?_toArray, List.getElem?_cons_zero] at r0
  go_wp2_with fail
  refine (is6_any w0 g2 L2 HC8.out.c1 w8 HC8.out.two.one A2 k2 HC8.out.r1).mono ?_
  rintro e w9 ⟨rfl, hb9⟩
  have HC9 := Lib.hid (HC8.out.below hb9)
  clear hb9 HC8 r0
  have r1 := HC9.out.bC.cell 0
  simp only [List.getElem?_toArray, List.getElem?_cons_zero] at r1
  go_wp2_with fail
  refine (is6_any w0 g3 L3 HC9.out.c2 w9 HC9.out.two.two A3 k3 HC9.out.r2).mono ?_
  rintro e w10 ⟨rfl, hb10⟩
  have HC10 := Lib.hid (HC9.out.below hb10)
  clear hb10 HC9 r1
  go_wp2_with fail
  refine (HS1.out w10 HC10.out.two).mono ?_
  rintro e w11 ⟨rfl, hb11⟩
  have HC11 := Lib.hid (HC10.out.below hb11)
  clear hb11 HC10
  go_wp2_with fail
  refine (HS2.out w11 HC11.out.two).mono ?_
  rintro e w12 ⟨rfl, hb12⟩
  have HC12 := Lib.hid (HC11.out.below hb12)
  clear hb12 HC11
  go_wp2_with fail
  refine (works6_any _).mono ?_
  rintro e w13 ⟨rfl, hb13⟩
  have HE := Lib.hid (HC12.out.bel.trans (hb13.mono HC12.out.bel.size))
  clear hb13
  go_wp2_with fail
  go_ret
  exact ⟨rfl, HE.out⟩
end T6
end Go.Proofs.Ytghkacciihocdaa
