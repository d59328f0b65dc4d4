/- Merged by tools/merge.py: I38, I39, I40, I41, I42. -/
import Derived.Test.YtghkacciihocdaaI37
namespace Go.Proofs.Ytghkacciihocdaa
open Go Go.RowKit Go.Shelf Go.Sort
namespace T6

/-- A row of the trie's as the document has it. -/
def rowR (r : Key × Int) : Row6 := ((kx r.1, kn r.1), r.2)
def encR (L : List (Key × Int)) : List Row6 := L.map rowR
theorem encR_len (L : List (Key × Int)) : (encR L).length = L.length := List.length_map _
theorem snap_rowR (s : Snap) : rowOfS s = rowR (snapR s) := rfl
theorem snaps_enc {l : List Snap} {R : List (Key × Int)} (h : l.map snapR = R) : l.map rowOfS = encR R := by
  subst h
  unfold encR
  rw [List.map_map]
  rfl
theorem while_split {α : Type} {f : α → Bool} : ∀ {l : List α}, l.Pairwise (fun a b => f b = true → f a = true) → l.takeWhile f = l.filter f ∧ l.drop (l.takeWhile f).length = l.filter (fun x => !f x)
  | [], _ => ⟨rfl, rfl⟩
  | a :: l, h => by
    have h' := List.pairwise_cons.1 h
    have ih := while_split h'.2
    cases hf : f a with
    | true =>
      simp only [List.takeWhile_cons, hf, if_true, List.filter_cons, List.length_cons, List.drop_succ_cons, Bool.not_true, Bool.false_eq_true, if_false]
      exact ⟨by rw [ih.1], ih.2⟩
    | false =>
      have hn : ∀ x ∈ l, f x = false := fun x hx => by
        cases hx' : f x with
        | false => rfl
        | true => have := h'.1 x hx hx'; rw [hf] at this; cases this
      have e1 : l.filter f = [] := filter_none hn
      have e2 : l.filter (fun x => !f x) = l := List.filter_eq_self.2 fun x hx => by simp [hn x hx]
      simp only [List.takeWhile_cons, hf, List.filter_cons, Bool.not_false, if_true, Bool.false_eq_true, if_false, List.length_nil, List.drop_zero, e1, e2]
      exact ⟨trivial, trivial⟩
theorem srow_fit {L : List (Key × Int)} (hs : SRow L) (hf : ∀ r ∈ L, r.1.length ≤ 32) : L.Pairwise (fun a b => klt a.1 b.1 = true ∧ a.1.length ≤ 32 ∧ b.1.length ≤ 32) := by
  induction L with
  | nil => exact .nil
  | cons a L ih =>
    have h := List.pairwise_cons.1 hs
    exact List.pairwise_cons.2 ⟨fun b hb => ⟨h.1 b hb, hf a (by simp), hf b (by simp [hb])⟩, ih h.2 fun r hr => hf r (by simp [hr])⟩
/-- What the document goes over from a prefix on is what the trie goes over. -/
theorem from_enc {L : List (Key × Int)} (hs : SRow L) (hf : ∀ r ∈ L, r.1.length ≤ 32) (x n : Int) : (encR L).drop (ahead6 (encR L) (x, n)) = encR (L.filter (fun r => fromB x n r.1)) := by
  have hp : (encR L).Pairwise (fun a b => (fun r : Row6 => decide (ordF r.1.1 r.1.2 x n < 0)) b = true → (fun r : Row6 => decide (ordF r.1.1 r.1.2 x n < 0)) a = true) := by
    unfold encR
    refine List.pairwise_map.2 ((srow_fit hs hf).imp fun {a b} h h2' => ?_)
    have h1 := (ord_klt h.2.1 h.2.2).2 h.1
    have h2 : ordF (kx b.1) (kn b.1) x n < 0 := of_decide_eq_true h2'
    show decide (ordF (kx a.1) (kn a.1) x n < 0) = true
    refine decide_eq_true ?_
    clear h2'
    unfold ordF at *
    split at h2
    · cases h2
    · split at h2
      case isFalse => cases h2
      case isTrue h3 h4 =>
      split at h1
      · cases h1
      · split at h1
        case isFalse => cases h1
        case isTrue h5 h6 =>
        rw [if_neg (by omega), if_pos (by omega)]
        decide
  have h := (while_split hp).2
  unfold ahead6
  rw [h]
  unfold encR
  rw [List.filter_map]
  congr 1
  refine List.filter_congr fun r _ => ?_
  simp only [Function.comp, rowR, fromB]
  by_cases h0 : ordF (kx r.1) (kn r.1) x n < 0
  · simp [h0] <;> omega
  · simp [h0] <;> omega
/-- Where a row stands that is there. -/
theorem srow_split {L : List (Key × Int)} (hs : SRow L) {K : Key} {u : Int} (h : (K, u) ∈ L) : ∃ A B, L = A ++ (K, u) :: B ∧ (∀ r ∈ A, klt r.1 K = true) ∧ (∀ r ∈ B, klt K r.1 = true) := by
  obtain ⟨A, B, rfl⟩ := List.append_of_mem h
  have h1 := List.pairwise_append.1 hs
  exact ⟨A, B, rfl, fun r hr => h1.2.2 r hr (K, u) (by simp), fun r hr => (List.pairwise_cons.1 h1.2.1).1 r hr⟩
theorem while_ne {L : List (Key × Int)} {K : Key} (hK : K.length ≤ 32) (hf : ∀ r ∈ L, r.1.length ≤ 32) (hn : ∀ r ∈ L, r.1 ≠ K) (B : List Row6) : (encR L ++ B).takeWhile (fun r => decide (r.1 ≠ (kx K, kn K))) = encR L ++ B.takeWhile (fun r => decide (r.1 ≠ (kx K, kn K))) := by
  refine List.takeWhile_append_of_pos fun r hr => ?_
  obtain ⟨q, hq, rfl⟩ := List.mem_map.1 hr
  refine decide_eq_true fun e => hn q hq ?_
  simp only [rowR, Prod.mk.injEq] at e
  exact kp_inj (hf q hq) hK e.1 e.2
theorem spot_some {L A B : List (Key × Int)} {K : Key} {u : Int} (hK : K.length ≤ 32) (hf : ∀ r ∈ L, r.1.length ≤ 32) (e : L = A ++ (K, u) :: B) (hA : ∀ r ∈ A, klt r.1 K = true) : spot6 (encR L) (kx K, kn K) = A.length := by
  subst e
  unfold spot6
  have : encR (A ++ (K, u) :: B) = encR A ++ rowR (K, u) :: encR B := by simp [encR]
  rw [this, while_ne hK (fun r hr => hf r (by simp [hr])) (fun r hr => klt_ne (hA r hr))]
  simp [rowR, encR]
theorem spot_none {L : List (Key × Int)} {K : Key} (hK : K.length ≤ 32) (hf : ∀ r ∈ L, r.1.length ≤ 32) (h : getR L K = none) : spot6 (encR L) (kx K, kn K) = L.length := by
  unfold spot6
  have hn : ∀ r ∈ L, r.1 ≠ K := fun r hr e => get_none.1 h r.2 (by rw [← e]; exact hr)
  have := while_ne hK hf hn []
  simp only [List.append_nil, List.takeWhile_nil] at this
  rw [this, encR_len]
theorem parts_some {A B : List (Key × Int)} {K : Key} {u : Int} (hA : ∀ r ∈ A, klt r.1 K = true) (hB : ∀ r ∈ B, klt K r.1 = true) (v : Int) :
    putL (A ++ (K, u) :: B) K v = A ++ (K, v) :: B ∧ takeL (A ++ (K, u) :: B) K = A ++ B := by
  have hAf : A.filter (fun r => klt r.1 K) = A := List.filter_eq_self.2 hA
  have hBf : B.filter (fun r => klt K r.1) = B := List.filter_eq_self.2 hB
  have hA0 : A.filter (fun r => klt K r.1) = [] := filter_none fun r hr => klt_asymm (hA r hr)
  have hB0 : B.filter (fun r => klt r.1 K) = [] := filter_none fun r hr => klt_asymm (hB r hr)
  have hA1 : A.filter (fun r => decide (r.1 ≠ K)) = A := List.filter_eq_self.2 fun r hr => decide_eq_true (klt_ne (hA r hr))
  have hB1 : B.filter (fun r => decide (r.1 ≠ K)) = B := List.filter_eq_self.2 fun r hr => decide_eq_true (Ne.symm (klt_ne (hB r hr)))
  unfold putL takeL
  simp only [List.filter_append, List.filter_cons, klt_irrefl, hAf, hBf, hA0, hB0, hA1, hB1]
  simp
/-- The document's put, by the trie's rows. -/
theorem put_enc {L : List (Key × Int)} (hs : SRow L) (hf : ∀ r ∈ L, r.1.length ≤ 32) (x n : Int) (x0 : 0 ≤ x) (x1 : x < 4294967296) (v : Int) :
    putF (encR L) (x, n) v = if right x n then (if (getR L (bitsOf x n)).isSome then (encR (putL L (bitsOf x n) v), valO (getR L (bitsOf x n)), true, 0) else if 512 ≤ L.length then (encR L, 0, false, 3) else (encR (putL L (bitsOf x n) v), 0, false, 0)) else (encR L, 0, false, 2) := by
  unfold putF
  by_cases hr : right x n
  · rw [if_pos hr, if_pos hr]
    have hk := kp_bitsOf x0 x1 hr
    generalize hK : bitsOf x n = K at *
    obtain ⟨rfl, rfl, hk3⟩ := hk
    cases hg : getR L K with
    | some u =>
      obtain ⟨A, B, rfl, hA, hB⟩ := srow_split hs ((get_some hs).1 hg)
      have hsp := spot_some hk3 hf rfl hA
      rw [hsp, encR_len, if_pos (by simp)]
      have e : encR (A ++ (K, u) :: B) = encR A ++ rowR (K, u) :: encR B := by simp [encR]
      have hl : (encR A).length = A.length := encR_len A
      rw [(parts_some hA hB v).1, e]
      have e1 : (encR A ++ rowR (K, u) :: encR B)[A.length]? = some (rowR (K, u)) := by rw [← hl]; simp
      have e2 : (encR A ++ rowR (K, u) :: encR B).set A.length ((kx K, kn K), v) = encR A ++ ((kx K, kn K), v) :: encR B := by rw [← hl]; simp
      rw [e1, e2]
      simp [encR, rowR, valO]
    | none =>
      have hsp := spot_none hk3 hf hg
      rw [hsp, encR_len, if_neg (by omega)]
      have hp : (encR L).Pairwise (fun a b => (fun r : Row6 => decide (ordF r.1.1 r.1.2 (kx K) (kn K) < 0)) b = true → (fun r : Row6 => decide (ordF r.1.1 r.1.2 (kx K) (kn K) < 0)) a = true) := by
        unfold encR
        refine List.pairwise_map.2 ((srow_fit hs hf).imp fun {a b} h h2' => ?_)
        have h2 : ordF (kx b.1) (kn b.1) (kx K) (kn K) < 0 := of_decide_eq_true h2'
        show decide (ordF (kx a.1) (kn a.1) (kx K) (kn K) < 0) = true
        exact decide_eq_true ((ord_klt h.2.1 hk3).2 (klt_trans h.1 ((ord_klt h.2.2 hk3).1 h2)))
      have hw := while_split hp
      have ha : (encR L).takeWhile (fun r : Row6 => decide (ordF r.1.1 r.1.2 (kx K) (kn K) < 0)) = encR (L.filter (fun r => klt r.1 K)) := by
        rw [hw.1]
        unfold encR
        rw [List.filter_map]
        congr 1
        refine List.filter_congr fun r hr => ?_
        simp only [Function.comp, rowR]
        cases hc : klt r.1 K with
        | true => exact decide_eq_true ((ord_klt (hf r hr) hk3).2 hc)
        | false => exact decide_eq_false fun e => by rw [(ord_klt (hf r hr) hk3).1 e] at hc; cases hc
      have hd : (encR L).drop (ahead6 (encR L) (kx K, kn K)) = encR (L.filter (fun r => klt K r.1)) := by
        unfold ahead6
        rw [hw.2]
        unfold encR
        rw [List.filter_map]
        congr 1
        refine List.filter_congr fun r hr => ?_
        simp only [Function.comp, rowR]
        cases hc : klt K r.1 with
        | true =>
          have : ¬ ordF (kx r.1) (kn r.1) (kx K) (kn K) < 0 := fun e => by
            rw [klt_asymm ((ord_klt (hf r hr) hk3).1 e)] at hc; cases hc
          simp [this]
        | false =>
          have hlt : klt r.1 K = true := by
            cases hc2 : klt r.1 K with
            | true => rfl
            | false => exact absurd (klt_total hc2 hc) (fun e => get_none.1 hg r.2 (by rw [← e]; exact hr))
          simp [(ord_klt (hf r hr) hk3).2 hlt]
      have ht : (encR L).take (ahead6 (encR L) (kx K, kn K)) = encR (L.filter (fun r => klt r.1 K)) := by
        rw [← ha]
        unfold ahead6
        exact (List.prefix_iff_eq_take.1 (List.takeWhile_prefix _)).symm
      rw [ht, hd]
      simp [encR, putL, rowR]
  · rw [if_neg hr, if_neg hr]
/-- The document's take. -/
theorem take_enc {L : List (Key × Int)} (hs : SRow L) (hf : ∀ r ∈ L, r.1.length ≤ 32) (x n : Int) (x0 : 0 ≤ x) (x1 : x < 4294967296) :
    takeF (encR L) (x, n) = if right x n then (encR (takeL L (bitsOf x n)), valO (getR L (bitsOf x n)), (getR L (bitsOf x n)).isSome, 0) else (encR L, 0, false, 2) := by
  unfold takeF
  by_cases hr : right x n
  · rw [if_pos hr, if_pos hr]
    have hk := kp_bitsOf x0 x1 hr
    generalize hK : bitsOf x n = K at *
    obtain ⟨rfl, rfl, hk3⟩ := hk
    cases hg : getR L K with
    | some u =>
      obtain ⟨A, B, rfl, hA, hB⟩ := srow_split hs ((get_some hs).1 hg)
      have hsp := spot_some hk3 hf rfl hA
      rw [hsp, encR_len, if_pos (by simp)]
      have e : encR (A ++ (K, u) :: B) = encR A ++ rowR (K, u) :: encR B := by simp [encR]
      have hl : (encR A).length = A.length := encR_len A
      rw [(parts_some hA hB 0).2, e]
      have e1 : (encR A ++ rowR (K, u) :: encR B)[A.length]? = some (rowR (K, u)) := by rw [← hl]; simp
      have e2 : (encR A ++ rowR (K, u) :: encR B).take A.length = encR A := by rw [← hl]; simp
      have e3 : (encR A ++ rowR (K, u) :: encR B).drop (A.length + 1) = encR B := by rw [← hl]; simp
      rw [e1, e2, e3]
      simp [encR, rowR, valO]
    | none =>
      have hsp := spot_none hk3 hf hg
      rw [hsp, encR_len, if_neg (by omega)]
      have : takeL L K = L := List.filter_eq_self.2 fun r hr => decide_eq_true fun e => get_none.1 hg r.2 (by rw [← e]; exact hr)
      rw [this]
      simp [valO]
  · rw [if_neg hr, if_neg hr]
end T6
end Go.Proofs.Ytghkacciihocdaa

namespace Go.Proofs.Ytghkacciihocdaa
open Go Go.RowKit Go.Shelf Go.Sort
attribute [local go_sem] Oper.semAt_some
namespace T6

/-- Rows and tells stay where they lie; and whatever is no node and no trie. -/
structure Keep6 (W W' : World) : Prop where
  rows : ∀ A (l : List Row6), LiesS W A (rowCs l) → LiesS W' A (rowCs l)
  tells : ∀ A (l : List Snap), LiesS W A (tells l) → LiesS W' A (T6.tells l)
  only : TreeOnly W W'
theorem Keep6.below {W W' : World} (h : Below W.heap.size W W') : Keep6 W W' := ⟨fun _ _ hl => hl.below h, fun _ _ hl => hl.below h, .below h⟩
theorem Keep6.trans {A B C : World} (h : Keep6 A B) (k : Keep6 B C) : Keep6 A C := ⟨fun a l hl => k.rows a l (h.rows a l hl), fun a l hl => k.tells a l (h.tells a l hl), h.only.trans k.only⟩
theorem lies_cells {W : World} : ∀ {t : Tr}, Lies W t → ∀ b ∈ t.blks, ∃ k h v l r, W.heap[b]? = some (.cells (cellsN k h v l r) 81)
  | .nil, _, b, hb => by simp [Tr.blks] at hb
  | .node c k h v l r, ⟨h1, h2, h3⟩, b, hb => by
    simp only [Tr.blks, List.mem_cons, List.mem_append] at hb
    rcases hb with rfl | hb | hb
    · exact ⟨k, h, v, l, r, h1⟩
    · exact lies_cells h2 b hb
    · exact lies_cells h3 b hb
/-- A trie's blocks hold no row of the document's: there a bool follows two numbers. -/
theorem rows_apart {W : World} {g : Nat} {t : Tr} (hT : Trie W g t) {b o : Nat} {x v : Int} (h0 : W.cell? ⟨b, o, none⟩ = some (.int .u32 x)) (h2 : W.cell? ⟨b, o + 2, none⟩ = some (.int .i64 v)) : b ∉ g :: t.blks := fun hm => by
  rcases List.mem_cons.1 hm with rfl | hm
  · rw [hT.own.cell] at h0
    match o, h0 with
    | 0, h => simp at h
    | 1, h => simp at h
    | 2, h => simp at h
    | o + 3, h => simp at h
  · obtain ⟨k, hh, u, l, r, hb⟩ := lies_cells hT.lies b hm
    have hB : Blk W b 81 (cellsN k hh u l r) := hb
    rw [hB.cell] at h0 h2
    match o, h0, h2 with
    | 0, _, h => simp [cellsN] at h
    | 1, h, _ => simp [cellsN] at h
    | 2, h, _ => simp [cellsN] at h
    | 3, h, _ => simp [cellsN] at h
    | 4, h, _ => simp [cellsN] at h
    | 5, h, _ => simp [cellsN] at h
    | o + 6, h, _ => simp [cellsN] at h
theorem tells_apart {W : World} {g : Nat} {t : Tr} (hT : Trie W g t) {b o : Nat} {f : Fn} {c d : Array Value} (h0 : W.cell? ⟨b, o, none⟩ = some (.func f c d)) : b ∉ g :: t.blks := fun hm => by
  rcases List.mem_cons.1 hm with rfl | hm
  · rw [hT.own.cell] at h0
    match o, h0 with
    | 0, h => simp at h
    | 1, h => simp at h
    | 2, h => simp at h
    | o + 3, h => simp at h
  · obtain ⟨k, hh, u, l, r, hb⟩ := lies_cells hT.lies b hm
    have hB : Blk W b 81 (cellsN k hh u l r) := hb
    rw [hB.cell] at h0
    match o, h0 with
    | 0, h => simp [cellsN] at h
    | 1, h => simp [cellsN] at h
    | 2, h => simp [cellsN] at h
    | 3, h => simp [cellsN] at h
    | 4, h => simp [cellsN] at h
    | 5, h => simp [cellsN] at h
    | o + 6, h => simp [cellsN] at h
theorem LiesS.same {W W' : World} {A : Option Addr} {xs : List Value} (h : LiesS W A xs) (hs : ∀ b o, A = some ⟨b, o, none⟩ → 0 < xs.length → W'.heap[b]? = W.heap[b]?) (hz : W.heap.size ≤ W'.heap.size) : LiesS W' A xs := fun hn => by
  obtain ⟨b, o, e, hlt, hc⟩ := h hn
  exact ⟨b, o, e, by omega, fun j hj => by rw [World.cell?_of_block (hs b o e hn)]; exact hc j hj⟩
theorem Turned.keep {W W' : World} {g : Nat} {t : Tr} {L : List (Key × Int)} (hT : Trie W g t) (h : Turned W g t L W') : Keep6 W W' := by
  have hO := h.only hT
  obtain ⟨t', _, _, _, b4⟩ := h
  have hsame : ∀ b, b < W.heap.size → b ∉ g :: t.blks → W'.heap[b]? = W.heap[b]? := fun b hl hb => by
    rw [Array.getElem?_eq_getElem hl]
    exact b4.same b _ (Array.getElem?_eq_getElem hl) hb (.inl hl)
  refine ⟨fun A l hl => LiesS.same hl (fun b o e hn => ?_) b4.size, fun A l hl => LiesS.same hl (fun b o e hn => ?_) b4.size, hO⟩
  · subst e
    have hl0 : 0 < l.length := by
      cases l with
      | nil => simp [rowCs] at hn
      | cons a l => simp
    obtain ⟨b', o', e, hlt, c0, c1, c2⟩ := lies_row hl 0 hl0
    cases e
    exact hsame b hlt (rows_apart hT (x := (l[0]'hl0).1.1) (by simpa using c0) (by simpa using c2))
  · subst e
    obtain ⟨b', o', e, hlt, hc⟩ := hl hn
    cases e
    have c0 := hc 0 hn
    have e0 : (T6.tells l)[0]'hn = tellV (l[0]'(by simpa [T6.tells] using hn)) := by simp [T6.tells]
    rw [e0] at c0
    exact hsame b hlt (tells_apart hT (by simpa [tellV] using c0))
/-- Put of any prefix answers as the document's does. -/
theorem putS_any (x n v : Int) (x0 : 0 ≤ x) (x1 : x < 4294967296) (w : World) (g : Nat) (L : List (Key × Int)) (hcap : L.length ≤ 512) (W : World) (h : OwnT w g L W) :
    Calls Try.prog 19 #[.pointer (some ⟨g, 0, none⟩), pfx x n, .int .i64 v] W fun e w' =>
      e = .returned (.tuple #[.int .i64 (putF (encR L) (x, n) v).2.1, .bool (putF (encR L) (x, n) v).2.2.1, .int .i64 (putF (encR L) (x, n) v).2.2.2]) ∧
      ∃ L', OwnT w g L' w' ∧ (putF (encR L) (x, n) v).1 = encR L' ∧ L'.length ≤ 512 ∧ Keep6 W w' := by
  have hs := h.srow
  have hf := h.fit
  rw [put_enc hs hf x n x0 x1 v]
  by_cases hr : right x n
  · have hk := kp_bitsOf x0 x1 hr
    rw [if_pos hr]
    obtain ⟨t, a1, rfl, a3, a4⟩ := h
    by_cases hg : (getR t.rows (bitsOf x n)).isSome = true
    · have := put6_any t (bitsOf x n) hk.2.2 v W g a1 hcap (.inl hg)
      rw [hk.1, hk.2.1] at this
      rw [if_pos hg]
      refine this.mono fun _ _ ⟨he, hT⟩ => ⟨by rw [he, hg], _, OwnT.turned a3 a4 hT, rfl, ?_, hT.keep a1⟩
      rw [put_len hs, if_pos hg]
      exact hcap
    · rw [if_neg hg]
      have hg2 : getR t.rows (bitsOf x n) = none := by simpa using hg
      by_cases hfull : 512 ≤ t.rows.length
      · have := putFull_any t (bitsOf x n) hk.2.2 v W g a1 (by omega) hg2
        rw [hk.1, hk.2.1] at this
        rw [if_pos hfull]
        exact this.mono fun _ _ ⟨he, hb⟩ => ⟨he, _, OwnT.below ⟨t, a1, rfl, a3, a4⟩ hb, rfl, hcap, .below hb⟩
      · have := put6_any t (bitsOf x n) hk.2.2 v W g a1 hcap (.inr (by omega))
        rw [hk.1, hk.2.1] at this
        rw [if_neg hfull]
        refine this.mono fun _ _ ⟨he, hT⟩ => ⟨by rw [he, hg2]; rfl, _, OwnT.turned a3 a4 hT, rfl, ?_, hT.keep a1⟩
        rw [put_len hs, if_neg hg]
        omega
  · rw [if_neg hr]
    exact (putNo_any _ x n x0 x1 v W (h.noWay hr)).mono fun _ _ ⟨he, hb⟩ => ⟨he, _, h.below hb, rfl, hcap, .below hb⟩
/-- Take of any prefix answers as the document's does. -/
theorem takeS_any (x n : Int) (x0 : 0 ≤ x) (x1 : x < 4294967296) (w : World) (g : Nat) (L : List (Key × Int)) (hcap : L.length ≤ 512) (W : World) (h : OwnT w g L W) :
    Calls Try.prog 25 #[.pointer (some ⟨g, 0, none⟩), pfx x n] W fun e w' =>
      e = .returned (.tuple #[.int .i64 (takeF (encR L) (x, n)).2.1, .bool (takeF (encR L) (x, n)).2.2.1, .int .i64 (takeF (encR L) (x, n)).2.2.2]) ∧
      ∃ L', OwnT w g L' w' ∧ (takeF (encR L) (x, n)).1 = encR L' ∧ L'.length ≤ 512 ∧ Keep6 W w' := by
  rw [take_enc h.srow h.fit x n x0 x1]
  by_cases hr : right x n
  · have hk := kp_bitsOf x0 x1 hr
    rw [if_pos hr]
    obtain ⟨t, a1, rfl, a3, a4⟩ := h
    have := take6_any t (bitsOf x n) hk.2.2 W g a1 hcap
    rw [hk.1, hk.2.1] at this
    exact this.mono fun _ _ ⟨he, hT⟩ => ⟨he, _, OwnT.turned a3 a4 hT, rfl, Nat.le_trans (List.length_filter_le _ _) hcap, hT.keep a1⟩
  · rw [if_neg hr]
    exact (takeNo_any _ x n x0 x1 W (h.noWay hr)).mono fun _ _ ⟨he, hb⟩ => ⟨he, _, h.below hb, rfl, hcap, .below hb⟩
end T6
end Go.Proofs.Ytghkacciihocdaa

namespace Go.Proofs.Ytghkacciihocdaa
open Go Go.RowKit Go.Shelf Go.Sort
attribute [local go_sem] Oper.semAt_some
attribute [local irreducible] wpQuiet
namespace T6

theorem OwnT.low {w w0 W : World} {g : Nat} {L : List (Key × Int)} (h : OwnT w0 g L W) (hb : Below w.heap.size w w0) : OwnT w g L W := by
  obtain ⟨t, a1, a2, a3, a4⟩ := h
  exact ⟨t, a1, a2, fun b hm => Nat.le_trans hb.size (a3 b hm), hb.trans (a4.mono hb.size)⟩
/-- The law's boxes: the list, the call, the list that is to be told. -/
structure AcC (W0 : World) (v : Value) (c x n u : Int) (z : Value) (W : World) : Prop where
  b4 : Blk W W0.heap.size 28 #[v]
  b5 : Blk W (W0.heap.size + 1) 36 #[.int .i64 c, .int .u32 x, .int .i64 n, .int .i64 u]
  b7 : Blk W (W0.heap.size + 2) 28 #[z]
  keep : Keep6 W0 W
theorem AcC.next {W0 : World} {v : Value} {c x n u : Int} {z : Value} {W W' : World} (h : AcC W0 v c x n u z W) (k : Keep6 W W') : AcC W0 v c x n u z W' :=
  ⟨k.only.blk h.b4 (by decide) (by decide), k.only.blk h.b5 (by decide) (by decide), k.only.blk h.b7 (by decide) (by decide), h.keep.trans k⟩
theorem TrieV.keep6 {W W' : World} {v : Value} {l : List Row6} (h : TrieV W v l) (k : Keep6 W W') : TrieV W' v l := by
  obtain ⟨A, c, h1, h2, h3⟩ := h
  exact ⟨A, c, h1, h2, k.rows A l h3⟩
theorem OwnT.set {w W : World} {g B : Nat} {L : List (Key × Int)} {T : TypeId} {cs : Array Value} (H : OwnT w g L W) (hb : Blk W B T cs) (h1 : T ≠ 73) (h2 : T ≠ 81) (hB : w.heap.size ≤ B) (o : Nat) (v : Value) : OwnT w g L (W.setCell ⟨B, o, none⟩ v) := by
  obtain ⟨t, a1, a3, a6, a8⟩ := H
  refine ⟨t, a1.keep fun b ob e1 e2 => ?_, a3, a6, a8.setCell (by simpa using hB) _⟩
  rw [setCell_other]
  · exact e1
  · intro e
    subst e
    unfold Blk at hb
    rw [hb] at e1
    cases e1
    simp [treeO, h1, h2] at e2
theorem rows_set {V : World} {B : Nat} {T : TypeId} {A : Option Addr} {l : List Row6} {a : Option Addr} {m k : Nat} (h : LiesS V A (rowCs l)) (hb : Blk V B T #[.slice a m k]) (u : Value) : LiesS (V.setCell ⟨B, 0, none⟩ u) A (rowCs l) :=
  LiesS.same h (fun b o e hn => setCell_other (fun e2 => by
    subst e
    simp only at e2
    subst e2
    have hl0 : 0 < l.length := by
      cases l with
      | nil => simp [rowCs] at hn
      | cons a l => simp
    obtain ⟨b', o', e, hlt, c0, c1, c2⟩ := lies_row h 0 hl0
    cases e
    rw [hb.cell] at c0
    match o, c0 with
    | 0, h => simp at h
    | o + 1, h => simp at h)) (by simp)
theorem tells_set {V : World} {B : Nat} {T : TypeId} {A : Option Addr} {l : List Snap} {a : Option Addr} {m k : Nat} (h : LiesS V A (tells l)) (hb : Blk V B T #[.slice a m k]) (u : Value) : LiesS (V.setCell ⟨B, 0, none⟩ u) A (tells l) :=
  LiesS.same h (fun b o e hn => setCell_other (fun e2 => by
    subst e
    simp only at e2
    subst e2
    obtain ⟨b', o', e, hlt, hc⟩ := h hn
    cases e
    have c0 := hc 0 hn
    have e0 : (tells l)[0]'hn = tellV (l[0]'(by simpa [tells] using hn)) := by simp [tells]
    rw [e0, hb.cell] at c0
    match o, c0 with
    | 0, h => simp [tellV] at h
    | o + 1, h => simp at h)) (by simp)
theorem Keep6.set {W V : World} {B : Nat} {T : TypeId} {a : Option Addr} {m k : Nat} (h : Keep6 W V) (hb : Blk V B T #[.slice a m k]) (hB : W.heap.size ≤ B) (u : Value) : Keep6 W (V.setCell ⟨B, 0, none⟩ u) :=
  ⟨fun A l hl => rows_set (h.rows A l hl) hb u, fun A l hl => tells_set (h.tells A l hl) hb u, ⟨by simpa using h.only.size, ((Below.refl 0 V).setCell (p := ⟨B, 0, none⟩) (Nat.zero_le _) u).os.trans h.only.os, ((Below.refl 0 V).setCell (p := ⟨B, 0, none⟩) (Nat.zero_le _) u).tape.trans h.only.tape, ((Below.refl 0 V).setCell (p := ⟨B, 0, none⟩) (Nat.zero_le _) u).output.trans h.only.output, fun j o ho ht => by
    rw [setCell_other]
    · exact h.only.same j o ho ht
    · have := (Array.getElem?_eq_some_iff.1 ho).1
      intro e
      simp only at e
      omega⟩⟩
def S8 (w W : World) (g : Nat) (L' : List (Key × Int)) (A1 : Option Addr) (k1 B : Nat) (v : Value) (c x n u : Int) (V : World) : Prop :=
  (∃ a m k, AcC W v c x n u (.slice a m k) V) ∧ Blk V B 28 #[.slice A1 (encR L').length k1] ∧ OwnT w g L' V ∧ LiesS V A1 (rowCs (encR L'))
theorem S8.box {w W : World} {g : Nat} {L' : List (Key × Int)} {A1 : Option Addr} {k1 B : Nat} {v : Value} {c x n u : Int} {V : World} (h : S8 w W g L' A1 k1 B v c x n u V) : V.cell? ⟨B, 0, none⟩ = some (.slice A1 (encR L').length k1) := h.2.1.cell 0
theorem S8.below {w W : World} {g : Nat} {L' : List (Key × Int)} {A1 : Option Addr} {k1 B : Nat} {v : Value} {c x n u : Int} {V V' : World} (h : S8 w W g L' A1 k1 B v c x n u V) (hb : Below V.heap.size V V') : S8 w W g L' A1 k1 B v c x n u V' := by
  obtain ⟨⟨a, m, k, h1⟩, h2, h3, h4⟩ := h
  exact ⟨⟨a, m, k, h1.next (Keep6.below hb)⟩, h2.below hb h2.lt, h3.below hb, h4.below hb⟩
/-- The list is told. -/
theorem S8.told {w W : World} {g : Nat} {L' : List (Key × Int)} {A1 : Option Addr} {k1 B : Nat} {v : Value} {c x n u : Int} {V : World} (h : S8 w W g L' A1 k1 B v c x n u V) (hw : w.heap.size ≤ W.heap.size) (hB : W.heap.size + 3 ≤ B) :
    S8 w W g L' A1 k1 B v c x n u (V.setCell ⟨W.heap.size + 1 + 1, 0, none⟩ (.slice A1 (encR L').length k1)) ∧ (V.setCell ⟨W.heap.size + 1 + 1, 0, none⟩ (.slice A1 (encR L').length k1)).cell? ⟨W.heap.size + 1 + 1, 0, none⟩ = some (.slice A1 (encR L').length k1) := by
  obtain ⟨⟨a, m, k, h1⟩, h2, h3, h4⟩ := h
  have h7 := h1.b7.set_ 0 (.slice A1 (encR L').length k1)
  refine ⟨⟨⟨A1, (encR L').length, k1, ⟨h1.b4.far (by simp; omega) _, h1.b5.far (by simp) _, by simpa using h7, h1.keep.set h1.b7 (by omega) _⟩⟩, h2.far (by simp; omega) _, h3.set h1.b7 (by decide) (by decide) (by omega) 0 _, rows_set h4 h1.b7 _⟩, ?_⟩
  have := h7.cell 0
  simpa using this
theorem S8.can {w W : World} {g : Nat} {L' : List (Key × Int)} {A1 : Option Addr} {k1 B : Nat} {v : Value} {c x n u : Int} {V : World} (h : S8 w W g L' A1 k1 B v c x n u V) : (∃ z, V.cell? ⟨W.heap.size + 1 + 1, 0, none⟩ = some z) ∧ V.frozen? ⟨W.heap.size + 1 + 1, 0, none⟩ = false := by
  obtain ⟨⟨a, m, k, h1⟩, _⟩ := h
  exact ⟨⟨_, h1.b7.cell 0⟩, h1.b7.frozen 0⟩
def S9 (W : World) (A : Option Addr) (m k : Nat) (c x n u : Int) (w : World) (g : Nat) (L : List (Key × Int)) (V : World) : Prop :=
  (∃ a m' k', AcC W (.slice A m k) c x n u (.slice a m' k') V) ∧ OwnT w g L V ∧ LiesS V A (rowCs (encR L))
theorem S9.box {W : World} {A : Option Addr} {m k : Nat} {c x n u : Int} {w : World} {g : Nat} {L : List (Key × Int)} {V : World} (h : S9 W A m k c x n u w g L V) : V.cell? ⟨W.heap.size, 0, none⟩ = some (.slice A m k) := by
  obtain ⟨⟨a, m', k', h1⟩, _⟩ := h
  exact h1.b4.cell 0
theorem S9.below {W : World} {A : Option Addr} {m k : Nat} {c x n u : Int} {w : World} {g : Nat} {L : List (Key × Int)} {V V' : World} (h : S9 W A m k c x n u w g L V) (hb : Below V.heap.size V V') : S9 W A m k c x n u w g L V' := by
  obtain ⟨⟨a, m', k', h1⟩, h2, h3⟩ := h
  exact ⟨⟨a, m', k', h1.next (Keep6.below hb)⟩, h2.below hb, h3.below hb⟩
theorem S9.can {W : World} {A : Option Addr} {m k : Nat} {c x n u : Int} {w : World} {g : Nat} {L : List (Key × Int)} {V : World} (h : S9 W A m k c x n u w g L V) : (∃ z, V.cell? ⟨W.heap.size + 1 + 1, 0, none⟩ = some z) ∧ V.frozen? ⟨W.heap.size + 1 + 1, 0, none⟩ = false := by
  obtain ⟨⟨a, m', k', h1⟩, _⟩ := h
  exact ⟨⟨_, h1.b7.cell 0⟩, h1.b7.frozen 0⟩
theorem S9.told {W : World} {A : Option Addr} {m k : Nat} {c x n u : Int} {w : World} {g : Nat} {L : List (Key × Int)} {V : World} (h : S9 W A m k c x n u w g L V) (hw : w.heap.size ≤ W.heap.size) :
    S9 W A m k c x n u w g L (V.setCell ⟨W.heap.size + 1 + 1, 0, none⟩ (.slice A m k)) ∧ (V.setCell ⟨W.heap.size + 1 + 1, 0, none⟩ (.slice A m k)).cell? ⟨W.heap.size + 1 + 1, 0, none⟩ = some (.slice A m k) ∧
      ∀ g' L', OwnT w g' L' V → OwnT w g' L' (V.setCell ⟨W.heap.size + 1 + 1, 0, none⟩ (.slice A m k)) := by
  obtain ⟨⟨a, m', k', h1⟩, h2, h3⟩ := h
  have h7 := h1.b7.set_ 0 (.slice A m k)
  refine ⟨⟨⟨A, m, k, ⟨h1.b4.far (by simp; omega) _, h1.b5.far (by simp) _, by simpa using h7, h1.keep.set h1.b7 (by omega) _⟩⟩, h2.set h1.b7 (by decide) (by decide) (by omega) 0 _, rows_set h3 h1.b7 _⟩, ?_, fun g' L' h0 => h0.set h1.b7 (by decide) (by decide) (by omega) 0 _⟩
  have := h7.cell 0
  simpa using this
set_option maxRecDepth 100000 in
set_option maxHeartbeats 6400000 in
theorem act_any (c x n u : Int) (x0 : 0 ≤ x) (x1 : x < 4294967296) (w : World) (g : Nat) (L : List (Key × Int)) (hcap : L.length ≤ 512) (W : World) (h : OwnT w g L W) (A : Option Addr) (k : Nat) (hk : (encR L).length ≤ k) (hA : LiesS W A (rowCs (encR L))) :
    Calls Try.prog 11 #[.pointer (some ⟨g, 0, none⟩), .agg #[.slice A (encR L).length k], .agg #[.int .i64 c, .int .u32 x, .int .i64 n, .int .i64 u]] W fun e w' =>
      ∃ g' v' L', e = .returned (.tuple #[.pointer (some ⟨g', 0, none⟩), v', .bool true]) ∧ OwnT w g' L' w' ∧ TrieV w' v' (encR L') ∧ L'.length ≤ 512 ∧ Keep6 W w' := by
  have hle : (encR L).length ≤ 1000 := by rw [encR_len]; omega
  have HX : Hid (AcC W (.slice A (encR L).length k) c x n u (.slice none 0 0) (((W.alloc (.cells #[.slice A (encR L).length k] 28)).alloc (.cells #[.int .i64 c, .int .u32 x, .int .i64 n, .int .i64 u] 36)).alloc (.cells #[.slice none 0 0] 28))) := Lib.hid (by
    refine ⟨((Blk.new W _ _).alloc _).alloc _, ?_, ?_, Keep6.below ((two_below W _ _).alloc (by simp; omega) _)⟩
    · have := (Blk.new (W.alloc (.cells #[.slice A (encR L).length k] 28)) 36 #[.int .i64 c, .int .u32 x, .int .i64 n, .int .i64 u]).alloc (.cells #[.slice none 0 0] 28)
      simpa using this
    · have := Blk.new ((W.alloc (.cells #[.slice A (encR L).length k] 28)).alloc (.cells #[.int .i64 c, .int .u32 x, .int .i64 n, .int .i64 u] 36)) 28 #[.slice none 0 0]
      simpa using this)
  have hbw : Below W.heap.size W (((W.alloc (.cells #[.slice A (encR L).length k] 28)).alloc (.cells #[.int .i64 c, .int .u32 x, .int .i64 n, .int .i64 u] 36)).alloc (.cells #[.slice none 0 0] 28)) := (two_below W _ _).alloc (by simp; omega) _
  have HT := Lib.hid (h.below hbw)
  have HV := Lib.hid (hA.below hbw)
  have HW := Lib.hid h.bel
  clear hbw h hA
  go_enter Try.func11, Try.ntmps11
  go_wp2_with fail
  all_goals generalize (((W.alloc (.cells #[.slice A (encR L).length k] 28)).alloc (.cells #[.int .i64 c, .int .u32 x, .int .i64 n, .int .i64 u] 36)).alloc (.cells #[.slice none 0 0] 28)) = W3 at *
  · refine (refPut6_all A k (encR L) x n u x0 x1 hle hk _ HV.out).mono ?_
    rintro e w1 ⟨⟨v1, rfl, hv1⟩, hb1⟩
    have HX1 := Lib.hid (HX.out.next (Keep6.below hb1))
    have HT1 := Lib.hid (HT.out.below hb1)
    clear hb1 HX HT HV
    obtain ⟨A1, k1, rfl, hk1, hl1⟩ := hv1
    have hb2 := box_below w1 (.cells #[.slice A1 (putF (encR L) (x, n) u).1.length k1] 28)
    have HL2 := Lib.hid (hl1.below hb2)
    have HX2 := Lib.hid (HX1.out.next (Keep6.below hb2))
    have HT2 := Lib.hid (HT1.out.below hb2)
    have hB := Blk.new w1 28 #[.slice A1 (putF (encR L) (x, n) u).1.length k1]
    have hBg : W.heap.size + 3 ≤ w1.heap.size := by have := HX1.out.b7.lt; omega
    have HB2 := Lib.hid hB
    have HP := Lib.hid (fun V hV => putS_any x n u x0 x1 w g L hcap V hV)
    have HK1 := Lib.hid hk1
    clear hb2 hl1 HX1 HT1 hB hk1
    obtain ⟨q, hq⟩ : ∃ q, putF (encR L) (x, n) u = q := ⟨_, rfl⟩
    rw [hq] at HP HL2 HB2 HK1 HX2 HT2 ⊢
    obtain ⟨ql, q1, q2, q3⟩ := q
    dsimp only at HP HL2 HB2 HK1 HX2 HT2 ⊢
    clear hq
    have m1 := HX2.out.b5.cell 1
    have m2 := HX2.out.b5.cell 2
    have m3 := HX2.out.b5.cell 3
    simp only [List.getElem?_toArray, List.getElem?_cons_zero, List.getElem?_cons_succ] at m1 m2 m3
    go_wp2_with fail
    refine (HP.out _ HT2.out).mono ?_
    rintro e w3 ⟨rfl, L', hT3, hE, hl3, hk3⟩
    subst hE
    have HS3 : Hid (S8 w W g L' A1 k1 w1.heap.size (.slice A (encR L).length k) c x n u w3) := Lib.hid (And.intro ⟨_, _, _, HX2.out.next hk3⟩ (And.intro (hk3.only.blk HB2.out (by decide) (by decide)) (And.intro hT3 (hk3.rows _ _ HL2.out))))
    have HL3 := Lib.hid hl3
    clear hT3 hl3 hk3 HX2 HB2 HL2 HT2 HP m1 m2 m3
    go_wp2_with fail
    have hs0 : S8 w W g L' A1 k1 w1.heap.size (.slice A (encR L).length k) c x n u w3.drew := HS3.out.below (below_drew w3)
    clear HS3
    refine wp_region_noPanic ?_
    refine wp_region_held_drew (S := S8 w W g L' A1 k1 w1.heap.size (.slice A (encR L).length k) c x n u) (by kernel_rfl) hs0 ?_
    intro _
    generalize w3.drew = w4 at *
    refine wpAnyH_take (i := 0) (v := ?v5q0) (by rw [List.getElem?_toArray]; exact rfl) (by kernel_rfl) (by kernel_rfl) (by kernel_rfl) (fun _ _ _ h => h) (Or.inl ⟨by rfl, ?hy5q0⟩) (by assumption) ?rest5q0
    case hy5q0 => intro w hSw; (try dsimp only at hSw); have k9 := hSw.box; go_simp; (try with_reducible rfl)
    try simp only [Act.put, List.setIfInBounds_toArray, List.set_cons_zero, List.set_cons_succ]
    refine wpAnyH_take (i := 1) (v := ?v6q0) (by rw [List.getElem?_toArray]; exact rfl) (by kernel_rfl) (by kernel_rfl) (by kernel_rfl) (fun _ _ _ h => h) (Or.inl ⟨by rfl, ?hy6q0⟩) (by assumption) ?rest6q0
    case hy6q0 => intro w hSw; (try dsimp only at hSw); have k9 := hSw.box; go_simp; (try with_reducible rfl)
    try simp only [Act.put, List.setIfInBounds_toArray, List.set_cons_zero, List.set_cons_succ]
    refine wpAnyH_take (i := 2) (v := ?v7q0) (by rw [List.getElem?_toArray]; exact rfl) (by kernel_rfl) (by kernel_rfl) (by kernel_rfl) (fun _ _ _ h => h) (Or.inl ⟨by rfl, ?hy7q0⟩) (by assumption) ?rest7q0
    case hy7q0 => intro w hSw; (try dsimp only at hSw); have k9 := hSw.box; go_simp; (try with_reducible rfl)
    try simp only [Act.put, List.setIfInBounds_toArray, List.set_cons_zero, List.set_cons_succ]
    refine wpAnyH_take (i := 3) (v := ?v8q0) (by rw [List.getElem?_toArray]; exact rfl) (by kernel_rfl) (by kernel_rfl) (by kernel_rfl) (fun _ _ _ h => h) (Or.inl ⟨by rfl, ?hy8q0⟩) (by assumption) ?rest8q0
    case hy8q0 => intro w hSw; (try dsimp only at hSw); have k9 := hSw.box; go_simp; (try with_reducible rfl)
    try simp only [Act.put, List.setIfInBounds_toArray, List.set_cons_zero, List.set_cons_succ]
    refine wpAnyH_take (i := 4) (v := ?v9q0) (by rw [List.getElem?_toArray]; exact rfl) (by kernel_rfl) (by kernel_rfl) (by kernel_rfl) (fun _ _ _ h => h) (Or.inl ⟨by rfl, ?hy9q0⟩) (by assumption) ?rest9q0
    case hy9q0 => intro w hSw; (try dsimp only at hSw); have k9 := hSw.box; go_simp; (try with_reducible rfl)
    try simp only [Act.put, List.setIfInBounds_toArray, List.set_cons_zero, List.set_cons_succ]
    refine wpAnyH_take (i := 5) (v := ?v10q0) (by rw [List.getElem?_toArray]; exact rfl) (by kernel_rfl) (by kernel_rfl) (by kernel_rfl) (fun _ _ _ h => h) (Or.inl ⟨by rfl, ?hy10q0⟩) (by assumption) ?rest10q0
    case hy10q0 => intro w hSw; (try dsimp only at hSw); have k9 := hSw.box; go_simp; (try with_reducible rfl)
    try simp only [Act.put, List.setIfInBounds_toArray, List.set_cons_zero, List.set_cons_succ]
    refine wpAnyH_take (i := 6) (v := ?v11q0) (by rw [List.getElem?_toArray]; exact rfl) (by kernel_rfl) (by kernel_rfl) (by kernel_rfl) (fun _ _ _ h => h) (Or.inl ⟨by rfl, ?hy11q0⟩) (by assumption) ?rest11q0
    case hy11q0 => intro w hSw; (try dsimp only at hSw); have k9 := hSw.box; go_simp; (try with_reducible rfl)
    try simp only [Act.put, List.setIfInBounds_toArray, List.set_cons_zero, List.set_cons_succ]
    refine wpAnyH_take (i := 7) (v := ?v12q0) (by rw [List.getElem?_toArray]; exact rfl) (by kernel_rfl) (by kernel_rfl) (by kernel_rfl) (fun _ _ _ h => h) (Or.inl ⟨by rfl, ?hy12q0⟩) (by assumption) ?rest12q0
    case hy12q0 => intro w hSw; (try dsimp only at hSw); have k9 := hSw.box; go_simp; (try with_reducible rfl)
    try simp only [Act.put, List.setIfInBounds_toArray, List.set_cons_zero, List.set_cons_succ]
    refine wpAnyH_take (i := 8) (v := ?v13q0) (by rw [List.getElem?_toArray]; exact rfl) (by kernel_rfl) (by kernel_rfl) (by kernel_rfl) (fun _ _ _ h => h) (Or.inl ⟨by rfl, ?hy13q0⟩) (by assumption) ?rest13q0
    case hy13q0 => intro w hSw; (try dsimp only at hSw); have k9 := hSw.box; go_simp; (try with_reducible rfl)
    try simp only [Act.put, List.setIfInBounds_toArray, List.set_cons_zero, List.set_cons_succ]
    refine wpAnyH_take (i := 9) (v := ?v14q0) (by rw [List.getElem?_toArray]; exact rfl) (by kernel_rfl) (by kernel_rfl) (by kernel_rfl) (fun _ _ _ h => h) (Or.inl ⟨by rfl, ?hy14q0⟩) (by assumption) ?rest14q0
    case hy14q0 => intro w hSw; (try dsimp only at hSw); have k9 := hSw.box; go_simp; (try with_reducible rfl)
    try simp only [Act.put, List.setIfInBounds_toArray, List.set_cons_zero, List.set_cons_succ]
    refine wpAnyH_take (i := 10) (v := ?v15q0) (by rw [List.getElem?_toArray]; exact rfl) (by kernel_rfl) (by kernel_rfl) (by kernel_rfl) (fun _ _ _ h => h) (Or.inl ⟨by rfl, ?hy15q0⟩) (by assumption) ?rest15q0
    case hy15q0 => intro w hSw; (try dsimp only at hSw); have k9 := hSw.box; go_simp; (try with_reducible rfl)
    try simp only [Act.put, List.setIfInBounds_toArray, List.set_cons_zero, List.set_cons_succ]
    refine wpAnyH_take (i := 11) (v := ?v16q0) (by rw [List.getElem?_toArray]; exact rfl) (by kernel_rfl) (by kernel_rfl) (by kernel_rfl) (fun _ _ _ h => h) (Or.inl ⟨by rfl, ?hy16q0⟩) (by assumption) ?rest16q0
    case hy16q0 => intro w hSw; (try dsimp only at hSw); have k9 := hSw.box; go_simp; (try with_reducible rfl)
    try simp only [Act.put, List.setIfInBounds_toArray, List.set_cons_zero, List.set_cons_succ]
    refine wpAnyH_take (i := 13) (v := ?v17q0) (by rw [List.getElem?_toArray]; exact rfl) (by kernel_rfl) (by kernel_rfl) (by kernel_rfl) (fun _ _ _ h => h) (Or.inl ⟨by rfl, ?hy17q0⟩) (by assumption) ?rest17q0
    case hy17q0 => intro w hSw; (try dsimp only at hSw); have k9 := hSw.box; go_simp; (try with_reducible rfl)
    try simp only [Act.put, List.setIfInBounds_toArray, List.set_cons_zero, List.set_cons_succ]
    refine ready_call (i := 12) (by kernel_rfl) (by rw [List.getElem?_toArray]; exact rfl) (by kernel_rfl) (fun K1 hK1 => ?_)
    go_simp
    refine (num6_any q3 _).mono ?_
    rintro e wx ⟨rfl, rfl⟩
    go_simp
    refine hK1.out _ _ hs0 (fun _ => ?_)
    clear hK1 K1
    try simp only [Act.put, List.setIfInBounds_toArray, List.set_cons_zero, List.set_cons_succ]
    refine wpAnyH_take (i := 14) (v := ?v2q0) (by rw [List.getElem?_toArray]; exact rfl) (by kernel_rfl) (by kernel_rfl) (by kernel_rfl) (fun _ _ _ h => h) (Or.inl ⟨by rfl, ?hy2q0⟩) (by assumption) ?rest2q0
    case hy2q0 => intro w hSw; (try dsimp only at hSw); have k9 := hSw.box; go_simp; (try with_reducible rfl)
    try simp only [Act.put, List.setIfInBounds_toArray, List.set_cons_zero, List.set_cons_succ]
    refine wpAnyH_take (i := 15) (v := ?v3q0) (by rw [List.getElem?_toArray]; exact rfl) (by kernel_rfl) (by kernel_rfl) (by kernel_rfl) (fun _ _ _ h => h) (Or.inl ⟨by rfl, ?hy3q0⟩) (by assumption) ?rest3q0
    case hy3q0 => intro w hSw; (try dsimp only at hSw); have k9 := hSw.box; go_simp; (try with_reducible rfl)
    try simp only [Act.put, List.setIfInBounds_toArray, List.set_cons_zero, List.set_cons_succ]
    refine wpAnyH_take (i := 16) (v := ?v4q0) (by rw [List.getElem?_toArray]; exact rfl) (by kernel_rfl) (by kernel_rfl) (by kernel_rfl) (fun _ _ _ h => h) (Or.inl ⟨by rfl, ?hy4q0⟩) (by assumption) ?rest4q0
    case hy4q0 => intro w hSw; (try dsimp only at hSw); have k9 := hSw.box; go_simp; (try with_reducible rfl)
    try simp only [Act.put, List.setIfInBounds_toArray, List.set_cons_zero, List.set_cons_succ]
    refine ready_call (i := 17) (by kernel_rfl) (by rw [List.getElem?_toArray]; exact rfl) (by kernel_rfl) (fun K1 hK1 => ?_)
    obtain ⟨⟨z7, c7⟩, f7⟩ := hs0.can
    have HN := Lib.hid (hs0.told HW.out.size hBg)
    go_simp
    refine hK1.out _ _ HN.out.1 (fun _ => ?_)
    clear hK1 K1 c7 f7
    try simp only [Act.put, List.setIfInBounds_toArray, List.set_cons_zero, List.set_cons_succ]
    generalize (w4.setCell ⟨W.heap.size + 1 + 1, 0, none⟩ (.slice A1 (encR L').length k1)) = w5 at *
    have hs1 := HN.out.1
    refine wpAnyH_take (i := 18) (v := ?v1q0) (by rw [List.getElem?_toArray]; exact rfl) (by kernel_rfl) (by kernel_rfl) (by kernel_rfl) (fun _ _ _ h => h) (Or.inl ⟨by rfl, ?hy1q0⟩) (by assumption) ?rest1q0
    case hy1q0 => intro w hSw; (try dsimp only at hSw); have k9 := hSw.box; go_simp; (try with_reducible rfl)
    try simp only [Act.put, List.setIfInBounds_toArray, List.set_cons_zero, List.set_cons_succ]
    refine wpAnyH_done (by kernel_rfl) ?_ _
    refine NoPanic.normal ?_
    have c7 := HN.out.2
    go_wp2_with fail
    obtain ⟨⟨a9, m9, k9, h9⟩, h10, h11, h12⟩ := hs1
    exact bodyPost_ret (v := .tuple #[.pointer (some ⟨g, 0, none⟩), .agg #[.slice A1 (encR L').length k1], .bool true]) (by simp [results, Try.results11, go_sem, c7]) rfl ⟨g, _, L', rfl, h11, ⟨A1, k1, rfl, HK1.out, h12⟩, HL3.out, h9.keep⟩
  · refine (refPut6_all A k (encR L) x n u x0 x1 hle hk _ HV.out).mono ?_
    rintro e w1 ⟨⟨v1, rfl, hv1⟩, hb1⟩
    have HX1 := Lib.hid (HX.out.next (Keep6.below hb1))
    have HT1 := Lib.hid (HT.out.below hb1)
    clear hb1 HX HT HV
    obtain ⟨A1, k1, rfl, hk1, hl1⟩ := hv1
    have hb2 := box_below w1 (.cells #[.slice A1 (putF (encR L) (x, n) u).1.length k1] 28)
    have HL2 := Lib.hid (hl1.below hb2)
    have HX2 := Lib.hid (HX1.out.next (Keep6.below hb2))
    have HT2 := Lib.hid (HT1.out.below hb2)
    have hB := Blk.new w1 28 #[.slice A1 (putF (encR L) (x, n) u).1.length k1]
    have hBg : W.heap.size + 3 ≤ w1.heap.size := by have := HX1.out.b7.lt; omega
    have HB2 := Lib.hid hB
    have HP := Lib.hid (fun V hV => putS_any x n u x0 x1 w g L hcap V hV)
    have HK1 := Lib.hid hk1
    clear hb2 hl1 HX1 HT1 hB hk1
    obtain ⟨q, hq⟩ : ∃ q, putF (encR L) (x, n) u = q := ⟨_, rfl⟩
    rw [hq] at HP HL2 HB2 HK1 HX2 HT2 ⊢
    obtain ⟨ql, q1, q2, q3⟩ := q
    dsimp only at HP HL2 HB2 HK1 HX2 HT2 ⊢
    clear hq
    have m1 := HX2.out.b5.cell 1
    have m2 := HX2.out.b5.cell 2
    have m3 := HX2.out.b5.cell 3
    simp only [List.getElem?_toArray, List.getElem?_cons_zero, List.getElem?_cons_succ] at m1 m2 m3
    go_wp2_with fail
    refine (HP.out _ HT2.out).mono ?_
    rintro e w3 ⟨rfl, L', hT3, hE, hl3, hk3⟩
    subst hE
    have HS3 : Hid (S8 w W g L' A1 k1 w1.heap.size (.slice A (encR L).length k) c x n u w3) := Lib.hid (And.intro ⟨_, _, _, HX2.out.next hk3⟩ (And.intro (hk3.only.blk HB2.out (by decide) (by decide)) (And.intro hT3 (hk3.rows _ _ HL2.out))))
    have HL3 := Lib.hid hl3
    clear hT3 hl3 hk3 HX2 HB2 HL2 HT2 HP m1 m2 m3
    go_wp2_with fail
    have hs0 : S8 w W g L' A1 k1 w1.heap.size (.slice A (encR L).length k) c x n u w3.drew := HS3.out.below (below_drew w3)
    clear HS3
    refine wp_region_noPanic ?_
    refine wp_region_held_drew (S := S8 w W g L' A1 k1 w1.heap.size (.slice A (encR L).length k) c x n u) (by kernel_rfl) hs0 ?_
    intro _
    generalize w3.drew = w4 at *
    refine wpAnyH_take (i := 0) (v := ?v5q1) (by rw [List.getElem?_toArray]; exact rfl) (by kernel_rfl) (by kernel_rfl) (by kernel_rfl) (fun _ _ _ h => h) (Or.inl ⟨by rfl, ?hy5q1⟩) (by assumption) ?rest5q1
    case hy5q1 => intro w hSw; (try dsimp only at hSw); have k9 := hSw.box; go_simp; (try with_reducible rfl)
    try simp only [Act.put, List.setIfInBounds_toArray, List.set_cons_zero, List.set_cons_succ]
    refine wpAnyH_take (i := 1) (v := ?v6q1) (by rw [List.getElem?_toArray]; exact rfl) (by kernel_rfl) (by kernel_rfl) (by kernel_rfl) (fun _ _ _ h => h) (Or.inl ⟨by rfl, ?hy6q1⟩) (by assumption) ?rest6q1
    case hy6q1 => intro w hSw; (try dsimp only at hSw); have k9 := hSw.box; go_simp; (try with_reducible rfl)
    try simp only [Act.put, List.setIfInBounds_toArray, List.set_cons_zero, List.set_cons_succ]
    refine wpAnyH_take (i := 2) (v := ?v7q1) (by rw [List.getElem?_toArray]; exact rfl) (by kernel_rfl) (by kernel_rfl) (by kernel_rfl) (fun _ _ _ h => h) (Or.inl ⟨by rfl, ?hy7q1⟩) (by assumption) ?rest7q1
    case hy7q1 => intro w hSw; (try dsimp only at hSw); have k9 := hSw.box; go_simp; (try with_reducible rfl)
    try simp only [Act.put, List.setIfInBounds_toArray, List.set_cons_zero, List.set_cons_succ]
    refine wpAnyH_take (i := 3) (v := ?v8q1) (by rw [List.getElem?_toArray]; exact rfl) (by kernel_rfl) (by kernel_rfl) (by kernel_rfl) (fun _ _ _ h => h) (Or.inl ⟨by rfl, ?hy8q1⟩) (by assumption) ?rest8q1
    case hy8q1 => intro w hSw; (try dsimp only at hSw); have k9 := hSw.box; go_simp; (try with_reducible rfl)
    try simp only [Act.put, List.setIfInBounds_toArray, List.set_cons_zero, List.set_cons_succ]
    refine wpAnyH_take (i := 4) (v := ?v9q1) (by rw [List.getElem?_toArray]; exact rfl) (by kernel_rfl) (by kernel_rfl) (by kernel_rfl) (fun _ _ _ h => h) (Or.inl ⟨by rfl, ?hy9q1⟩) (by assumption) ?rest9q1
    case hy9q1 => intro w hSw; (try dsimp only at hSw); have k9 := hSw.box; go_simp; (try with_reducible rfl)
    try simp only [Act.put, List.setIfInBounds_toArray, List.set_cons_zero, List.set_cons_succ]
    refine wpAnyH_take (i := 5) (v := ?v10q1) (by rw [List.getElem?_toArray]; exact rfl) (by kernel_rfl) (by kernel_rfl) (by kernel_rfl) (fun _ _ _ h => h) (Or.inl ⟨by rfl, ?hy10q1⟩) (by assumption) ?rest10q1
    case hy10q1 => intro w hSw; (try dsimp only at hSw); have k9 := hSw.box; go_simp; (try with_reducible rfl)
    try simp only [Act.put, List.setIfInBounds_toArray, List.set_cons_zero, List.set_cons_succ]
    refine wpAnyH_take (i := 6) (v := ?v11q1) (by rw [List.getElem?_toArray]; exact rfl) (by kernel_rfl) (by kernel_rfl) (by kernel_rfl) (fun _ _ _ h => h) (Or.inl ⟨by rfl, ?hy11q1⟩) (by assumption) ?rest11q1
    case hy11q1 => intro w hSw; (try dsimp only at hSw); have k9 := hSw.box; go_simp; (try with_reducible rfl)
    try simp only [Act.put, List.setIfInBounds_toArray, List.set_cons_zero, List.set_cons_succ]
    refine wpAnyH_take (i := 7) (v := ?v12q1) (by rw [List.getElem?_toArray]; exact rfl) (by kernel_rfl) (by kernel_rfl) (by kernel_rfl) (fun _ _ _ h => h) (Or.inl ⟨by rfl, ?hy12q1⟩) (by assumption) ?rest12q1
    case hy12q1 => intro w hSw; (try dsimp only at hSw); have k9 := hSw.box; go_simp; (try with_reducible rfl)
    try simp only [Act.put, List.setIfInBounds_toArray, List.set_cons_zero, List.set_cons_succ]
    refine wpAnyH_take (i := 8) (v := ?v13q1) (by rw [List.getElem?_toArray]; exact rfl) (by kernel_rfl) (by kernel_rfl) (by kernel_rfl) (fun _ _ _ h => h) (Or.inl ⟨by rfl, ?hy13q1⟩) (by assumption) ?rest13q1
    case hy13q1 => intro w hSw; (try dsimp only at hSw); have k9 := hSw.box; go_simp; (try with_reducible rfl)
    try simp only [Act.put, List.setIfInBounds_toArray, List.set_cons_zero, List.set_cons_succ]
    refine wpAnyH_take (i := 9) (v := ?v14q1) (by rw [List.getElem?_toArray]; exact rfl) (by kernel_rfl) (by kernel_rfl) (by kernel_rfl) (fun _ _ _ h => h) (Or.inl ⟨by rfl, ?hy14q1⟩) (by assumption) ?rest14q1
    case hy14q1 => intro w hSw; (try dsimp only at hSw); have k9 := hSw.box; go_simp; (try with_reducible rfl)
    try simp only [Act.put, List.setIfInBounds_toArray, List.set_cons_zero, List.set_cons_succ]
    refine wpAnyH_take (i := 10) (v := ?v15q1) (by rw [List.getElem?_toArray]; exact rfl) (by kernel_rfl) (by kernel_rfl) (by kernel_rfl) (fun _ _ _ h => h) (Or.inl ⟨by rfl, ?hy15q1⟩) (by assumption) ?rest15q1
    case hy15q1 => intro w hSw; (try dsimp only at hSw); have k9 := hSw.box; go_simp; (try with_reducible rfl)
    try simp only [Act.put, List.setIfInBounds_toArray, List.set_cons_zero, List.set_cons_succ]
    refine wpAnyH_take (i := 11) (v := ?v16q1) (by rw [List.getElem?_toArray]; exact rfl) (by kernel_rfl) (by kernel_rfl) (by kernel_rfl) (fun _ _ _ h => h) (Or.inl ⟨by rfl, ?hy16q1⟩) (by assumption) ?rest16q1
    case hy16q1 => intro w hSw; (try dsimp only at hSw); have k9 := hSw.box; go_simp; (try with_reducible rfl)
    try simp only [Act.put, List.setIfInBounds_toArray, List.set_cons_zero, List.set_cons_succ]
    refine wpAnyH_take (i := 13) (v := ?v17q1) (by rw [List.getElem?_toArray]; exact rfl) (by kernel_rfl) (by kernel_rfl) (by kernel_rfl) (fun _ _ _ h => h) (Or.inl ⟨by rfl, ?hy17q1⟩) (by assumption) ?rest17q1
    case hy17q1 => intro w hSw; (try dsimp only at hSw); have k9 := hSw.box; go_simp; (try with_reducible rfl)
    try simp only [Act.put, List.setIfInBounds_toArray, List.set_cons_zero, List.set_cons_succ]
    refine ready_call (i := 12) (by kernel_rfl) (by rw [List.getElem?_toArray]; exact rfl) (by kernel_rfl) (fun K1 hK1 => ?_)
    go_simp
    refine (num6_any q3 _).mono ?_
    rintro e wx ⟨rfl, rfl⟩
    go_simp
    refine hK1.out _ _ hs0 (fun _ => ?_)
    clear hK1 K1
    try simp only [Act.put, List.setIfInBounds_toArray, List.set_cons_zero, List.set_cons_succ]
    refine wpAnyH_take (i := 14) (v := ?v2q1) (by rw [List.getElem?_toArray]; exact rfl) (by kernel_rfl) (by kernel_rfl) (by kernel_rfl) (fun _ _ _ h => h) (Or.inl ⟨by rfl, ?hy2q1⟩) (by assumption) ?rest2q1
    case hy2q1 => intro w hSw; (try dsimp only at hSw); have k9 := hSw.box; go_simp; (try with_reducible rfl)
    try simp only [Act.put, List.setIfInBounds_toArray, List.set_cons_zero, List.set_cons_succ]
    refine wpAnyH_take (i := 15) (v := ?v3q1) (by rw [List.getElem?_toArray]; exact rfl) (by kernel_rfl) (by kernel_rfl) (by kernel_rfl) (fun _ _ _ h => h) (Or.inl ⟨by rfl, ?hy3q1⟩) (by assumption) ?rest3q1
    case hy3q1 => intro w hSw; (try dsimp only at hSw); have k9 := hSw.box; go_simp; (try with_reducible rfl)
    try simp only [Act.put, List.setIfInBounds_toArray, List.set_cons_zero, List.set_cons_succ]
    refine wpAnyH_take (i := 16) (v := ?v4q1) (by rw [List.getElem?_toArray]; exact rfl) (by kernel_rfl) (by kernel_rfl) (by kernel_rfl) (fun _ _ _ h => h) (Or.inl ⟨by rfl, ?hy4q1⟩) (by assumption) ?rest4q1
    case hy4q1 => intro w hSw; (try dsimp only at hSw); have k9 := hSw.box; go_simp; (try with_reducible rfl)
    try simp only [Act.put, List.setIfInBounds_toArray, List.set_cons_zero, List.set_cons_succ]
    refine ready_call (i := 17) (by kernel_rfl) (by rw [List.getElem?_toArray]; exact rfl) (by kernel_rfl) (fun K1 hK1 => ?_)
    obtain ⟨⟨z7, c7⟩, f7⟩ := hs0.can
    have HN := Lib.hid (hs0.told HW.out.size hBg)
    go_simp
    refine hK1.out _ _ HN.out.1 (fun _ => ?_)
    clear hK1 K1 c7 f7
    try simp only [Act.put, List.setIfInBounds_toArray, List.set_cons_zero, List.set_cons_succ]
    generalize (w4.setCell ⟨W.heap.size + 1 + 1, 0, none⟩ (.slice A1 (encR L').length k1)) = w5 at *
    have hs1 := HN.out.1
    refine wpAnyH_take (i := 18) (v := ?v1q1) (by rw [List.getElem?_toArray]; exact rfl) (by kernel_rfl) (by kernel_rfl) (by kernel_rfl) (fun _ _ _ h => h) (Or.inl ⟨by rfl, ?hy1q1⟩) (by assumption) ?rest1q1
    case hy1q1 => intro w hSw; (try dsimp only at hSw); have k9 := hSw.box; go_simp; (try with_reducible rfl)
    try simp only [Act.put, List.setIfInBounds_toArray, List.set_cons_zero, List.set_cons_succ]
    refine wpAnyH_done (by kernel_rfl) ?_ _
    refine NoPanic.normal ?_
    have c7 := HN.out.2
    go_wp2_with fail
    obtain ⟨⟨a9, m9, k9, h9⟩, h10, h11, h12⟩ := hs1
    exact bodyPost_ret (v := .tuple #[.pointer (some ⟨g, 0, none⟩), .agg #[.slice A1 (encR L').length k1], .bool true]) (by simp [results, Try.results11, go_sem, c7]) rfl ⟨g, _, L', rfl, h11, ⟨A1, k1, rfl, HK1.out, h12⟩, HL3.out, h9.keep⟩
  · refine (refPut6_all A k (encR L) x n u x0 x1 hle hk _ HV.out).mono ?_
    rintro e w1 ⟨⟨v1, rfl, hv1⟩, hb1⟩
    have HX1 := Lib.hid (HX.out.next (Keep6.below hb1))
    have HT1 := Lib.hid (HT.out.below hb1)
    clear hb1 HX HT HV
    obtain ⟨A1, k1, rfl, hk1, hl1⟩ := hv1
    have hb2 := box_below w1 (.cells #[.slice A1 (putF (encR L) (x, n) u).1.length k1] 28)
    have HL2 := Lib.hid (hl1.below hb2)
    have HX2 := Lib.hid (HX1.out.next (Keep6.below hb2))
    have HT2 := Lib.hid (HT1.out.below hb2)
    have hB := Blk.new w1 28 #[.slice A1 (putF (encR L) (x, n) u).1.length k1]
    have hBg : W.heap.size + 3 ≤ w1.heap.size := by have := HX1.out.b7.lt; omega
    have HB2 := Lib.hid hB
    have HP := Lib.hid (fun V hV => putS_any x n u x0 x1 w g L hcap V hV)
    have HK1 := Lib.hid hk1
    clear hb2 hl1 HX1 HT1 hB hk1
    obtain ⟨q, hq⟩ : ∃ q, putF (encR L) (x, n) u = q := ⟨_, rfl⟩
    rw [hq] at HP HL2 HB2 HK1 HX2 HT2 ⊢
    obtain ⟨ql, q1, q2, q3⟩ := q
    dsimp only at HP HL2 HB2 HK1 HX2 HT2 ⊢
    clear hq
    have m1 := HX2.out.b5.cell 1
    have m2 := HX2.out.b5.cell 2
    have m3 := HX2.out.b5.cell 3
    simp only [List.getElem?_toArray, List.getElem?_cons_zero, List.getElem?_cons_succ] at m1 m2 m3
    go_wp2_with fail
    refine (HP.out _ HT2.out).mono ?_
    rintro e w3 ⟨rfl, L', hT3, hE, hl3, hk3⟩
    subst hE
    have HS3 : Hid (S8 w W g L' A1 k1 w1.heap.size (.slice A (encR L).length k) c x n u w3) := Lib.hid (And.intro ⟨_, _, _, HX2.out.next hk3⟩ (And.intro (hk3.only.blk HB2.out (by decide) (by decide)) (And.intro hT3 (hk3.rows _ _ HL2.out))))
    have HL3 := Lib.hid hl3
    clear hT3 hl3 hk3 HX2 HB2 HL2 HT2 HP m1 m2 m3
    go_wp2_with fail
    have hs0 : S8 w W g L' A1 k1 w1.heap.size (.slice A (encR L).length k) c x n u w3.drew := HS3.out.below (below_drew w3)
    clear HS3
    refine wp_region_noPanic ?_
    refine wp_region_held_drew (S := S8 w W g L' A1 k1 w1.heap.size (.slice A (encR L).length k) c x n u) (by kernel_rfl) hs0 ?_
    intro _
    generalize w3.drew = w4 at *
    refine wpAnyH_take (i := 0) (v := ?v5q2) (by rw [List.getElem?_toArray]; exact rfl) (by kernel_rfl) (by kernel_rfl) (by kernel_rfl) (fun _ _ _ h => h) (Or.inl ⟨by rfl, ?hy5q2⟩) (by assumption) ?rest5q2
    case hy5q2 => intro w hSw; (try dsimp only at hSw); have k9 := hSw.box; go_simp; (try with_reducible rfl)
    try simp only [Act.put, List.setIfInBounds_toArray, List.set_cons_zero, List.set_cons_succ]
    refine wpAnyH_take (i := 1) (v := ?v6q2) (by rw [List.getElem?_toArray]; exact rfl) (by kernel_rfl) (by kernel_rfl) (by kernel_rfl) (fun _ _ _ h => h) (Or.inl ⟨by rfl, ?hy6q2⟩) (by assumption) ?rest6q2
    case hy6q2 => intro w hSw; (try dsimp only at hSw); have k9 := hSw.box; go_simp; (try with_reducible rfl)
    try simp only [Act.put, List.setIfInBounds_toArray, List.set_cons_zero, List.set_cons_succ]
    refine wpAnyH_take (i := 2) (v := ?v7q2) (by rw [List.getElem?_toArray]; exact rfl) (by kernel_rfl) (by kernel_rfl) (by kernel_rfl) (fun _ _ _ h => h) (Or.inl ⟨by rfl, ?hy7q2⟩) (by assumption) ?rest7q2
    case hy7q2 => intro w hSw; (try dsimp only at hSw); have k9 := hSw.box; go_simp; (try with_reducible rfl)
    try simp only [Act.put, List.setIfInBounds_toArray, List.set_cons_zero, List.set_cons_succ]
    refine wpAnyH_take (i := 3) (v := ?v8q2) (by rw [List.getElem?_toArray]; exact rfl) (by kernel_rfl) (by kernel_rfl) (by kernel_rfl) (fun _ _ _ h => h) (Or.inl ⟨by rfl, ?hy8q2⟩) (by assumption) ?rest8q2
    case hy8q2 => intro w hSw; (try dsimp only at hSw); have k9 := hSw.box; go_simp; (try with_reducible rfl)
    try simp only [Act.put, List.setIfInBounds_toArray, List.set_cons_zero, List.set_cons_succ]
    refine wpAnyH_take (i := 4) (v := ?v9q2) (by rw [List.getElem?_toArray]; exact rfl) (by kernel_rfl) (by kernel_rfl) (by kernel_rfl) (fun _ _ _ h => h) (Or.inl ⟨by rfl, ?hy9q2⟩) (by assumption) ?rest9q2
    case hy9q2 => intro w hSw; (try dsimp only at hSw); have k9 := hSw.box; go_simp; (try with_reducible rfl)
    try simp only [Act.put, List.setIfInBounds_toArray, List.set_cons_zero, List.set_cons_succ]
    refine wpAnyH_take (i := 5) (v := ?v10q2) (by rw [List.getElem?_toArray]; exact rfl) (by kernel_rfl) (by kernel_rfl) (by kernel_rfl) (fun _ _ _ h => h) (Or.inl ⟨by rfl, ?hy10q2⟩) (by assumption) ?rest10q2
    case hy10q2 => intro w hSw; (try dsimp only at hSw); have k9 := hSw.box; go_simp; (try with_reducible rfl)
    try simp only [Act.put, List.setIfInBounds_toArray, List.set_cons_zero, List.set_cons_succ]
    refine wpAnyH_take (i := 6) (v := ?v11q2) (by rw [List.getElem?_toArray]; exact rfl) (by kernel_rfl) (by kernel_rfl) (by kernel_rfl) (fun _ _ _ h => h) (Or.inl ⟨by rfl, ?hy11q2⟩) (by assumption) ?rest11q2
    case hy11q2 => intro w hSw; (try dsimp only at hSw); have k9 := hSw.box; go_simp; (try with_reducible rfl)
    try simp only [Act.put, List.setIfInBounds_toArray, List.set_cons_zero, List.set_cons_succ]
    refine wpAnyH_take (i := 7) (v := ?v12q2) (by rw [List.getElem?_toArray]; exact rfl) (by kernel_rfl) (by kernel_rfl) (by kernel_rfl) (fun _ _ _ h => h) (Or.inl ⟨by rfl, ?hy12q2⟩) (by assumption) ?rest12q2
    case hy12q2 => intro w hSw; (try dsimp only at hSw); have k9 := hSw.box; go_simp; (try with_reducible rfl)
    try simp only [Act.put, List.setIfInBounds_toArray, List.set_cons_zero, List.set_cons_succ]
    refine wpAnyH_take (i := 8) (v := ?v13q2) (by rw [List.getElem?_toArray]; exact rfl) (by kernel_rfl) (by kernel_rfl) (by kernel_rfl) (fun _ _ _ h => h) (Or.inl ⟨by rfl, ?hy13q2⟩) (by assumption) ?rest13q2
    case hy13q2 => intro w hSw; (try dsimp only at hSw); have k9 := hSw.box; go_simp; (try with_reducible rfl)
    try simp only [Act.put, List.setIfInBounds_toArray, List.set_cons_zero, List.set_cons_succ]
    refine wpAnyH_take (i := 9) (v := ?v14q2) (by rw [List.getElem?_toArray]; exact rfl) (by kernel_rfl) (by kernel_rfl) (by kernel_rfl) (fun _ _ _ h => h) (Or.inl ⟨by rfl, ?hy14q2⟩) (by assumption) ?rest14q2
    case hy14q2 => intro w hSw; (try dsimp only at hSw); have k9 := hSw.box; go_simp; (try with_reducible rfl)
    try simp only [Act.put, List.setIfInBounds_toArray, List.set_cons_zero, List.set_cons_succ]
    refine wpAnyH_take (i := 10) (v := ?v15q2) (by rw [List.getElem?_toArray]; exact rfl) (by kernel_rfl) (by kernel_rfl) (by kernel_rfl) (fun _ _ _ h => h) (Or.inl ⟨by rfl, ?hy15q2⟩) (by assumption) ?rest15q2
    case hy15q2 => intro w hSw; (try dsimp only at hSw); have k9 := hSw.box; go_simp; (try with_reducible rfl)
    try simp only [Act.put, List.setIfInBounds_toArray, List.set_cons_zero, List.set_cons_succ]
    refine wpAnyH_take (i := 11) (v := ?v16q2) (by rw [List.getElem?_toArray]; exact rfl) (by kernel_rfl) (by kernel_rfl) (by kernel_rfl) (fun _ _ _ h => h) (Or.inl ⟨by rfl, ?hy16q2⟩) (by assumption) ?rest16q2
    case hy16q2 => intro w hSw; (try dsimp only at hSw); have k9 := hSw.box; go_simp; (try with_reducible rfl)
    try simp only [Act.put, List.setIfInBounds_toArray, List.set_cons_zero, List.set_cons_succ]
    refine wpAnyH_take (i := 13) (v := ?v17q2) (by rw [List.getElem?_toArray]; exact rfl) (by kernel_rfl) (by kernel_rfl) (by kernel_rfl) (fun _ _ _ h => h) (Or.inl ⟨by rfl, ?hy17q2⟩) (by assumption) ?rest17q2
    case hy17q2 => intro w hSw; (try dsimp only at hSw); have k9 := hSw.box; go_simp; (try with_reducible rfl)
    try simp only [Act.put, List.setIfInBounds_toArray, List.set_cons_zero, List.set_cons_succ]
    refine ready_call (i := 12) (by kernel_rfl) (by rw [List.getElem?_toArray]; exact rfl) (by kernel_rfl) (fun K1 hK1 => ?_)
    go_simp
    refine (num6_any q3 _).mono ?_
    rintro e wx ⟨rfl, rfl⟩
    go_simp
    refine hK1.out _ _ hs0 (fun _ => ?_)
    clear hK1 K1
    try simp only [Act.put, List.setIfInBounds_toArray, List.set_cons_zero, List.set_cons_succ]
    refine wpAnyH_take (i := 14) (v := ?v2q2) (by rw [List.getElem?_toArray]; exact rfl) (by kernel_rfl) (by kernel_rfl) (by kernel_rfl) (fun _ _ _ h => h) (Or.inl ⟨by rfl, ?hy2q2⟩) (by assumption) ?rest2q2
    case hy2q2 => intro w hSw; (try dsimp only at hSw); have k9 := hSw.box; go_simp; (try with_reducible rfl)
    try simp only [Act.put, List.setIfInBounds_toArray, List.set_cons_zero, List.set_cons_succ]
    refine wpAnyH_take (i := 15) (v := ?v3q2) (by rw [List.getElem?_toArray]; exact rfl) (by kernel_rfl) (by kernel_rfl) (by kernel_rfl) (fun _ _ _ h => h) (Or.inl ⟨by rfl, ?hy3q2⟩) (by assumption) ?rest3q2
    case hy3q2 => intro w hSw; (try dsimp only at hSw); have k9 := hSw.box; go_simp; (try with_reducible rfl)
    try simp only [Act.put, List.setIfInBounds_toArray, List.set_cons_zero, List.set_cons_succ]
    refine wpAnyH_take (i := 16) (v := ?v4q2) (by rw [List.getElem?_toArray]; exact rfl) (by kernel_rfl) (by kernel_rfl) (by kernel_rfl) (fun _ _ _ h => h) (Or.inl ⟨by rfl, ?hy4q2⟩) (by assumption) ?rest4q2
    case hy4q2 => intro w hSw; (try dsimp only at hSw); have k9 := hSw.box; go_simp; (try with_reducible rfl)
    try simp only [Act.put, List.setIfInBounds_toArray, List.set_cons_zero, List.set_cons_succ]
    refine ready_call (i := 17) (by kernel_rfl) (by rw [List.getElem?_toArray]; exact rfl) (by kernel_rfl) (fun K1 hK1 => ?_)
    obtain ⟨⟨z7, c7⟩, f7⟩ := hs0.can
    have HN := Lib.hid (hs0.told HW.out.size hBg)
    go_simp
    refine hK1.out _ _ HN.out.1 (fun _ => ?_)
    clear hK1 K1 c7 f7
    try simp only [Act.put, List.setIfInBounds_toArray, List.set_cons_zero, List.set_cons_succ]
    generalize (w4.setCell ⟨W.heap.size + 1 + 1, 0, none⟩ (.slice A1 (encR L').length k1)) = w5 at *
    have hs1 := HN.out.1
    refine wpAnyH_take (i := 18) (v := ?v1q2) (by rw [List.getElem?_toArray]; exact rfl) (by kernel_rfl) (by kernel_rfl) (by kernel_rfl) (fun _ _ _ h => h) (Or.inl ⟨by rfl, ?hy1q2⟩) (by assumption) ?rest1q2
    case hy1q2 => intro w hSw; (try dsimp only at hSw); have k9 := hSw.box; go_simp; (try with_reducible rfl)
    try simp only [Act.put, List.setIfInBounds_toArray, List.set_cons_zero, List.set_cons_succ]
    refine wpAnyH_done (by kernel_rfl) ?_ _
    refine NoPanic.normal ?_
    have c7 := HN.out.2
    go_wp2_with fail
    obtain ⟨⟨a9, m9, k9, h9⟩, h10, h11, h12⟩ := hs1
    exact bodyPost_ret (v := .tuple #[.pointer (some ⟨g, 0, none⟩), .agg #[.slice A1 (encR L').length k1], .bool true]) (by simp [results, Try.results11, go_sem, c7]) rfl ⟨g, _, L', rfl, h11, ⟨A1, k1, rfl, HK1.out, h12⟩, HL3.out, h9.keep⟩
  · refine (refPut6_all A k (encR L) x n u x0 x1 hle hk _ HV.out).mono ?_
    rintro e w1 ⟨⟨v1, rfl, hv1⟩, hb1⟩
    have HX1 := Lib.hid (HX.out.next (Keep6.below hb1))
    have HT1 := Lib.hid (HT.out.below hb1)
    clear hb1 HX HT HV
    obtain ⟨A1, k1, rfl, hk1, hl1⟩ := hv1
    have hb2 := box_below w1 (.cells #[.slice A1 (putF (encR L) (x, n) u).1.length k1] 28)
    have HL2 := Lib.hid (hl1.below hb2)
    have HX2 := Lib.hid (HX1.out.next (Keep6.below hb2))
    have HT2 := Lib.hid (HT1.out.below hb2)
    have hB := Blk.new w1 28 #[.slice A1 (putF (encR L) (x, n) u).1.length k1]
    have hBg : W.heap.size + 3 ≤ w1.heap.size := by have := HX1.out.b7.lt; omega
    have HB2 := Lib.hid hB
    have HP := Lib.hid (fun V hV => putS_any x n u x0 x1 w g L hcap V hV)
    have HK1 := Lib.hid hk1
    clear hb2 hl1 HX1 HT1 hB hk1
    obtain ⟨q, hq⟩ : ∃ q, putF (encR L) (x, n) u = q := ⟨_, rfl⟩
    rw [hq] at HP HL2 HB2 HK1 HX2 HT2 ⊢
    obtain ⟨ql, q1, q2, q3⟩ := q
    dsimp only at HP HL2 HB2 HK1 HX2 HT2 ⊢
    clear hq
    have m1 := HX2.out.b5.cell 1
    have m2 := HX2.out.b5.cell 2
    have m3 := HX2.out.b5.cell 3
    simp only [List.getElem?_toArray, List.getElem?_cons_zero, List.getElem?_cons_succ] at m1 m2 m3
    go_wp2_with fail
    refine (HP.out _ HT2.out).mono ?_
    rintro e w3 ⟨rfl, L', hT3, hE, hl3, hk3⟩
    subst hE
    have HS3 : Hid (S8 w W g L' A1 k1 w1.heap.size (.slice A (encR L).length k) c x n u w3) := Lib.hid (And.intro ⟨_, _, _, HX2.out.next hk3⟩ (And.intro (hk3.only.blk HB2.out (by decide) (by decide)) (And.intro hT3 (hk3.rows _ _ HL2.out))))
    have HL3 := Lib.hid hl3
    clear hT3 hl3 hk3 HX2 HB2 HL2 HT2 HP m1 m2 m3
    go_wp2_with fail
    have hs0 : S8 w W g L' A1 k1 w1.heap.size (.slice A (encR L).length k) c x n u w3.drew := HS3.out.below (below_drew w3)
    clear HS3
    refine wp_region_noPanic ?_
    refine wp_region_held_drew (S := S8 w W g L' A1 k1 w1.heap.size (.slice A (encR L).length k) c x n u) (by kernel_rfl) hs0 ?_
    intro _
    generalize w3.drew = w4 at *
    refine wpAnyH_take (i := 0) (v := ?v5q3) (by rw [List.getElem?_toArray]; exact rfl) (by kernel_rfl) (by kernel_rfl) (by kernel_rfl) (fun _ _ _ h => h) (Or.inl ⟨by rfl, ?hy5q3⟩) (by assumption) ?rest5q3
    case hy5q3 => intro w hSw; (try dsimp only at hSw); have k9 := hSw.box; go_simp; (try with_reducible rfl)
    try simp only [Act.put, List.setIfInBounds_toArray, List.set_cons_zero, List.set_cons_succ]
    refine wpAnyH_take (i := 1) (v := ?v6q3) (by rw [List.getElem?_toArray]; exact rfl) (by kernel_rfl) (by kernel_rfl) (by kernel_rfl) (fun _ _ _ h => h) (Or.inl ⟨by rfl, ?hy6q3⟩) (by assumption) ?rest6q3
    case hy6q3 => intro w hSw; (try dsimp only at hSw); have k9 := hSw.box; go_simp; (try with_reducible rfl)
    try simp only [Act.put, List.setIfInBounds_toArray, List.set_cons_zero, List.set_cons_succ]
    refine wpAnyH_take (i := 2) (v := ?v7q3) (by rw [List.getElem?_toArray]; exact rfl) (by kernel_rfl) (by kernel_rfl) (by kernel_rfl) (fun _ _ _ h => h) (Or.inl ⟨by rfl, ?hy7q3⟩) (by assumption) ?rest7q3
    case hy7q3 => intro w hSw; (try dsimp only at hSw); have k9 := hSw.box; go_simp; (try with_reducible rfl)
    try simp only [Act.put, List.setIfInBounds_toArray, List.set_cons_zero, List.set_cons_succ]
    refine wpAnyH_take (i := 3) (v := ?v8q3) (by rw [List.getElem?_toArray]; exact rfl) (by kernel_rfl) (by kernel_rfl) (by kernel_rfl) (fun _ _ _ h => h) (Or.inl ⟨by rfl, ?hy8q3⟩) (by assumption) ?rest8q3
    case hy8q3 => intro w hSw; (try dsimp only at hSw); have k9 := hSw.box; go_simp; (try with_reducible rfl)
    try simp only [Act.put, List.setIfInBounds_toArray, List.set_cons_zero, List.set_cons_succ]
    refine wpAnyH_take (i := 4) (v := ?v9q3) (by rw [List.getElem?_toArray]; exact rfl) (by kernel_rfl) (by kernel_rfl) (by kernel_rfl) (fun _ _ _ h => h) (Or.inl ⟨by rfl, ?hy9q3⟩) (by assumption) ?rest9q3
    case hy9q3 => intro w hSw; (try dsimp only at hSw); have k9 := hSw.box; go_simp; (try with_reducible rfl)
    try simp only [Act.put, List.setIfInBounds_toArray, List.set_cons_zero, List.set_cons_succ]
    refine wpAnyH_take (i := 5) (v := ?v10q3) (by rw [List.getElem?_toArray]; exact rfl) (by kernel_rfl) (by kernel_rfl) (by kernel_rfl) (fun _ _ _ h => h) (Or.inl ⟨by rfl, ?hy10q3⟩) (by assumption) ?rest10q3
    case hy10q3 => intro w hSw; (try dsimp only at hSw); have k9 := hSw.box; go_simp; (try with_reducible rfl)
    try simp only [Act.put, List.setIfInBounds_toArray, List.set_cons_zero, List.set_cons_succ]
    refine wpAnyH_take (i := 6) (v := ?v11q3) (by rw [List.getElem?_toArray]; exact rfl) (by kernel_rfl) (by kernel_rfl) (by kernel_rfl) (fun _ _ _ h => h) (Or.inl ⟨by rfl, ?hy11q3⟩) (by assumption) ?rest11q3
    case hy11q3 => intro w hSw; (try dsimp only at hSw); have k9 := hSw.box; go_simp; (try with_reducible rfl)
    try simp only [Act.put, List.setIfInBounds_toArray, List.set_cons_zero, List.set_cons_succ]
    refine wpAnyH_take (i := 7) (v := ?v12q3) (by rw [List.getElem?_toArray]; exact rfl) (by kernel_rfl) (by kernel_rfl) (by kernel_rfl) (fun _ _ _ h => h) (Or.inl ⟨by rfl, ?hy12q3⟩) (by assumption) ?rest12q3
    case hy12q3 => intro w hSw; (try dsimp only at hSw); have k9 := hSw.box; go_simp; (try with_reducible rfl)
    try simp only [Act.put, List.setIfInBounds_toArray, List.set_cons_zero, List.set_cons_succ]
    refine wpAnyH_take (i := 8) (v := ?v13q3) (by rw [List.getElem?_toArray]; exact rfl) (by kernel_rfl) (by kernel_rfl) (by kernel_rfl) (fun _ _ _ h => h) (Or.inl ⟨by rfl, ?hy13q3⟩) (by assumption) ?rest13q3
    case hy13q3 => intro w hSw; (try dsimp only at hSw); have k9 := hSw.box; go_simp; (try with_reducible rfl)
    try simp only [Act.put, List.setIfInBounds_toArray, List.set_cons_zero, List.set_cons_succ]
    refine wpAnyH_take (i := 9) (v := ?v14q3) (by rw [List.getElem?_toArray]; exact rfl) (by kernel_rfl) (by kernel_rfl) (by kernel_rfl) (fun _ _ _ h => h) (Or.inl ⟨by rfl, ?hy14q3⟩) (by assumption) ?rest14q3
    case hy14q3 => intro w hSw; (try dsimp only at hSw); have k9 := hSw.box; go_simp; (try with_reducible rfl)
    try simp only [Act.put, List.setIfInBounds_toArray, List.set_cons_zero, List.set_cons_succ]
    refine wpAnyH_take (i := 10) (v := ?v15q3) (by rw [List.getElem?_toArray]; exact rfl) (by kernel_rfl) (by kernel_rfl) (by kernel_rfl) (fun _ _ _ h => h) (Or.inl ⟨by rfl, ?hy15q3⟩) (by assumption) ?rest15q3
    case hy15q3 => intro w hSw; (try dsimp only at hSw); have k9 := hSw.box; go_simp; (try with_reducible rfl)
    try simp only [Act.put, List.setIfInBounds_toArray, List.set_cons_zero, List.set_cons_succ]
    refine wpAnyH_take (i := 11) (v := ?v16q3) (by rw [List.getElem?_toArray]; exact rfl) (by kernel_rfl) (by kernel_rfl) (by kernel_rfl) (fun _ _ _ h => h) (Or.inl ⟨by rfl, ?hy16q3⟩) (by assumption) ?rest16q3
    case hy16q3 => intro w hSw; (try dsimp only at hSw); have k9 := hSw.box; go_simp; (try with_reducible rfl)
    try simp only [Act.put, List.setIfInBounds_toArray, List.set_cons_zero, List.set_cons_succ]
    refine wpAnyH_take (i := 13) (v := ?v17q3) (by rw [List.getElem?_toArray]; exact rfl) (by kernel_rfl) (by kernel_rfl) (by kernel_rfl) (fun _ _ _ h => h) (Or.inl ⟨by rfl, ?hy17q3⟩) (by assumption) ?rest17q3
    case hy17q3 => intro w hSw; (try dsimp only at hSw); have k9 := hSw.box; go_simp; (try with_reducible rfl)
    try simp only [Act.put, List.setIfInBounds_toArray, List.set_cons_zero, List.set_cons_succ]
    refine ready_call (i := 12) (by kernel_rfl) (by rw [List.getElem?_toArray]; exact rfl) (by kernel_rfl) (fun K1 hK1 => ?_)
    go_simp
    refine (num6_any q3 _).mono ?_
    rintro e wx ⟨rfl, rfl⟩
    go_simp
    refine hK1.out _ _ hs0 (fun _ => ?_)
    clear hK1 K1
    try simp only [Act.put, List.setIfInBounds_toArray, List.set_cons_zero, List.set_cons_succ]
    refine wpAnyH_take (i := 14) (v := ?v2q3) (by rw [List.getElem?_toArray]; exact rfl) (by kernel_rfl) (by kernel_rfl) (by kernel_rfl) (fun _ _ _ h => h) (Or.inl ⟨by rfl, ?hy2q3⟩) (by assumption) ?rest2q3
    case hy2q3 => intro w hSw; (try dsimp only at hSw); have k9 := hSw.box; go_simp; (try with_reducible rfl)
    try simp only [Act.put, List.setIfInBounds_toArray, List.set_cons_zero, List.set_cons_succ]
    refine wpAnyH_take (i := 15) (v := ?v3q3) (by rw [List.getElem?_toArray]; exact rfl) (by kernel_rfl) (by kernel_rfl) (by kernel_rfl) (fun _ _ _ h => h) (Or.inl ⟨by rfl, ?hy3q3⟩) (by assumption) ?rest3q3
    case hy3q3 => intro w hSw; (try dsimp only at hSw); have k9 := hSw.box; go_simp; (try with_reducible rfl)
    try simp only [Act.put, List.setIfInBounds_toArray, List.set_cons_zero, List.set_cons_succ]
    refine wpAnyH_take (i := 16) (v := ?v4q3) (by rw [List.getElem?_toArray]; exact rfl) (by kernel_rfl) (by kernel_rfl) (by kernel_rfl) (fun _ _ _ h => h) (Or.inl ⟨by rfl, ?hy4q3⟩) (by assumption) ?rest4q3
    case hy4q3 => intro w hSw; (try dsimp only at hSw); have k9 := hSw.box; go_simp; (try with_reducible rfl)
    try simp only [Act.put, List.setIfInBounds_toArray, List.set_cons_zero, List.set_cons_succ]
    refine ready_call (i := 17) (by kernel_rfl) (by rw [List.getElem?_toArray]; exact rfl) (by kernel_rfl) (fun K1 hK1 => ?_)
    obtain ⟨⟨z7, c7⟩, f7⟩ := hs0.can
    have HN := Lib.hid (hs0.told HW.out.size hBg)
    go_simp
    refine hK1.out _ _ HN.out.1 (fun _ => ?_)
    clear hK1 K1 c7 f7
    try simp only [Act.put, List.setIfInBounds_toArray, List.set_cons_zero, List.set_cons_succ]
    generalize (w4.setCell ⟨W.heap.size + 1 + 1, 0, none⟩ (.slice A1 (encR L').length k1)) = w5 at *
    have hs1 := HN.out.1
    refine wpAnyH_take (i := 18) (v := ?v1q3) (by rw [List.getElem?_toArray]; exact rfl) (by kernel_rfl) (by kernel_rfl) (by kernel_rfl) (fun _ _ _ h => h) (Or.inl ⟨by rfl, ?hy1q3⟩) (by assumption) ?rest1q3
    case hy1q3 => intro w hSw; (try dsimp only at hSw); have k9 := hSw.box; go_simp; (try with_reducible rfl)
    try simp only [Act.put, List.setIfInBounds_toArray, List.set_cons_zero, List.set_cons_succ]
    refine wpAnyH_done (by kernel_rfl) ?_ _
    refine NoPanic.normal ?_
    have c7 := HN.out.2
    go_wp2_with fail
    obtain ⟨⟨a9, m9, k9, h9⟩, h10, h11, h12⟩ := hs1
    exact bodyPost_ret (v := .tuple #[.pointer (some ⟨g, 0, none⟩), .agg #[.slice A1 (encR L').length k1], .bool true]) (by simp [results, Try.results11, go_sem, c7]) rfl ⟨g, _, L', rfl, h11, ⟨A1, k1, rfl, HK1.out, h12⟩, HL3.out, h9.keep⟩
  · refine (refTake_any A k (encR L) x n x0 x1 hle hk _ HV.out).mono ?_
    rintro e w1 ⟨⟨v1, rfl, hv1⟩, hb1⟩
    have HX1 := Lib.hid (HX.out.next (Keep6.below hb1))
    have HT1 := Lib.hid (HT.out.below hb1)
    clear hb1 HX HT HV
    obtain ⟨A1, k1, rfl, hk1, hl1⟩ := hv1
    have hb2 := box_below w1 (.cells #[.slice A1 (takeF (encR L) (x, n)).1.length k1] 28)
    have HL2 := Lib.hid (hl1.below hb2)
    have HX2 := Lib.hid (HX1.out.next (Keep6.below hb2))
    have HT2 := Lib.hid (HT1.out.below hb2)
    have hB := Blk.new w1 28 #[.slice A1 (takeF (encR L) (x, n)).1.length k1]
    have hBg : W.heap.size + 3 ≤ w1.heap.size := by have := HX1.out.b7.lt; omega
    have HB2 := Lib.hid hB
    have HP := Lib.hid (fun V hV => takeS_any x n x0 x1 w g L hcap V hV)
    have HK1 := Lib.hid hk1
    clear hb2 hl1 HX1 HT1 hB hk1
    obtain ⟨q, hq⟩ : ∃ q, takeF (encR L) (x, n) = q := ⟨_, rfl⟩
    rw [hq] at HP HL2 HB2 HK1 HX2 HT2 ⊢
    obtain ⟨ql, q1, q2, q3⟩ := q
    dsimp only at HP HL2 HB2 HK1 HX2 HT2 ⊢
    clear hq
    have m1 := HX2.out.b5.cell 1
    have m2 := HX2.out.b5.cell 2
    simp only [List.getElem?_toArray, List.getElem?_cons_zero, List.getElem?_cons_succ] at m1 m2
    go_wp2_with fail
    refine (HP.out _ HT2.out).mono ?_
    rintro e w3 ⟨rfl, L', hT3, hE, hl3, hk3⟩
    subst hE
    have HS3 : Hid (S8 w W g L' A1 k1 w1.heap.size (.slice A (encR L).length k) c x n u w3) := Lib.hid (And.intro ⟨_, _, _, HX2.out.next hk3⟩ (And.intro (hk3.only.blk HB2.out (by decide) (by decide)) (And.intro hT3 (hk3.rows _ _ HL2.out))))
    have HL3 := Lib.hid hl3
    clear hT3 hl3 hk3 HX2 HB2 HL2 HT2 HP m1 m2
    go_wp2_with fail
    have hs0 : S8 w W g L' A1 k1 w1.heap.size (.slice A (encR L).length k) c x n u w3.drew := HS3.out.below (below_drew w3)
    clear HS3
    refine wp_region_noPanic ?_
    refine wp_region_held_drew (S := S8 w W g L' A1 k1 w1.heap.size (.slice A (encR L).length k) c x n u) (by kernel_rfl) hs0 ?_
    intro _
    generalize w3.drew = w4 at *
    refine wpAnyH_take (i := 0) (v := ?v5q4) (by rw [List.getElem?_toArray]; exact rfl) (by kernel_rfl) (by kernel_rfl) (by kernel_rfl) (fun _ _ _ h => h) (Or.inl ⟨by rfl, ?hy5q4⟩) (by assumption) ?rest5q4
    case hy5q4 => intro w hSw; (try dsimp only at hSw); have k9 := hSw.box; go_simp; (try with_reducible rfl)
    try simp only [Act.put, List.setIfInBounds_toArray, List.set_cons_zero, List.set_cons_succ]
    refine wpAnyH_take (i := 1) (v := ?v6q4) (by rw [List.getElem?_toArray]; exact rfl) (by kernel_rfl) (by kernel_rfl) (by kernel_rfl) (fun _ _ _ h => h) (Or.inl ⟨by rfl, ?hy6q4⟩) (by assumption) ?rest6q4
    case hy6q4 => intro w hSw; (try dsimp only at hSw); have k9 := hSw.box; go_simp; (try with_reducible rfl)
    try simp only [Act.put, List.setIfInBounds_toArray, List.set_cons_zero, List.set_cons_succ]
    refine wpAnyH_take (i := 2) (v := ?v7q4) (by rw [List.getElem?_toArray]; exact rfl) (by kernel_rfl) (by kernel_rfl) (by kernel_rfl) (fun _ _ _ h => h) (Or.inl ⟨by rfl, ?hy7q4⟩) (by assumption) ?rest7q4
    case hy7q4 => intro w hSw; (try dsimp only at hSw); have k9 := hSw.box; go_simp; (try with_reducible rfl)
    try simp only [Act.put, List.setIfInBounds_toArray, List.set_cons_zero, List.set_cons_succ]
    refine wpAnyH_take (i := 3) (v := ?v8q4) (by rw [List.getElem?_toArray]; exact rfl) (by kernel_rfl) (by kernel_rfl) (by kernel_rfl) (fun _ _ _ h => h) (Or.inl ⟨by rfl, ?hy8q4⟩) (by assumption) ?rest8q4
    case hy8q4 => intro w hSw; (try dsimp only at hSw); have k9 := hSw.box; go_simp; (try with_reducible rfl)
    try simp only [Act.put, List.setIfInBounds_toArray, List.set_cons_zero, List.set_cons_succ]
    refine wpAnyH_take (i := 4) (v := ?v9q4) (by rw [List.getElem?_toArray]; exact rfl) (by kernel_rfl) (by kernel_rfl) (by kernel_rfl) (fun _ _ _ h => h) (Or.inl ⟨by rfl, ?hy9q4⟩) (by assumption) ?rest9q4
    case hy9q4 => intro w hSw; (try dsimp only at hSw); have k9 := hSw.box; go_simp; (try with_reducible rfl)
    try simp only [Act.put, List.setIfInBounds_toArray, List.set_cons_zero, List.set_cons_succ]
    refine wpAnyH_take (i := 5) (v := ?v10q4) (by rw [List.getElem?_toArray]; exact rfl) (by kernel_rfl) (by kernel_rfl) (by kernel_rfl) (fun _ _ _ h => h) (Or.inl ⟨by rfl, ?hy10q4⟩) (by assumption) ?rest10q4
    case hy10q4 => intro w hSw; (try dsimp only at hSw); have k9 := hSw.box; go_simp; (try with_reducible rfl)
    try simp only [Act.put, List.setIfInBounds_toArray, List.set_cons_zero, List.set_cons_succ]
    refine wpAnyH_take (i := 6) (v := ?v11q4) (by rw [List.getElem?_toArray]; exact rfl) (by kernel_rfl) (by kernel_rfl) (by kernel_rfl) (fun _ _ _ h => h) (Or.inl ⟨by rfl, ?hy11q4⟩) (by assumption) ?rest11q4
    case hy11q4 => intro w hSw; (try dsimp only at hSw); have k9 := hSw.box; go_simp; (try with_reducible rfl)
    try simp only [Act.put, List.setIfInBounds_toArray, List.set_cons_zero, List.set_cons_succ]
    refine wpAnyH_take (i := 7) (v := ?v12q4) (by rw [List.getElem?_toArray]; exact rfl) (by kernel_rfl) (by kernel_rfl) (by kernel_rfl) (fun _ _ _ h => h) (Or.inl ⟨by rfl, ?hy12q4⟩) (by assumption) ?rest12q4
    case hy12q4 => intro w hSw; (try dsimp only at hSw); have k9 := hSw.box; go_simp; (try with_reducible rfl)
    try simp only [Act.put, List.setIfInBounds_toArray, List.set_cons_zero, List.set_cons_succ]
    refine wpAnyH_take (i := 8) (v := ?v13q4) (by rw [List.getElem?_toArray]; exact rfl) (by kernel_rfl) (by kernel_rfl) (by kernel_rfl) (fun _ _ _ h => h) (Or.inl ⟨by rfl, ?hy13q4⟩) (by assumption) ?rest13q4
    case hy13q4 => intro w hSw; (try dsimp only at hSw); have k9 := hSw.box; go_simp; (try with_reducible rfl)
    try simp only [Act.put, List.setIfInBounds_toArray, List.set_cons_zero, List.set_cons_succ]
    refine wpAnyH_take (i := 9) (v := ?v14q4) (by rw [List.getElem?_toArray]; exact rfl) (by kernel_rfl) (by kernel_rfl) (by kernel_rfl) (fun _ _ _ h => h) (Or.inl ⟨by rfl, ?hy14q4⟩) (by assumption) ?rest14q4
    case hy14q4 => intro w hSw; (try dsimp only at hSw); have k9 := hSw.box; go_simp; (try with_reducible rfl)
    try simp only [Act.put, List.setIfInBounds_toArray, List.set_cons_zero, List.set_cons_succ]
    refine wpAnyH_take (i := 10) (v := ?v15q4) (by rw [List.getElem?_toArray]; exact rfl) (by kernel_rfl) (by kernel_rfl) (by kernel_rfl) (fun _ _ _ h => h) (Or.inl ⟨by rfl, ?hy15q4⟩) (by assumption) ?rest15q4
    case hy15q4 => intro w hSw; (try dsimp only at hSw); have k9 := hSw.box; go_simp; (try with_reducible rfl)
    try simp only [Act.put, List.setIfInBounds_toArray, List.set_cons_zero, List.set_cons_succ]
    refine wpAnyH_take (i := 11) (v := ?v16q4) (by rw [List.getElem?_toArray]; exact rfl) (by kernel_rfl) (by kernel_rfl) (by kernel_rfl) (fun _ _ _ h => h) (Or.inl ⟨by rfl, ?hy16q4⟩) (by assumption) ?rest16q4
    case hy16q4 => intro w hSw; (try dsimp only at hSw); have k9 := hSw.box; go_simp; (try with_reducible rfl)
    try simp only [Act.put, List.setIfInBounds_toArray, List.set_cons_zero, List.set_cons_succ]
    refine wpAnyH_take (i := 13) (v := ?v17q4) (by rw [List.getElem?_toArray]; exact rfl) (by kernel_rfl) (by kernel_rfl) (by kernel_rfl) (fun _ _ _ h => h) (Or.inl ⟨by rfl, ?hy17q4⟩) (by assumption) ?rest17q4
    case hy17q4 => intro w hSw; (try dsimp only at hSw); have k9 := hSw.box; go_simp; (try with_reducible rfl)
    try simp only [Act.put, List.setIfInBounds_toArray, List.set_cons_zero, List.set_cons_succ]
    refine ready_call (i := 12) (by kernel_rfl) (by rw [List.getElem?_toArray]; exact rfl) (by kernel_rfl) (fun K1 hK1 => ?_)
    go_simp
    refine (num6_any q3 _).mono ?_
    rintro e wx ⟨rfl, rfl⟩
    go_simp
    refine hK1.out _ _ hs0 (fun _ => ?_)
    clear hK1 K1
    try simp only [Act.put, List.setIfInBounds_toArray, List.set_cons_zero, List.set_cons_succ]
    refine wpAnyH_take (i := 14) (v := ?v2q4) (by rw [List.getElem?_toArray]; exact rfl) (by kernel_rfl) (by kernel_rfl) (by kernel_rfl) (fun _ _ _ h => h) (Or.inl ⟨by rfl, ?hy2q4⟩) (by assumption) ?rest2q4
    case hy2q4 => intro w hSw; (try dsimp only at hSw); have k9 := hSw.box; go_simp; (try with_reducible rfl)
    try simp only [Act.put, List.setIfInBounds_toArray, List.set_cons_zero, List.set_cons_succ]
    refine wpAnyH_take (i := 15) (v := ?v3q4) (by rw [List.getElem?_toArray]; exact rfl) (by kernel_rfl) (by kernel_rfl) (by kernel_rfl) (fun _ _ _ h => h) (Or.inl ⟨by rfl, ?hy3q4⟩) (by assumption) ?rest3q4
    case hy3q4 => intro w hSw; (try dsimp only at hSw); have k9 := hSw.box; go_simp; (try with_reducible rfl)
    try simp only [Act.put, List.setIfInBounds_toArray, List.set_cons_zero, List.set_cons_succ]
    refine wpAnyH_take (i := 16) (v := ?v4q4) (by rw [List.getElem?_toArray]; exact rfl) (by kernel_rfl) (by kernel_rfl) (by kernel_rfl) (fun _ _ _ h => h) (Or.inl ⟨by rfl, ?hy4q4⟩) (by assumption) ?rest4q4
    case hy4q4 => intro w hSw; (try dsimp only at hSw); have k9 := hSw.box; go_simp; (try with_reducible rfl)
    try simp only [Act.put, List.setIfInBounds_toArray, List.set_cons_zero, List.set_cons_succ]
    refine ready_call (i := 17) (by kernel_rfl) (by rw [List.getElem?_toArray]; exact rfl) (by kernel_rfl) (fun K1 hK1 => ?_)
    obtain ⟨⟨z7, c7⟩, f7⟩ := hs0.can
    have HN := Lib.hid (hs0.told HW.out.size hBg)
    go_simp
    refine hK1.out _ _ HN.out.1 (fun _ => ?_)
    clear hK1 K1 c7 f7
    try simp only [Act.put, List.setIfInBounds_toArray, List.set_cons_zero, List.set_cons_succ]
    generalize (w4.setCell ⟨W.heap.size + 1 + 1, 0, none⟩ (.slice A1 (encR L').length k1)) = w5 at *
    have hs1 := HN.out.1
    refine wpAnyH_take (i := 18) (v := ?v1q4) (by rw [List.getElem?_toArray]; exact rfl) (by kernel_rfl) (by kernel_rfl) (by kernel_rfl) (fun _ _ _ h => h) (Or.inl ⟨by rfl, ?hy1q4⟩) (by assumption) ?rest1q4
    case hy1q4 => intro w hSw; (try dsimp only at hSw); have k9 := hSw.box; go_simp; (try with_reducible rfl)
    try simp only [Act.put, List.setIfInBounds_toArray, List.set_cons_zero, List.set_cons_succ]
    refine wpAnyH_done (by kernel_rfl) ?_ _
    refine NoPanic.normal ?_
    have c7 := HN.out.2
    go_wp2_with fail
    obtain ⟨⟨a9, m9, k9, h9⟩, h10, h11, h12⟩ := hs1
    exact bodyPost_ret (v := .tuple #[.pointer (some ⟨g, 0, none⟩), .agg #[.slice A1 (encR L').length k1], .bool true]) (by simp [results, Try.results11, go_sem, c7]) rfl ⟨g, _, L', rfl, h11, ⟨A1, k1, rfl, HK1.out, h12⟩, HL3.out, h9.keep⟩
  · refine (refTake_any A k (encR L) x n x0 x1 hle hk _ HV.out).mono ?_
    rintro e w1 ⟨⟨v1, rfl, hv1⟩, hb1⟩
    have HX1 := Lib.hid (HX.out.next (Keep6.below hb1))
    have HT1 := Lib.hid (HT.out.below hb1)
    clear hb1 HX HT HV
    obtain ⟨A1, k1, rfl, hk1, hl1⟩ := hv1
    have hb2 := box_below w1 (.cells #[.slice A1 (takeF (encR L) (x, n)).1.length k1] 28)
    have HL2 := Lib.hid (hl1.below hb2)
    have HX2 := Lib.hid (HX1.out.next (Keep6.below hb2))
    have HT2 := Lib.hid (HT1.out.below hb2)
    have hB := Blk.new w1 28 #[.slice A1 (takeF (encR L) (x, n)).1.length k1]
    have hBg : W.heap.size + 3 ≤ w1.heap.size := by have := HX1.out.b7.lt; omega
    have HB2 := Lib.hid hB
    have HP := Lib.hid (fun V hV => takeS_any x n x0 x1 w g L hcap V hV)
    have HK1 := Lib.hid hk1
    clear hb2 hl1 HX1 HT1 hB hk1
    obtain ⟨q, hq⟩ : ∃ q, takeF (encR L) (x, n) = q := ⟨_, rfl⟩
    rw [hq] at HP HL2 HB2 HK1 HX2 HT2 ⊢
    obtain ⟨ql, q1, q2, q3⟩ := q
    dsimp only at HP HL2 HB2 HK1 HX2 HT2 ⊢
    clear hq
    have m1 := HX2.out.b5.cell 1
    have m2 := HX2.out.b5.cell 2
    simp only [List.getElem?_toArray, List.getElem?_cons_zero, List.getElem?_cons_succ] at m1 m2
    go_wp2_with fail
    refine (HP.out _ HT2.out).mono ?_
    rintro e w3 ⟨rfl, L', hT3, hE, hl3, hk3⟩
    subst hE
    have HS3 : Hid (S8 w W g L' A1 k1 w1.heap.size (.slice A (encR L).length k) c x n u w3) := Lib.hid (And.intro ⟨_, _, _, HX2.out.next hk3⟩ (And.intro (hk3.only.blk HB2.out (by decide) (by decide)) (And.intro hT3 (hk3.rows _ _ HL2.out))))
    have HL3 := Lib.hid hl3
    clear hT3 hl3 hk3 HX2 HB2 HL2 HT2 HP m1 m2
    go_wp2_with fail
    have hs0 : S8 w W g L' A1 k1 w1.heap.size (.slice A (encR L).length k) c x n u w3.drew := HS3.out.below (below_drew w3)
    clear HS3
    refine wp_region_noPanic ?_
    refine wp_region_held_drew (S := S8 w W g L' A1 k1 w1.heap.size (.slice A (encR L).length k) c x n u) (by kernel_rfl) hs0 ?_
    intro _
    generalize w3.drew = w4 at *
    refine wpAnyH_take (i := 0) (v := ?v5q5) (by rw [List.getElem?_toArray]; exact rfl) (by kernel_rfl) (by kernel_rfl) (by kernel_rfl) (fun _ _ _ h => h) (Or.inl ⟨by rfl, ?hy5q5⟩) (by assumption) ?rest5q5
    case hy5q5 => intro w hSw; (try dsimp only at hSw); have k9 := hSw.box; go_simp; (try with_reducible rfl)
    try simp only [Act.put, List.setIfInBounds_toArray, List.set_cons_zero, List.set_cons_succ]
    refine wpAnyH_take (i := 1) (v := ?v6q5) (by rw [List.getElem?_toArray]; exact rfl) (by kernel_rfl) (by kernel_rfl) (by kernel_rfl) (fun _ _ _ h => h) (Or.inl ⟨by rfl, ?hy6q5⟩) (by assumption) ?rest6q5
    case hy6q5 => intro w hSw; (try dsimp only at hSw); have k9 := hSw.box; go_simp; (try with_reducible rfl)
    try simp only [Act.put, List.setIfInBounds_toArray, List.set_cons_zero, List.set_cons_succ]
    refine wpAnyH_take (i := 2) (v := ?v7q5) (by rw [List.getElem?_toArray]; exact rfl) (by kernel_rfl) (by kernel_rfl) (by kernel_rfl) (fun _ _ _ h => h) (Or.inl ⟨by rfl, ?hy7q5⟩) (by assumption) ?rest7q5
    case hy7q5 => intro w hSw; (try dsimp only at hSw); have k9 := hSw.box; go_simp; (try with_reducible rfl)
    try simp only [Act.put, List.setIfInBounds_toArray, List.set_cons_zero, List.set_cons_succ]
    refine wpAnyH_take (i := 3) (v := ?v8q5) (by rw [List.getElem?_toArray]; exact rfl) (by kernel_rfl) (by kernel_rfl) (by kernel_rfl) (fun _ _ _ h => h) (Or.inl ⟨by rfl, ?hy8q5⟩) (by assumption) ?rest8q5
    case hy8q5 => intro w hSw; (try dsimp only at hSw); have k9 := hSw.box; go_simp; (try with_reducible rfl)
    try simp only [Act.put, List.setIfInBounds_toArray, List.set_cons_zero, List.set_cons_succ]
    refine wpAnyH_take (i := 4) (v := ?v9q5) (by rw [List.getElem?_toArray]; exact rfl) (by kernel_rfl) (by kernel_rfl) (by kernel_rfl) (fun _ _ _ h => h) (Or.inl ⟨by rfl, ?hy9q5⟩) (by assumption) ?rest9q5
    case hy9q5 => intro w hSw; (try dsimp only at hSw); have k9 := hSw.box; go_simp; (try with_reducible rfl)
    try simp only [Act.put, List.setIfInBounds_toArray, List.set_cons_zero, List.set_cons_succ]
    refine wpAnyH_take (i := 5) (v := ?v10q5) (by rw [List.getElem?_toArray]; exact rfl) (by kernel_rfl) (by kernel_rfl) (by kernel_rfl) (fun _ _ _ h => h) (Or.inl ⟨by rfl, ?hy10q5⟩) (by assumption) ?rest10q5
    case hy10q5 => intro w hSw; (try dsimp only at hSw); have k9 := hSw.box; go_simp; (try with_reducible rfl)
    try simp only [Act.put, List.setIfInBounds_toArray, List.set_cons_zero, List.set_cons_succ]
    refine wpAnyH_take (i := 6) (v := ?v11q5) (by rw [List.getElem?_toArray]; exact rfl) (by kernel_rfl) (by kernel_rfl) (by kernel_rfl) (fun _ _ _ h => h) (Or.inl ⟨by rfl, ?hy11q5⟩) (by assumption) ?rest11q5
    case hy11q5 => intro w hSw; (try dsimp only at hSw); have k9 := hSw.box; go_simp; (try with_reducible rfl)
    try simp only [Act.put, List.setIfInBounds_toArray, List.set_cons_zero, List.set_cons_succ]
    refine wpAnyH_take (i := 7) (v := ?v12q5) (by rw [List.getElem?_toArray]; exact rfl) (by kernel_rfl) (by kernel_rfl) (by kernel_rfl) (fun _ _ _ h => h) (Or.inl ⟨by rfl, ?hy12q5⟩) (by assumption) ?rest12q5
    case hy12q5 => intro w hSw; (try dsimp only at hSw); have k9 := hSw.box; go_simp; (try with_reducible rfl)
    try simp only [Act.put, List.setIfInBounds_toArray, List.set_cons_zero, List.set_cons_succ]
    refine wpAnyH_take (i := 8) (v := ?v13q5) (by rw [List.getElem?_toArray]; exact rfl) (by kernel_rfl) (by kernel_rfl) (by kernel_rfl) (fun _ _ _ h => h) (Or.inl ⟨by rfl, ?hy13q5⟩) (by assumption) ?rest13q5
    case hy13q5 => intro w hSw; (try dsimp only at hSw); have k9 := hSw.box; go_simp; (try with_reducible rfl)
    try simp only [Act.put, List.setIfInBounds_toArray, List.set_cons_zero, List.set_cons_succ]
    refine wpAnyH_take (i := 9) (v := ?v14q5) (by rw [List.getElem?_toArray]; exact rfl) (by kernel_rfl) (by kernel_rfl) (by kernel_rfl) (fun _ _ _ h => h) (Or.inl ⟨by rfl, ?hy14q5⟩) (by assumption) ?rest14q5
    case hy14q5 => intro w hSw; (try dsimp only at hSw); have k9 := hSw.box; go_simp; (try with_reducible rfl)
    try simp only [Act.put, List.setIfInBounds_toArray, List.set_cons_zero, List.set_cons_succ]
    refine wpAnyH_take (i := 10) (v := ?v15q5) (by rw [List.getElem?_toArray]; exact rfl) (by kernel_rfl) (by kernel_rfl) (by kernel_rfl) (fun _ _ _ h => h) (Or.inl ⟨by rfl, ?hy15q5⟩) (by assumption) ?rest15q5
    case hy15q5 => intro w hSw; (try dsimp only at hSw); have k9 := hSw.box; go_simp; (try with_reducible rfl)
    try simp only [Act.put, List.setIfInBounds_toArray, List.set_cons_zero, List.set_cons_succ]
    refine wpAnyH_take (i := 11) (v := ?v16q5) (by rw [List.getElem?_toArray]; exact rfl) (by kernel_rfl) (by kernel_rfl) (by kernel_rfl) (fun _ _ _ h => h) (Or.inl ⟨by rfl, ?hy16q5⟩) (by assumption) ?rest16q5
    case hy16q5 => intro w hSw; (try dsimp only at hSw); have k9 := hSw.box; go_simp; (try with_reducible rfl)
    try simp only [Act.put, List.setIfInBounds_toArray, List.set_cons_zero, List.set_cons_succ]
    refine wpAnyH_take (i := 13) (v := ?v17q5) (by rw [List.getElem?_toArray]; exact rfl) (by kernel_rfl) (by kernel_rfl) (by kernel_rfl) (fun _ _ _ h => h) (Or.inl ⟨by rfl, ?hy17q5⟩) (by assumption) ?rest17q5
    case hy17q5 => intro w hSw; (try dsimp only at hSw); have k9 := hSw.box; go_simp; (try with_reducible rfl)
    try simp only [Act.put, List.setIfInBounds_toArray, List.set_cons_zero, List.set_cons_succ]
    refine ready_call (i := 12) (by kernel_rfl) (by rw [List.getElem?_toArray]; exact rfl) (by kernel_rfl) (fun K1 hK1 => ?_)
    go_simp
    refine (num6_any q3 _).mono ?_
    rintro e wx ⟨rfl, rfl⟩
    go_simp
    refine hK1.out _ _ hs0 (fun _ => ?_)
    clear hK1 K1
    try simp only [Act.put, List.setIfInBounds_toArray, List.set_cons_zero, List.set_cons_succ]
    refine wpAnyH_take (i := 14) (v := ?v2q5) (by rw [List.getElem?_toArray]; exact rfl) (by kernel_rfl) (by kernel_rfl) (by kernel_rfl) (fun _ _ _ h => h) (Or.inl ⟨by rfl, ?hy2q5⟩) (by assumption) ?rest2q5
    case hy2q5 => intro w hSw; (try dsimp only at hSw); have k9 := hSw.box; go_simp; (try with_reducible rfl)
    try simp only [Act.put, List.setIfInBounds_toArray, List.set_cons_zero, List.set_cons_succ]
    refine wpAnyH_take (i := 15) (v := ?v3q5) (by rw [List.getElem?_toArray]; exact rfl) (by kernel_rfl) (by kernel_rfl) (by kernel_rfl) (fun _ _ _ h => h) (Or.inl ⟨by rfl, ?hy3q5⟩) (by assumption) ?rest3q5
    case hy3q5 => intro w hSw; (try dsimp only at hSw); have k9 := hSw.box; go_simp; (try with_reducible rfl)
    try simp only [Act.put, List.setIfInBounds_toArray, List.set_cons_zero, List.set_cons_succ]
    refine wpAnyH_take (i := 16) (v := ?v4q5) (by rw [List.getElem?_toArray]; exact rfl) (by kernel_rfl) (by kernel_rfl) (by kernel_rfl) (fun _ _ _ h => h) (Or.inl ⟨by rfl, ?hy4q5⟩) (by assumption) ?rest4q5
    case hy4q5 => intro w hSw; (try dsimp only at hSw); have k9 := hSw.box; go_simp; (try with_reducible rfl)
    try simp only [Act.put, List.setIfInBounds_toArray, List.set_cons_zero, List.set_cons_succ]
    refine ready_call (i := 17) (by kernel_rfl) (by rw [List.getElem?_toArray]; exact rfl) (by kernel_rfl) (fun K1 hK1 => ?_)
    obtain ⟨⟨z7, c7⟩, f7⟩ := hs0.can
    have HN := Lib.hid (hs0.told HW.out.size hBg)
    go_simp
    refine hK1.out _ _ HN.out.1 (fun _ => ?_)
    clear hK1 K1 c7 f7
    try simp only [Act.put, List.setIfInBounds_toArray, List.set_cons_zero, List.set_cons_succ]
    generalize (w4.setCell ⟨W.heap.size + 1 + 1, 0, none⟩ (.slice A1 (encR L').length k1)) = w5 at *
    have hs1 := HN.out.1
    refine wpAnyH_take (i := 18) (v := ?v1q5) (by rw [List.getElem?_toArray]; exact rfl) (by kernel_rfl) (by kernel_rfl) (by kernel_rfl) (fun _ _ _ h => h) (Or.inl ⟨by rfl, ?hy1q5⟩) (by assumption) ?rest1q5
    case hy1q5 => intro w hSw; (try dsimp only at hSw); have k9 := hSw.box; go_simp; (try with_reducible rfl)
    try simp only [Act.put, List.setIfInBounds_toArray, List.set_cons_zero, List.set_cons_succ]
    refine wpAnyH_done (by kernel_rfl) ?_ _
    refine NoPanic.normal ?_
    have c7 := HN.out.2
    go_wp2_with fail
    obtain ⟨⟨a9, m9, k9, h9⟩, h10, h11, h12⟩ := hs1
    exact bodyPost_ret (v := .tuple #[.pointer (some ⟨g, 0, none⟩), .agg #[.slice A1 (encR L').length k1], .bool true]) (by simp [results, Try.results11, go_sem, c7]) rfl ⟨g, _, L', rfl, h11, ⟨A1, k1, rfl, HK1.out, h12⟩, HL3.out, h9.keep⟩
  · have hs0 : S9 W A (encR L).length k c x n u w g L W3.drew := S9.below ⟨⟨_, _, _, HX.out⟩, HT.out, HV.out⟩ (below_drew W3)
    clear HX HT HV
    refine wp_region_noPanic ?_
    refine wp_region_held_drew (S := S9 W A (encR L).length k c x n u w g L) (by kernel_rfl) hs0 ?_
    intro _
    generalize W3.drew = w4 at *
    refine wpAnyH_take (i := 0) (v := ?v20q6) (by rw [List.getElem?_toArray]; exact rfl) (by kernel_rfl) (by kernel_rfl) (by kernel_rfl) (fun _ _ _ h => h) (Or.inl ⟨by rfl, ?hy20q6⟩) (by assumption) ?rest20q6
    case hy20q6 => intro w hSw; (try dsimp only at hSw); have k9 := hSw.box; go_simp; (try with_reducible rfl)
    try simp only [Act.put, List.setIfInBounds_toArray, List.set_cons_zero, List.set_cons_succ]
    refine wpAnyH_take (i := 2) (v := ?v21q6) (by rw [List.getElem?_toArray]; exact rfl) (by kernel_rfl) (by kernel_rfl) (by kernel_rfl) (fun _ _ _ h => h) (Or.inl ⟨by rfl, ?hy21q6⟩) (by assumption) ?rest21q6
    case hy21q6 => intro w hSw; (try dsimp only at hSw); have k9 := hSw.box; go_simp; (try with_reducible rfl)
    try simp only [Act.put, List.setIfInBounds_toArray, List.set_cons_zero, List.set_cons_succ]
    refine ready_call (i := 1) (by kernel_rfl) (by rw [List.getElem?_toArray]; exact rfl) (by kernel_rfl) (fun K1 hK1 => ?_)
    go_simp
    refine (copyT_any w g L hcap w4 hs0.2.1).mono ?_
    rintro e w5 ⟨g', rfl, hO, hb5⟩
    go_simp
    have hs1 := hs0.below hb5
    have hbel := hs0.2.1.bel
    have HO := Lib.hid (hO.low hbel)
    clear hO hb5 hbel
    refine hK1.out _ _ hs1 (fun _ => ?_)
    clear hK1 K1
    try simp only [Act.put, List.setIfInBounds_toArray, List.set_cons_zero, List.set_cons_succ]
    refine wpAnyH_take (i := 3) (v := ?v18q6) (by rw [List.getElem?_toArray]; exact rfl) (by kernel_rfl) (by kernel_rfl) (by kernel_rfl) (fun _ _ _ h => h) (Or.inl ⟨by rfl, ?hy18q6⟩) (by assumption) ?rest18q6
    case hy18q6 => intro w hSw; (try dsimp only at hSw); have k9 := hSw.box; go_simp; (try with_reducible rfl)
    try simp only [Act.put, List.setIfInBounds_toArray, List.set_cons_zero, List.set_cons_succ]
    refine ready_call (i := 4) (by kernel_rfl) (by rw [List.getElem?_toArray]; exact rfl) (by kernel_rfl) (fun K1 hK1 => ?_)
    obtain ⟨⟨z7, c7⟩, f7⟩ := hs1.can
    have HN := Lib.hid (hs1.told HW.out.size)
    go_simp
    refine hK1.out _ _ HN.out.1 (fun _ => ?_)
    clear hK1 K1 c7 f7
    try simp only [Act.put, List.setIfInBounds_toArray, List.set_cons_zero, List.set_cons_succ]
    have HO2 := Lib.hid (HN.out.2.2 g' L HO.out)
    generalize (w5.setCell ⟨W.heap.size + 1 + 1, 0, none⟩ (.slice A (encR L).length k)) = w6 at *
    have hs2 := HN.out.1
    clear hs0 hs1
    refine wpAnyH_take (i := 5) (v := ?v19q6) (by rw [List.getElem?_toArray]; exact rfl) (by kernel_rfl) (by kernel_rfl) (by kernel_rfl) (fun _ _ _ h => h) (Or.inl ⟨by rfl, ?hy19q6⟩) (by assumption) ?rest19q6
    case hy19q6 => intro w hSw; (try dsimp only at hSw); have k9 := hSw.box; go_simp; (try with_reducible rfl)
    try simp only [Act.put, List.setIfInBounds_toArray, List.set_cons_zero, List.set_cons_succ]
    refine wpAnyH_done (by kernel_rfl) ?_ _
    refine NoPanic.normal ?_
    have c7 := HN.out.2.1
    go_wp2_with fail
    obtain ⟨⟨a9, m9, k9, h9⟩, h10, h11⟩ := hs2
    exact bodyPost_ret (v := .tuple #[.pointer (some ⟨g', 0, none⟩), .agg #[.slice A (encR L).length k], .bool true]) (by simp [results, Try.results11, go_sem, c7]) rfl ⟨g', _, L, rfl, HO2.out, ⟨A, k, rfl, hk, h11⟩, hcap, h9.keep⟩
end T6
end Go.Proofs.Ytghkacciihocdaa

namespace Go.Proofs.Ytghkacciihocdaa
open Go Go.RowKit Go.Shelf Go.Sort
attribute [local go_sem] Oper.semAt_some
attribute [local irreducible] wpQuiet
namespace T6

abbrev Act6 := Int × Int × Int × Int
def ActsS (w : World) (A : Option Addr) (l : List Act6) : Prop := 0 < l.length → ∃ b o, A = some ⟨b, o, none⟩ ∧ b < w.heap.size ∧ ∀ j (hj : j < l.length),
  w.cell? ⟨b, o + j * 4, none⟩ = some (.int .i64 (l[j]'hj).1) ∧ w.cell? ⟨b, o + j * 4 + 1, none⟩ = some (.int .u32 (l[j]'hj).2.1) ∧ w.cell? ⟨b, o + j * 4 + 2, none⟩ = some (.int .i64 (l[j]'hj).2.2.1) ∧ w.cell? ⟨b, o + j * 4 + 3, none⟩ = some (.int .i64 (l[j]'hj).2.2.2)
theorem ActsS.below {w w' : World} {A : Option Addr} {l : List Act6} (h : ActsS w A l) (hb : Below w.heap.size w w') : ActsS w' A l := fun hn => by
  obtain ⟨b, o, e, hlt, hc⟩ := h hn
  have e2 : ∀ i, w'.cell? ⟨b, i, none⟩ = w.cell? ⟨b, i, none⟩ := fun i => hb.cell (p := ⟨b, i, none⟩) hlt
  exact ⟨b, o, e, by have := hb.size; omega, fun j hj => by rw [e2, e2, e2, e2]; exact hc j hj⟩
/-- Both sides, behind calls: the trie, the list in its box, the box for the answer. -/
structure Ply (w : World) (B : Nat) (g : Nat) (L : List (Key × Int)) (A1 : Option Addr) (k1 : Nat) (W : World) : Prop where
  own : OwnT w g L W
  cap : L.length ≤ 512
  rows : LiesS W A1 (rowCs (encR L))
  fit : (encR L).length ≤ k1
  b6 : Blk W B 28 #[.slice A1 (encR L).length k1]
  b3 : Blk W w.heap.size 28 #[.slice none 0 0]
  lo : w.heap.size < B
theorem Ply.below {w : World} {B g : Nat} {L : List (Key × Int)} {A1 : Option Addr} {k1 : Nat} {W W' : World} (h : Ply w B g L A1 k1 W) (hb : Below W.heap.size W W') : Ply w B g L A1 k1 W' :=
  ⟨h.own.below hb, h.cap, h.rows.below hb, h.fit, h.b6.below hb h.b6.lt, h.b3.below hb h.b3.lt, h.lo⟩
set_option maxRecDepth 100000 in
set_option maxHeartbeats 6400000 in
theorem played_any (A : Option Addr) (c : Nat) (l : List Act6) (hl : ∀ p ∈ l, 0 ≤ p.2.1 ∧ p.2.1 < 4294967296) (hlen : l.length ≤ 40) (w : World) (hA : ActsS w A l) :
    Calls Try.prog 15 #[.slice A l.length c] w fun e w' => ∃ g v L, e = .returned (.tuple #[.pointer (some ⟨g, 0, none⟩), v, .bool true]) ∧ OwnT w g L w' ∧ TrieV w' v (encR L) ∧ L.length ≤ 512 := by
  have HA := Lib.hid (fun (V : World) (hV : Below w.heap.size w V) => hA.below hV)
  have HL := Lib.hid hl
  have hbx := box_below w (.cells #[.slice none 0 0] 28)
  have HB3 := Lib.hid (Blk.new w 28 #[.slice none 0 0])
  have HN := Lib.hid (newT_any w _ hbx)
  clear hA hl hbx
  go_enter Try.func15, Try.ntmps15
  go_wp2_with fail
  generalize (w.alloc (.cells #[.slice none 0 0] 28)) = w1 at *
  refine HN.out.mono ?_
  rintro e w2 ⟨rfl, ho, hb⟩
  have hb2 := box_below w2 (.cells #[.slice none 0 0] 28)
  have hB3 := (HB3.out.below hb HB3.out.lt).below hb2 (by have := (HB3.out.below hb HB3.out.lt).lt; exact this)
  have hlo : w.heap.size < w2.heap.size := by have := (HB3.out.below hb HB3.out.lt).lt; exact this
  have HP0 : Hid (Ply w w2.heap.size w1.heap.size [] none 0 (w2.alloc (.cells #[.slice none 0 0] 28))) := Lib.hid ⟨ho.below hb2, by decide, LiesS.nil _ _, by simp [encR], Blk.new w2 _ _, hB3, hlo⟩
  clear HN HB3 ho hb hb2 hB3 hlo
  go_wp2_with fail
  generalize (w2.alloc (.cells #[.slice none 0 0] 28)) = w3 at *
  generalize w1.heap.size = g0 at *
  generalize w2.heap.size = B at *
  go_loopw [5, 7, 8] (fun t f i wr => ∃ (k g : Nat) (L : List (Key × Int)) (A1 : Option Addr) (k1 : Nat), k ≤ l.length ∧ i = .int .i64 k ∧ f = .bool true ∧ t = .pointer (some ⟨g, 0, none⟩) ∧ Hid (Ply w B g L A1 k1 wr)) (fun _ _ i _ => l.length - (intOf i).toNat)
  case atStart => exact ⟨0, g0, [], none, 0, by omega, rfl, rfl, rfl, HP0⟩
  case round =>
    clear HP0
    obtain ⟨k, g, L, A1, k1, hk, rfl, rfl, rfl, HP⟩ := hrel
    by_cases hlt : k < l.length
    · have hlt2 : (k : Int) < (l.length : Int) := by omega
      have hk40 : (k : Int) ≤ 40 := by omega
      have hk0 : (0 : Int) ≤ (k : Int) := by omega
      obtain ⟨b, o, rfl, hb, _⟩ := HA.out wr HP.out.own.bel (by omega)
      have hxr := HL.out _ (List.getElem_mem hlt)
      have HC : Hid (∀ V, Below w.heap.size w V → V.cell? ⟨b, o + k * 4, none⟩ = some (.int .i64 (l[k]'hlt).1) ∧ V.cell? ⟨b, o + k * 4 + 1, none⟩ = some (.int .u32 (l[k]'hlt).2.1) ∧ V.cell? ⟨b, o + k * 4 + 2, none⟩ = some (.int .i64 (l[k]'hlt).2.2.1) ∧ V.cell? ⟨b, o + k * 4 + 3, none⟩ = some (.int .i64 (l[k]'hlt).2.2.2)) := Lib.hid (fun V hV => by
        obtain ⟨b', o', e', _, hc'⟩ := HA.out V hV (by omega)
        cases e'
        exact hc' k hlt)
      generalize (l[k]'hlt) = p at *
      obtain ⟨pc, px, pn, pu⟩ := p
      dsimp only at HC hxr
      have HAC := Lib.hid (fun V hV hA => act_any pc px pn pu hxr.1 hxr.2 w g L HP.out.cap V hV A1 k1 HP.out.fit hA)
      clear hb
      go_wp2_with fail
      have hs0 : Below w.heap.size w wr.drew := HP.out.own.bel.trans ((below_drew wr).mono HP.out.own.bel.size)
      have HP1 := Lib.hid (HP.out.below (below_drew wr))
      clear HP
      refine wp_region_noPanic ?_
      refine wp_region_held_drew (S := fun V => Below w.heap.size w V) (by kernel_rfl) hs0 ?_
      intro _
      generalize wr.drew = w4 at *
      refine wpAnyH_take (i := 0) (v := ?v1) (by rw [List.getElem?_toArray]; exact rfl) (by kernel_rfl) (by kernel_rfl) (by kernel_rfl) (fun _ _ _ h => h) (Or.inl ⟨by rfl, ?hy1⟩) (by assumption) ?rest1
      case hy1 => intro w hSw; (try dsimp only at hSw); obtain ⟨p0, p1, p2, p3⟩ := HC.out w hSw; go_simp; (try with_reducible rfl)
      try simp only [Act.put, List.setIfInBounds_toArray, List.set_cons_zero, List.set_cons_succ]
      refine wpAnyH_take (i := 2) (v := ?v2) (by rw [List.getElem?_toArray]; exact rfl) (by kernel_rfl) (by kernel_rfl) (by kernel_rfl) (fun _ _ _ h => h) (Or.inl ⟨by rfl, ?hy2⟩) (by assumption) ?rest2
      case hy2 => intro w hSw; (try dsimp only at hSw); obtain ⟨p0, p1, p2, p3⟩ := HC.out w hSw; go_simp; (try with_reducible rfl)
      try simp only [Act.put, List.setIfInBounds_toArray, List.set_cons_zero, List.set_cons_succ]
      refine wpAnyH_take (i := 3) (v := ?v3) (by rw [List.getElem?_toArray]; exact rfl) (by kernel_rfl) (by kernel_rfl) (by kernel_rfl) (fun _ _ _ h => h) (Or.inl ⟨by rfl, ?hy3⟩) (by assumption) ?rest3
      case hy3 => intro w hSw; (try dsimp only at hSw); obtain ⟨p0, p1, p2, p3⟩ := HC.out w hSw; go_simp; (try with_reducible rfl)
      try simp only [Act.put, List.setIfInBounds_toArray, List.set_cons_zero, List.set_cons_succ]
      refine wpAnyH_take (i := 4) (v := ?v4) (by rw [List.getElem?_toArray]; exact rfl) (by kernel_rfl) (by kernel_rfl) (by kernel_rfl) (fun _ _ _ h => h) (Or.inl ⟨by rfl, ?hy4⟩) (by assumption) ?rest4
      case hy4 => intro w hSw; (try dsimp only at hSw); obtain ⟨p0, p1, p2, p3⟩ := HC.out w hSw; go_simp; (try with_reducible rfl)
      try simp only [Act.put, List.setIfInBounds_toArray, List.set_cons_zero, List.set_cons_succ]
      refine wpAnyH_take (i := 5) (v := ?v5) (by rw [List.getElem?_toArray]; exact rfl) (by kernel_rfl) (by kernel_rfl) (by kernel_rfl) (fun _ _ _ h => h) (Or.inl ⟨by rfl, ?hy5⟩) (by assumption) ?rest5
      case hy5 => intro w hSw; (try dsimp only at hSw); obtain ⟨p0, p1, p2, p3⟩ := HC.out w hSw; go_simp; (try with_reducible rfl)
      try simp only [Act.put, List.setIfInBounds_toArray, List.set_cons_zero, List.set_cons_succ]
      refine ready_call (i := 1) (by kernel_rfl) (by rw [List.getElem?_toArray]; exact rfl) (by kernel_rfl) (fun K1 hK1 => ?_)
      have c6 : w4.cell? ⟨B, 0, none⟩ = some (.slice A1 (encR L).length k1) := HP1.out.b6.cell 0
      go_simp
      refine hK1.out _ _ hs0 (fun _ => ?_)
      clear hK1 K1
      try simp only [Act.put, List.setIfInBounds_toArray, List.set_cons_zero, List.set_cons_succ]
      refine ready_call (i := 6) (by kernel_rfl) (by rw [List.getElem?_toArray]; exact rfl) (by kernel_rfl) (fun K1 hK1 => ?_)
      clear c6
      go_simp
      refine (HAC.out w4 HP1.out.own HP1.out.rows).mono ?_
      rintro e w5 ⟨g', v', L', rfl, hO, ⟨A2, k2, rfl, hk2, hr2⟩, hc2, hkp⟩
      go_simp
      have hs1 : Below w.heap.size w w5 := hO.bel
      have HQ : Hid (OwnT w g' L' w5 ∧ LiesS w5 A2 (rowCs (encR L')) ∧ (encR L').length ≤ k2 ∧ L'.length ≤ 512 ∧ Blk w5 B 28 #[.slice A1 (encR L).length k1] ∧ Blk w5 w.heap.size 28 #[.slice none 0 0] ∧ w.heap.size < B) := Lib.hid ⟨hO, hr2, hk2, hc2, hkp.only.blk HP1.out.b6 (by decide) (by decide), hkp.only.blk HP1.out.b3 (by decide) (by decide), HP1.out.lo⟩
      clear hO hr2 hk2 hc2 hkp HP1 HAC
      refine hK1.out _ _ hs1 (fun _ => ?_)
      clear hK1 K1
      try simp only [Act.put, List.setIfInBounds_toArray, List.set_cons_zero, List.set_cons_succ]
      refine wpAnyH_take (i := 7) (v := ?v6) (by rw [List.getElem?_toArray]; exact rfl) (by kernel_rfl) (by kernel_rfl) (by kernel_rfl) (fun _ _ _ h => h) (Or.inl ⟨by rfl, ?hy6⟩) (by assumption) ?rest6
      case hy6 => intro w hSw; (try dsimp only at hSw); go_simp; (try with_reducible rfl)
      try simp only [Act.put, List.setIfInBounds_toArray, List.set_cons_zero, List.set_cons_succ]
      refine wpAnyH_take (i := 8) (v := ?v7) (by rw [List.getElem?_toArray]; exact rfl) (by kernel_rfl) (by kernel_rfl) (by kernel_rfl) (fun _ _ _ h => h) (Or.inl ⟨by rfl, ?hy7⟩) (by assumption) ?rest7
      case hy7 => intro w hSw; (try dsimp only at hSw); go_simp; (try with_reducible rfl)
      try simp only [Act.put, List.setIfInBounds_toArray, List.set_cons_zero, List.set_cons_succ]
      refine wpAnyH_take (i := 9) (v := ?v8) (by rw [List.getElem?_toArray]; exact rfl) (by kernel_rfl) (by kernel_rfl) (by kernel_rfl) (fun _ _ _ h => h) (Or.inl ⟨by rfl, ?hy8⟩) (by assumption) ?rest8
      case hy8 => intro w hSw; (try dsimp only at hSw); go_simp; (try with_reducible rfl)
      try simp only [Act.put, List.setIfInBounds_toArray, List.set_cons_zero, List.set_cons_succ]
      refine wpAnyH_take (i := 10) (v := ?v9) (by rw [List.getElem?_toArray]; exact rfl) (by kernel_rfl) (by kernel_rfl) (by kernel_rfl) (fun _ _ _ h => h) (Or.inl ⟨by rfl, ?hy9⟩) (by assumption) ?rest9
      case hy9 => intro w hSw; (try dsimp only at hSw); go_simp; (try with_reducible rfl)
      try simp only [Act.put, List.setIfInBounds_toArray, List.set_cons_zero, List.set_cons_succ]
      refine wpAnyH_take (i := 11) (v := ?v10) (by rw [List.getElem?_toArray]; exact rfl) (by kernel_rfl) (by kernel_rfl) (by kernel_rfl) (fun _ _ _ h => h) (Or.inl ⟨by rfl, ?hy10⟩) (by assumption) ?rest10
      case hy10 => intro w hSw; (try dsimp only at hSw); go_simp; (try with_reducible rfl)
      try simp only [Act.put, List.setIfInBounds_toArray, List.set_cons_zero, List.set_cons_succ]
      refine ready_call (i := 12) (by kernel_rfl) (by rw [List.getElem?_toArray]; exact rfl) (by kernel_rfl) (fun K1 hK1 => ?_)
      have c6 : w5.cell? ⟨B, 0, none⟩ = some (.slice A1 (encR L).length k1) := HQ.out.2.2.2.2.1.cell 0
      have f6 := HQ.out.2.2.2.2.1.frozen 0
      go_simp
      have HP2 : Hid (Ply w B g' L' A2 k2 (w5.setCell ⟨B, 0, none⟩ (.slice A2 (encR L').length k2))) := Lib.hid (by
        obtain ⟨q1, q2, q3, q4, q5, q6, q7⟩ := HQ.out
        have h7 := q5.set_ 0 (.slice A2 (encR L').length k2)
        exact ⟨q1.set q5 (by decide) (by decide) (by omega) 0 _, q4, rows_set q2 q5 _, q3, by simpa using h7, q6.far (by simp; omega) _, q7⟩)
      have hs2 := HP2.out.own.bel
      refine hK1.out _ _ hs2 (fun _ => ?_)
      clear hK1 K1
      try simp only [Act.put, List.setIfInBounds_toArray, List.set_cons_zero, List.set_cons_succ]
      clear c6 f6 HQ
      generalize (w5.setCell ⟨B, 0, none⟩ (.slice A2 (encR L').length k2)) = w6 at *
      refine wpAnyH_take (i := 13) (v := ?v11) (by rw [List.getElem?_toArray]; exact rfl) (by kernel_rfl) (by kernel_rfl) (by kernel_rfl) (fun _ _ _ h => h) (Or.inl ⟨by rfl, ?hy11⟩) (by assumption) ?rest11
      case hy11 => intro w hSw; (try dsimp only at hSw); go_simp; (try with_reducible rfl)
      try simp only [Act.put, List.setIfInBounds_toArray, List.set_cons_zero, List.set_cons_succ]
      refine wpAnyH_done (by kernel_rfl) ?_ _
      refine NoPanic.normal ?_
      go_wp2_with fail
      go_roundw
      case rel => exact ⟨k + 1, g', L', A2, k2, by omega, by go_num, rfl, rfl, HP2⟩
      case measure => simp [intOf] <;> omega
    · obtain rfl : k = l.length := by omega
      have hlt2 : ¬ (l.length : Int) < (l.length : Int) := by omega
      go_wp2_with fail
      have hs0 : Below w.heap.size w wr.drew := HP.out.own.bel.trans ((below_drew wr).mono HP.out.own.bel.size)
      have HP1 := Lib.hid (HP.out.below (below_drew wr))
      clear HP
      refine wp_region_noPanic ?_
      refine wp_region_held_drew (S := fun V => Below w.heap.size w V) (by kernel_rfl) hs0 ?_
      intro _
      generalize wr.drew = w4 at *
      refine wpAnyH_take (i := 0) (v := ?v12) (by rw [List.getElem?_toArray]; exact rfl) (by kernel_rfl) (by kernel_rfl) (by kernel_rfl) (fun _ _ _ h => h) (Or.inl ⟨by rfl, ?hy12⟩) (by assumption) ?rest12
      case hy12 => intro w hSw; (try dsimp only at hSw); go_simp; (try with_reducible rfl)
      try simp only [Act.put, List.setIfInBounds_toArray, List.set_cons_zero, List.set_cons_succ]
      refine wpAnyH_take (i := 2) (v := ?v13) (by rw [List.getElem?_toArray]; exact rfl) (by kernel_rfl) (by kernel_rfl) (by kernel_rfl) (fun _ _ _ h => h) (Or.inl ⟨by rfl, ?hy13⟩) (by assumption) ?rest13
      case hy13 => intro w hSw; (try dsimp only at hSw); go_simp; (try with_reducible rfl)
      try simp only [Act.put, List.setIfInBounds_toArray, List.set_cons_zero, List.set_cons_succ]
      refine wpAnyH_take (i := 3) (v := ?v14) (by rw [List.getElem?_toArray]; exact rfl) (by kernel_rfl) (by kernel_rfl) (by kernel_rfl) (fun _ _ _ h => h) (Or.inl ⟨by rfl, ?hy14⟩) (by assumption) ?rest14
      case hy14 => intro w hSw; (try dsimp only at hSw); go_simp; (try with_reducible rfl)
      try simp only [Act.put, List.setIfInBounds_toArray, List.set_cons_zero, List.set_cons_succ]
      refine ready_call (i := 1) (by kernel_rfl) (by rw [List.getElem?_toArray]; exact rfl) (by kernel_rfl) (fun K1 hK1 => ?_)
      have c6 : w4.cell? ⟨B, 0, none⟩ = some (.slice A1 (encR L).length k1) := HP1.out.b6.cell 0
      go_simp
      refine hK1.out _ _ hs0 (fun _ => ?_)
      clear hK1 K1
      try simp only [Act.put, List.setIfInBounds_toArray, List.set_cons_zero, List.set_cons_succ]
      refine ready_call (i := 4) (by kernel_rfl) (by rw [List.getElem?_toArray]; exact rfl) (by kernel_rfl) (fun K1 hK1 => ?_)
      have c3 : w4.cell? ⟨w.heap.size, 0, none⟩ = some (.slice none 0 0) := HP1.out.b3.cell 0
      have f3 := HP1.out.b3.frozen 0
      go_simp
      have HQ : Hid (OwnT w g L (w4.setCell ⟨w.heap.size, 0, none⟩ (.slice A1 (encR L).length k1)) ∧ TrieV (w4.setCell ⟨w.heap.size, 0, none⟩ (.slice A1 (encR L).length k1)) (.agg #[.slice A1 (encR L).length k1]) (encR L) ∧ (w4.setCell ⟨w.heap.size, 0, none⟩ (.slice A1 (encR L).length k1)).cell? ⟨w.heap.size, 0, none⟩ = some (.slice A1 (encR L).length k1)) := Lib.hid ⟨HP1.out.own.set HP1.out.b3 (by decide) (by decide) (by omega) 0 _, ⟨A1, k1, rfl, HP1.out.fit, rows_set HP1.out.rows HP1.out.b3 _⟩, by
        have := (HP1.out.b3.set_ 0 (.slice A1 (encR L).length k1)).cell 0
        simpa using this⟩
      have HCP := Lib.hid HP1.out.cap
      have hs2 := HQ.out.1.bel
      refine hK1.out _ _ hs2 (fun _ => ?_)
      clear hK1 K1
      try simp only [Act.put, List.setIfInBounds_toArray, List.set_cons_zero, List.set_cons_succ]
      clear c6 c3 f3 HP1
      generalize (w4.setCell ⟨w.heap.size, 0, none⟩ (.slice A1 (encR L).length k1)) = w6 at *
      refine wpAnyH_take (i := 5) (v := ?v15) (by rw [List.getElem?_toArray]; exact rfl) (by kernel_rfl) (by kernel_rfl) (by kernel_rfl) (fun _ _ _ h => h) (Or.inl ⟨by rfl, ?hy15⟩) (by assumption) ?rest15
      case hy15 => intro w hSw; (try dsimp only at hSw); go_simp; (try with_reducible rfl)
      try simp only [Act.put, List.setIfInBounds_toArray, List.set_cons_zero, List.set_cons_succ]
      refine wpAnyH_done (by kernel_rfl) ?_ _
      refine NoPanic.normal ?_
      have c3 := HQ.out.2.2
      go_wp2_with fail
      exact bodyPost_ret (v := .tuple #[.pointer (some ⟨g, 0, none⟩), .agg #[.slice A1 (encR L).length k1], .bool true]) (by simp [results, Try.results15, go_sem, c3]) rfl ⟨g, _, L, rfl, HQ.out.1, HQ.out.2.1, HCP.out⟩
end T6
end Go.Proofs.Ytghkacciihocdaa

namespace Go.Proofs.Ytghkacciihocdaa
open Go Go.RowKit Go.Shelf Go.Sort
attribute [local go_sem] Oper.semAt_some
namespace T6

/-- What goes over a trie, and the document's rows in their box, with both arguments' boxes. -/
structure FrC (W0 : World) (x n c' x' n' u' : Int) (B bs : Nat) (As : Option Addr) (cs : Nat) (l : List Snap) (A1 : Option Addr) (k1 : Nat) (R : List Row6) (W : World) : Prop where
  b5 : Blk W W0.heap.size 34 #[.int .u32 x, .int .i64 n]
  b7 : Blk W (W0.heap.size + 1) 36 #[.int .i64 c', .int .u32 x', .int .i64 n', .int .i64 u']
  tb : Blk W bs 84 #[.slice As l.length cs]
  tl : LiesS W As (tells l)
  bB : Blk W B 28 #[.slice A1 R.length k1]
  rw : LiesS W A1 (rowCs R)
  bel : Below W0.heap.size W0 W
theorem FrC.below {W0 : World} {x n c' x' n' u' : Int} {B bs : Nat} {As : Option Addr} {cs : Nat} {l : List Snap} {A1 : Option Addr} {k1 : Nat} {R : List Row6} {W W' : World} (h : FrC W0 x n c' x' n' u' B bs As cs l A1 k1 R W) (hb : Below W.heap.size W W') : FrC W0 x n c' x' n' u' B bs As cs l A1 k1 R W' :=
  ⟨h.b5.below hb h.b5.lt, h.b7.below hb h.b7.lt, h.tb.below hb h.tb.lt, h.tl.below hb, h.bB.below hb h.bB.lt, h.rw.below hb, h.bel.trans (hb.mono h.bel.size)⟩
set_option maxRecDepth 100000 in
set_option maxHeartbeats 800000 in
theorem law06_from (A : Option Addr) (c : Nat) (l : List Act6) (hl : ∀ p ∈ l, 0 ≤ p.2.1 ∧ p.2.1 < 4294967296) (x n many c' x' n' u' : Int) (x0' : 0 ≤ x') (x1' : x' < 4294967296) (hm0 : -9223372036854775808 ≤ many) (hm1 : many ≤ 9223372036854775807) (w : World) (hA : ActsS w A l) :
    Calls Try.prog 5 #[.slice A l.length c, .agg #[.int .u32 x, .int .i64 n], .int .i64 many, .agg #[.int .i64 c', .int .u32 x', .int .i64 n', .int .i64 u']] w fun e w' => e = .returned (.bool true) ∧ Below w.heap.size w w' := by
  have hb0 := two_below w (.cells #[.int .u32 x, .int .i64 n] 34) (.cells #[.int .i64 c', .int .u32 x', .int .i64 n', .int .i64 u'] 36)
  have hx5 := (Blk.new w 34 #[.int .u32 x, .int .i64 n]).alloc (.cells #[.int .i64 c', .int .u32 x', .int .i64 n', .int .i64 u'] 36)
  have hx7 : Blk ((w.alloc (.cells #[.int .u32 x, .int .i64 n] 34)).alloc (.cells #[.int .i64 c', .int .u32 x', .int .i64 n', .int .i64 u'] 36)) (w.heap.size + 1) 36 #[.int .i64 c', .int .u32 x', .int .i64 n', .int .i64 u'] := by
    have := Blk.new (w.alloc (.cells #[.int .u32 x, .int .i64 n] 34)) 36 #[.int .i64 c', .int .u32 x', .int .i64 n', .int .i64 u']
    simpa using this
  have HX := Lib.hid (And.intro hb0 (And.intro hx5 hx7))
  have HA := Lib.hid (hA.below hb0)
  have HL := Lib.hid hl
  have HBW := Lib.hid hb0
  clear hb0 hx5 hx7 hA hl
  go_enter Try.func5, Try.ntmps5
  by_cases h40 : 40 < (l.length : Int)
  · go_wp2_with fail
    refine (works6_any _).mono ?_
    rintro e w1 ⟨rfl, hb1⟩
    have HB1 := Lib.hid (HX.out.1.trans (hb1.mono HX.out.1.size))
    clear hb1
    go_wp2_with fail
    go_ret
    exact ⟨rfl, HB1.out⟩
  have hl40 : l.length ≤ 40 := by omega
  go_wp2_with fail
  generalize ((w.alloc (.cells #[.int .u32 x, .int .i64 n] 34)).alloc (.cells #[.int .i64 c', .int .u32 x', .int .i64 n', .int .i64 u'] 36)) = w0 at *
  refine (played_any A c l HL.out hl40 w0 HA.out).mono ?_
  rintro e w1 ⟨g, v, L, rfl, hO, ⟨A1, k1, rfl, hk1, hr1⟩, hcap⟩
  have hbel := hO.bel
  have hb2 := box_below w1 (.cells #[.slice A1 (encR L).length k1] 28)
  have hbB := Blk.new w1 28 #[.slice A1 (encR L).length k1]
  have HO := Lib.hid (hO.below hb2)
  have HR := Lib.hid (hr1.below hb2)
  have HX2 : Hid (Below w.heap.size w (w1.alloc (.cells #[.slice A1 (encR L).length k1] 28)) ∧ Blk (w1.alloc (.cells #[.slice A1 (encR L).length k1] 28)) w.heap.size 34 #[.int .u32 x, .int .i64 n] ∧ Blk (w1.alloc (.cells #[.slice A1 (encR L).length k1] 28)) (w.heap.size + 1) 36 #[.int .i64 c', .int .u32 x', .int .i64 n', .int .i64 u'] ∧ Blk (w1.alloc (.cells #[.slice A1 (encR L).length k1] 28)) w1.heap.size 28 #[.slice A1 (encR L).length k1]) := Lib.hid (by
    have h0 := HX.out.1.trans (hbel.mono HX.out.1.size)
    have e5 := HX.out.2.1.below hbel HX.out.2.1.lt
    have e7 := HX.out.2.2.below hbel HX.out.2.2.lt
    exact ⟨h0.trans (hb2.mono h0.size), e5.below hb2 e5.lt, e7.below hb2 e7.lt, hbB⟩)
  have HF := Lib.hid (And.intro hcap hk1)
  clear hO hr1 hbel hb2 hbB HX HA
  have p0 := HX2.out.2.1.cell 0
  have p1 := HX2.out.2.1.cell 1
  simp only [List.getElem?_toArray, List.getElem?_cons_zero, List.getElem?_cons_succ] at p0 p1
  go_wp2_with fail
  generalize (w1.alloc (.cells #[.slice A1 (encR L).length k1] 28)) = w2 at *
  generalize w1.heap.size = B at *
  refine (fromT_any x n w0 g L HF.out.1 w2 HO.out).mono ?_
  rintro e w3 ⟨v, rfl, ⟨l', hl', bs, As, cs, rfl, ht1, ht2⟩, hb3⟩
  have hfr : FrC w x n c' x' n' u' B bs As cs l' A1 k1 (encR L) w3 := ⟨HX2.out.2.1.below hb3 HX2.out.2.1.lt, HX2.out.2.2.1.below hb3 HX2.out.2.2.1.lt, ht1, ht2, HX2.out.2.2.2.below hb3 HX2.out.2.2.2.lt, HR.out.below hb3, HX2.out.1.trans (hb3.mono HX2.out.1.size)⟩
  have HFR := Lib.hid hfr
  have HO3 := Lib.hid (HO.out.below hb3)
  have hfit := HO.out.fit
  have hsr := HO.out.srow
  have hwant := snaps_enc hl'
  rw [← from_enc hsr hfit x n] at hwant
  have hllen : l'.length ≤ 1000 := by
    have h1 := congrArg List.length hl'
    rw [List.length_map] at h1
    have h2 := List.length_filter_le (fun r : Key × Int => fromB x n r.1) L
    have := HF.out.1
    omega
  have HW := Lib.hid (And.intro hwant hllen)
  have HRF := Lib.hid (fun (V : World) (hV : LiesS V A1 (rowCs (encR L))) => refFrom_any A1 k1 (encR L) x n (by rw [encR_len]; have := HF.out.1; omega) HF.out.2 V hV)
  obtain ⟨R, hR⟩ : ∃ R, (encR L).drop (ahead6 (encR L) (x, n)) = R := ⟨_, rfl⟩
  rw [hR] at HRF HW
  clear hR
  clear hfr ht1 ht2 hb3 hfit hsr hwant hllen hl' HX2 HO HR p0 p1
  have r0 := HFR.out.bB.cell 0
  have q0 := HFR.out.b7.cell 0
  have q1 := HFR.out.b7.cell 1
  have q2 := HFR.out.b7.cell 2
  have q3 := HFR.out.b7.cell 3
  simp only [List.getElem?_toArray, List.getElem?_cons_zero, List.getElem?_cons_succ] at q0 q1 q2 q3 r0
  go_wp2_with fail
  refine (act_any c' x' n' u' x0' x1' w0 g L HF.out.1 w3 HO3.out A1 k1 HF.out.2 HFR.out.rw).mono ?_
  rintro e w4 ⟨g2, v2, L2, rfl, hO2, _, _, hkp⟩
  have hb4 := HBW.out.trans (hO2.bel.mono HBW.out.size)
  have hf4 : FrC w x n c' x' n' u' B bs As cs l' A1 k1 (encR L) w4 := ⟨hkp.only.blk HFR.out.b5 (by decide) (by decide), hkp.only.blk HFR.out.b7 (by decide) (by decide), hkp.only.blk HFR.out.tb (by decide) (by decide), hkp.tells _ _ HFR.out.tl, hkp.only.blk HFR.out.bB (by decide) (by decide), hkp.rows _ _ HFR.out.rw, hb4⟩
  have Hw4 := Lib.hid hf4
  clear hf4 hb4 hkp hO2 HFR HO3 q0 q1 q2 q3 r0
  have r0 := Hw4.out.bB.cell 0
  have p0 := Hw4.out.b5.cell 0
  have p1 := Hw4.out.b5.cell 1
  simp only [List.getElem?_toArray, List.getElem?_cons_zero, List.getElem?_cons_succ] at p0 p1 r0
  go_wp2_with fail
  refine (HRF.out w4 Hw4.out.rw).mono ?_
  rintro e w5 ⟨⟨A', m', c'', rfl, rfl, hr'⟩, hb5⟩
  have Hw5 := Lib.hid (Hw4.out.below hb5)
  have HR' := Lib.hid (hr'.below hb5)
  clear hb5 hr' Hw4 r0 p0 p1
  go_wp2_with fail
  refine (rows6_any bs As cs l' A' c'' _ many hm0 hm1 HW.out.2 HW.out.1 w5 ⟨Hw5.out.tb, Hw5.out.tl⟩ HR'.out).mono ?_
  rintro e w6 ⟨rfl, hb6⟩
  have Hw6 := Lib.hid (Hw5.out.below hb6)
  clear hb6 HR' Hw5
  have r0 := Hw6.out.bB.cell 0
  have p0 := Hw6.out.b5.cell 0
  have p1 := Hw6.out.b5.cell 1
  simp only [List.getElem?_toArray, List.getElem?_cons_zero, List.getElem?_cons_succ] at p0 p1 r0
  go_wp2_with fail
  refine (HRF.out w6 Hw6.out.rw).mono ?_
  rintro e w7 ⟨⟨A', m', c'', rfl, rfl, hr'⟩, hb5⟩
  have Hw7 := Lib.hid (Hw6.out.below hb5)
  have HR' := Lib.hid (hr'.below hb5)
  clear hb5 hr' Hw6 r0 p0 p1
  go_wp2_with fail
  refine (rows6_any bs As cs l' A' c'' _ 1000 (by decide) (by decide) HW.out.2 HW.out.1 w7 ⟨Hw7.out.tb, Hw7.out.tl⟩ HR'.out).mono ?_
  rintro e w8 ⟨rfl, hb6⟩
  have Hw8 := Lib.hid (Hw7.out.below hb6)
  clear hb6 HR' Hw7
  have r0 := Hw8.out.bB.cell 0
  have p0 := Hw8.out.b5.cell 0
  have p1 := Hw8.out.b5.cell 1
  simp only [List.getElem?_toArray, List.getElem?_cons_zero, List.getElem?_cons_succ] at p0 p1 r0
  go_wp2_with fail
  refine (works6_any _).mono ?_
  rintro e w9 ⟨rfl, hb9⟩
  have HZ := Lib.hid (Hw8.out.bel.trans (hb9.mono Hw8.out.bel.size))
  clear hb9
  go_wp2_with fail
  go_ret
  exact ⟨rfl, HZ.out⟩
end T6
end Go.Proofs.Ytghkacciihocdaa
