/- Layer 5's reference: Cut. -/
import Derived.Test.YtehhablobfaplaaDoorX13
import Derived.Test.YtehhablobfaplaaDoorX11
import Derived.Laws.OwnMore
namespace Go.Proofs.YtehhablobfaplaaDoor
open Go Go.RowKit Go.Shelf Go.Sort
attribute [local go_sem] Oper.semAt_some
attribute [local irreducible] wpQuiet

/-- Two operations may come up. -/
theorem ready_two {P : Program} {md : Region.Mode} {ops : Array Oper} {Q : Exit → Act → World → Prop} {S : World → Prop} {fuel : Nat} {listed : Array Bool} {a : Act} {w : World} {i j : Nat} {o p : Oper} (hr : Region.ready md ops listed = [i, j]) (ho : ops[i]? = some o) (hp : ops[j]? = some p)
    (hw : Region.wanted o (yielded ops a.tmps) = true) (hv : Region.wanted p (yielded ops a.tmps) = true)
    (h : ∀ K' : Act → World → Prop, Shut (∀ a w, S w → (S w → wpAnyH P md ops Q S fuel (listed.setIfInBounds i true) a w) → K' a w) → Oper.wp P o a w K' Q)
    (k : ∀ K' : Act → World → Prop, Shut (∀ a w, S w → (S w → wpAnyH P md ops Q S fuel (listed.setIfInBounds j true) a w) → K' a w) → Oper.wp P p a w K' Q) : wpAnyH P md ops Q S (fuel + 1) listed a w :=
  wpAnyH_ready hr (by simp) (AllReadyH.cons ho (fun K' hK => by rw [if_pos hw]; exact h K' hK) (AllReadyH.cons hp (fun K' hK => by rw [if_pos hv]; exact k K' hK) AllReadyH.nil))

theorem datCs_set (c : Int) (vs : List Value) (u v : Value) : (datCs c (vs ++ [u])).set (vs.length * 2 + 1) v = datCs c (vs ++ [v]) := by
  rw [datCs_snoc, datCs_snoc, List.set_append_right _ _ (by rw [datCs_len]; omega), datCs_len, show vs.length * 2 + 1 - vs.length * 2 = 1 by omega]
  rfl

/-- Datagrams under way: so many whole ones, and one that grows. -/
structure CutS (W : World) (base : Nat) (v : Value) (c : Int) (l : List Ent) (k m : Nat) (vs : List Value) (u : Value) (mark : Nat) : Prop where
  len : vs.length = k
  row : W.ownsRow base 25 2 v (k + 1) (datCs c (vs ++ [u]))
  done : ∀ j (h : j < vs.length), W.ownsRow base 55 6 (vs[j]'h) 25 (entCs (pieceE l j)) ∧ ∀ r, (vs[j]'h).ownBlock = some r → r < mark
  cur : W.ownsRow mark 55 6 u m (entCs ((l.drop (25 * k)).take m))
  lo : base ≤ mark
  hi : mark ≤ W.heap.size
theorem CutS.past {W W' : World} {base : Nat} {v : Value} {c : Int} {l : List Ent} {k m : Nat} {vs : List Value} {u : Value} {mark : Nat} (h : CutS W base v c l k m vs u mark) (hb : Below W.heap.size W W') : CutS W' base v c l k m vs u mark :=
  ⟨h.len, row_past5 h.row hb, fun j hj => ⟨row_past5 (h.done j hj).1 hb, (h.done j hj).2⟩, row_past5 h.cur hb, h.lo, Nat.le_trans h.hi hb.size⟩
/-- The growing one has one entry more. -/
theorem CutS.push {W W2 : World} {base : Nat} {c : Int} {l : List Ent} {k m : Nat} {vs : List Value} {u v2 : Value} {mark go cap : Nat} (h : CutS W base (.slice (some ⟨go, 0, none⟩) (k + 1) cap) c l k m vs u mark) {x : Ent} (hx : l[25 * k + m]? = some x)
    (ho : W2.ownsRow mark 55 6 v2 (m + 1) (entCs ((l.drop (25 * k)).take m) ++ [.int .i64 x.f, .int .i64 x.t, .int .u32 x.a, .int .u32 x.m, .int .u32 x.n, .int .u32 x.k])) (hg : W.grownBy W2 u.ownBlock) :
    CutS (W2.setCell ⟨go, k * 2 + 1, none⟩ v2) base (.slice (some ⟨go, 0, none⟩) (k + 1) cap) c l k (m + 1) vs v2 mark ∧ W2.cell? ⟨go, k * 2 + 1, none⟩ = some u ∧ W2.frozen? ⟨go, k * 2 + 1, none⟩ = false := by
  have hne := ownE_ne h.cur h.row
  have hrow : W2.ownsRow base 25 2 (.slice (some ⟨go, 0, none⟩) (k + 1) cap) (k + 1) (datCs c (vs ++ [u])) := h.row.kept hg (.inr (fun e => by
    rcases hne with hn | hn
    · rw [hn] at e; cases e
    · exact hn e.symm))
  have hcells : entCs ((l.drop (25 * k)).take m) ++ [.int .i64 x.f, .int .i64 x.t, .int .u32 x.a, .int .u32 x.m, .int .u32 x.n, .int .u32 x.k] = entCs ((l.drop (25 * k)).take (m + 1)) := by
    have : (l.drop (25 * k)).take (m + 1) = (l.drop (25 * k)).take m ++ [x] := by
      rw [List.take_add_one, List.getElem?_drop, hx]
      rfl
    rw [this, entCs_snoc]
  have hst := (hrow.stored (k * 2 + 1) v2).1
  have hset := datCs_set c vs u v2
  rw [h.len] at hset
  rw [hset] at hst
  have hne2 := ownE_ne ho hrow
  refine ⟨⟨h.len, hst, fun j hj => ⟨?_, (h.done j hj).2⟩, ?_, h.lo, ?_⟩, ?_, hrow.frozenAt _⟩
  · have h1 : W2.ownsRow base 55 6 (vs[j]'hj) 25 (entCs (pieceE l j)) := (h.done j hj).1.kept hg (by
      cases e : (vs[j]'hj).ownBlock with
      | none => exact .inl rfl
      | some r =>
        refine .inr fun e2 => ?_
        have a1 := (h.done j hj).2 r e
        have a2 := (h.cur.lt r e2.symm).1
        omega)
    exact ownsRow_setCell_other h1 (fun e => by
      rcases ownE_ne h1 hrow with hn | hn
      · rw [hn] at e; cases e
      · exact hn e) _
  · rw [← hcells]
    exact ownsRow_setCell_other ho (fun e => by
      rcases hne2 with hn | hn
      · rw [hn] at e; cases e
      · exact hn e) _
  · simpa using Nat.le_trans h.hi hg.size
  · rw [hrow.cellAt (k * 2 + 1) (by omega)]
    have := (datCs_at c (vs ++ [u]) k (by simp [h.len])).2
    rw [show k * 2 + 1 = 2 * k + 1 by omega, this]
    simp [← h.len]
/-- A new one begins. -/
theorem CutS.start {W W2 : World} {base : Nat} {v v1 : Value} {c : Int} {l : List Ent} {k : Nat} {vs : List Value} (hl : vs.length = k) (hrow : W.ownsRow base 25 2 v k (datCs c vs)) (hdone : ∀ j (h : j < vs.length), W.ownsRow base 55 6 (vs[j]'h) 25 (entCs (pieceE l j)))
    (ho : W2.ownsRow base 25 2 v1 (k + 1) (datCs c vs ++ [.int .i64 c, .slice none 0 0])) (hg : W.grownBy W2 v.ownBlock) (hb : base ≤ W.heap.size) : CutS W2 base v1 c l k 0 vs (.slice none 0 0) W2.heap.size := by
  refine ⟨hl, by rw [datCs_snoc]; exact ho, fun j hj => ?_, by rw [List.take_zero]; exact World.ownsRow_nil _ _ _ _, Nat.le_trans hb hg.size, Nat.le_refl _⟩
  have h1 := (hdone j hj).kept hg (ownE_ne (hdone j hj) hrow)
  exact ⟨h1, fun r e => (h1.lt r e).2⟩

/-- The datagrams under way, element by element. -/
def CutAt (W : World) (base : Nat) (v : Value) (c : Int) (l : List Ent) (i : Nat) : Prop := (i = 0 ∧ v = .slice none 0 0) ∨ ∃ k m vs u mark, i = 25 * k + m ∧ 1 ≤ m ∧ m ≤ 25 ∧ CutS W base v c l k m vs u mark
theorem CutAt.whole {W : World} {base : Nat} {v : Value} {c : Int} {l : List Ent} {i : Nat} (h : CutAt W base v c l i) (hi : i % 25 = 0) : ∃ vs, vs.length = i / 25 ∧ W.ownsRow base 25 2 v (i / 25) (datCs c vs) ∧ ∀ j (h : j < vs.length), W.ownsRow base 55 6 (vs[j]'h) 25 (entCs (pieceE l j)) := by
  rcases h with ⟨rfl, rfl⟩ | ⟨k, m, vs, u, mark, rfl, h1, h2, hc⟩
  · exact ⟨[], rfl, World.ownsRow_nil _ _ _ _, fun j h => absurd h (by simp)⟩
  · obtain rfl : m = 25 := by omega
    have e : (25 * k + 25) / 25 = k + 1 := by omega
    rw [e]
    refine ⟨vs ++ [u], by simp [hc.len], hc.row, fun j hj => ?_⟩
    rcases Nat.lt_or_ge j vs.length with hj2 | hj2
    · rw [List.getElem_append_left hj2]
      exact (hc.done j hj2).1
    · have e2 : j = vs.length := by simp at hj; omega
      subst e2
      simp only [List.getElem_append_right (Nat.le_refl _), Nat.sub_self, List.getElem_cons_zero]
      rw [hc.len]
      exact Joins.ownsRow_le hc.cur hc.lo
theorem CutAt.part {W : World} {base : Nat} {v : Value} {c : Int} {l : List Ent} {i : Nat} (h : CutAt W base v c l i) (hi : ¬ i % 25 = 0) : ∃ vs u mark, CutS W base v c l (i / 25) (i % 25) vs u mark := by
  rcases h with ⟨rfl, rfl⟩ | ⟨k, m, vs, u, mark, rfl, h1, h2, hc⟩
  · exact absurd rfl hi
  · have e : (25 * k + m) / 25 = k := by omega
    have e2 : (25 * k + m) % 25 = m := by omega
    rw [e, e2]
    exact ⟨vs, u, mark, hc⟩
theorem CutAt.past {W W' : World} {base : Nat} {v : Value} {c : Int} {l : List Ent} {i : Nat} (h : CutAt W base v c l i) (hb : Below W.heap.size W W') : CutAt W' base v c l i :=
  h.imp (fun h => h) (fun ⟨k, m, vs, u, mark, h1, h2, h3, hc⟩ => ⟨k, m, vs, u, mark, h1, h2, h3, hc.past hb⟩)
/-- All of them. -/
theorem CutAt.all {W : World} {base : Nat} {v : Value} {c : Int} {l : List Ent} (h : CutAt W base v c l l.length) : ∃ vs, DatV W base v c (cutsE l) vs := by
  rcases h with ⟨h0, rfl⟩ | ⟨k, m, vs, u, mark, hl, h1, h2, hc⟩
  · refine ⟨[], ⟨?_, ?_, fun i h => absurd h (by simp)⟩⟩
    · simp [cutsE, firstsE, h0]
    · have : cutsE l = [] := by simp [cutsE, firstsE, h0]
      rw [this]
      exact World.ownsRow_nil _ _ _ _
  · have e : (l.length + 24) / 25 = k + 1 := by omega
    have ep : (l.drop (25 * k)).take m = pieceE l k := by
      unfold pieceE
      rw [List.take_of_length_le (by rw [List.length_drop]; omega), List.take_of_length_le (by rw [List.length_drop]; omega)]
    have hcl : (cutsE l).length = k + 1 := by rw [cutsE, e, firstsE_len]
    refine ⟨vs ++ [u], ⟨by rw [hcl]; simp [hc.len], by rw [hcl]; exact hc.row, fun i hv hi => ?_⟩⟩
    have hat : (cutsE l)[i]'hi = pieceE l i := firstsE_at l ((l.length + 24) / 25) i hi
    rw [hat]
    have hpl := pieceE_len l i
    rcases Nat.lt_or_ge i vs.length with hj | hj
    · have := hc.len
      rw [show (pieceE l i).length = 25 by omega, List.getElem_append_left hj]
      exact (hc.done i hj).1
    · have e2 : i = vs.length := by simp at hv; omega
      subst e2
      simp only [List.getElem_append_right (Nat.le_refl _), Nat.sub_self, List.getElem_cons_zero]
      rw [hc.len] at hpl ⊢
      rw [show (pieceE l k).length = m by omega, ← ep]
      exact Joins.ownsRow_le hc.cur hc.lo
end Go.Proofs.YtehhablobfaplaaDoor
