/- The library's Collect, at the places on the way down. -/
import Derived.Test.YtghkacciihocdaaI14
namespace Go.Proofs.Ytghkacciihocdaa
open Go Go.RowKit Go.Shelf Go.Sort
attribute [local go_sem] Oper.semAt_some
namespace T6

def addrs (l : List Addr) : List Value := l.map (fun a => .pointer (some a))
theorem KeptC.low {B B' : Nat} {W W' : World} (h : KeptC B W W') (hB : B' ≤ B) : KeptC B' W W' := ⟨h.size, h.os, h.tape, h.output, fun k o ho hc => h.same k o ho (hc.imp (fun h => by omega) id)⟩
/-- What is being collected. -/
def ApC (w : World) (acc : List Addr) (W : World) : Prop := ∃ v, Blk W w.heap.size 118 #[v] ∧ W.ownsRow (w.heap.size + 1) 109 1 v acc.length (addrs acc)
theorem ApC.keptC {B : Nat} {w : World} {acc : List Addr} {W W' : World} (h : ApC w acc W) (hk : KeptC B W W') : ApC w acc W' := by
  obtain ⟨v, h1, h2⟩ := h
  exact ⟨v, blkC h1 hk, hk.own h2⟩
def ApEnd (B : Nat) (p : Key) (acc : List Addr) (D : Nat → World → Prop) (W : World) : Prop :=
  ∃ a b h v l r, acc.getLast? = some a ∧ W.cell? a = some (.pointer (some ⟨b, 0, none⟩)) ∧ Blk W b 81 (cellsN p h v l r) ∧ ∀ W', PastC B [b] W W' → Blk W' b 81 (cellsN p false v l r) → D acc.length W'
theorem ApEnd.keptC {B : Nat} {p : Key} {acc : List Addr} {D : Nat → World → Prop} {W W' : World} (h : ApEnd B p acc D W) (hk : KeptC B W W') : ApEnd B p acc D W' := by
  obtain ⟨a, b, hh, v, l, r, h1, h2, h3, h4⟩ := h
  exact ⟨a, b, hh, v, l, r, h1, hk.cell h2, blkC h3 hk, fun W2 g1 g2 => h4 W2 (PastC.kept hk g1) g2⟩
def ApI (B : Nat) (w : World) (bt bp g : Nat) (p : Key) (Done : World → Prop) (s : Nat × Addr) (W : World) : Prop :=
  ∃ acc D T cs u y, u.depth = s.1 ∧ acc.length + s.1 ≤ 33 ∧ u.WF ∧ (p, y) ∈ u.rows ∧ D 0 = Done ∧ Steps B acc D ∧ DSpot B p (D acc.length) s.2 T cs u W ∧ ApC w acc W ∧ Boxes bt bp g p W ∧ Below w.heap.size w W
def ApI' (B : Nat) (w : World) (bt bp g : Nat) (p : Key) (Done : World → Prop) (s : Nat × Addr) (W : World) : Prop :=
  ∃ acc D b k h v l r, W.cell? s.2 = some (.pointer (some ⟨b, 0, none⟩)) ∧ Blk W b 81 (cellsN k h v l r) ∧ k.length ≤ 32 ∧ k <+: p ∧ acc.length ≤ 33 ∧ D 0 = Done ∧ Steps B acc D ∧
    (k ≠ p → ∀ x, k ++ [x] <+: p → (if x then r else l).depth < s.1 ∧ acc.length + (if x then r else l).depth ≤ 33 ∧ (if x then r else l).WF ∧ (∃ y, (p, y) ∈ (if x then r else l).rows) ∧ DSpot B p (D acc.length) ⟨b, side x, none⟩ 81 (cellsN k h v l r) (if x then r else l) W) ∧
    (k = p → ApEnd B p acc D W) ∧ ApC w acc W ∧ Boxes bt bp g p W ∧ Below w.heap.size w W
def ApF (B : Nat) (w : World) (p : Key) (Done : World → Prop) (W : World) : Prop :=
  ∃ acc D, acc.length ≤ 33 ∧ D 0 = Done ∧ Steps B acc D ∧ ApEnd B p acc D W ∧ ApC w acc W ∧ Below w.heap.size w W
theorem ApI.keptC {B B' : Nat} {w : World} {bt bp g : Nat} {p : Key} {Done : World → Prop} {s : Nat × Addr} {W W' : World} (h : ApI B w bt bp g p Done s W) (hk : KeptC B' W W') (hB : B ≤ B') (hw : w.heap.size ≤ B') : ApI B w bt bp g p Done s W' := by
  obtain ⟨acc, D, T, cs, u, y, h1, h2, h3, h4, h5, h6, h7, h8, h9, h10⟩ := h
  exact ⟨acc, D, T, cs, u, y, h1, h2, h3, h4, h5, h6, h7.keptC (hk.low hB), h8.keptC hk, h9.keptC hk, hk.below h10 hw h10.size⟩
theorem ApI'.keptC {B B' : Nat} {w : World} {bt bp g : Nat} {p : Key} {Done : World → Prop} {s : Nat × Addr} {W W' : World} (h : ApI' B w bt bp g p Done s W) (hk : KeptC B' W W') (hB : B ≤ B') (hw : w.heap.size ≤ B') : ApI' B w bt bp g p Done s W' := by
  obtain ⟨acc, D, b, k, hh, v, l, r, h1, h2, h3, h4, h5, h6, h7, h8, h9, h10, h11, h12⟩ := h
  exact ⟨acc, D, b, k, hh, v, l, r, hk.cell h1, blkC h2 hk, h3, h4, h5, h6, h7, fun hne x hx => by obtain ⟨a1, a2, a3, a4, a5⟩ := h8 hne x hx; exact ⟨a1, a2, a3, a4, a5.keptC (hk.low hB)⟩, fun e => (h9 e).keptC (hk.low hB), h10.keptC hk, h11.keptC hk, hk.below h12 hw h12.size⟩
theorem ApF.keptC {B B' : Nat} {w : World} {p : Key} {Done : World → Prop} {W W' : World} (h : ApF B w p Done W) (hk : KeptC B' W W') (hB : B ≤ B') (hw : w.heap.size ≤ B') : ApF B w p Done W' := by
  obtain ⟨acc, D, h1, h2, h3, h4, h5, h6⟩ := h
  exact ⟨acc, D, h1, h2, h3, h4.keptC (hk.low hB), h5.keptC hk, hk.below h6 hw h6.size⟩
theorem ApI'.step {B : Nat} {w : World} {bt bp g : Nat} {p : Key} {Done : World → Prop} {s : Nat × Addr} {W : World} (h : ApI' B w bt bp g p Done s W) : StpD bt bp g p (ApI B w bt bp g p Done) (ApF B w p Done) s W := by
  obtain ⟨acc, D, b, k, hh, v, l, r, h1, h2, h3, h4, h5, h6, h7, h8, h9, h10, h11, h12⟩ := h
  refine ⟨h11, .inr ⟨b, k, hh, v, l, r, h1, h2, h3, ?_⟩⟩
  by_cases hs : standK k p = 3
  · left
    obtain ⟨_, hne⟩ := stand_three.1 hs
    obtain ⟨x, hx, _⟩ := next_side h4 hne
    obtain ⟨a1, a2, a3, ⟨y, a4⟩, a5⟩ := h8 hne x hx
    exact ⟨hs, x, _, hx, a1, acc, D, _, _, _, y, rfl, a2, a3, a4, h6, h7, a5, h10, h11, h12⟩
  · right
    refine ⟨hs, ?_⟩
    have he : k = p := by
      by_cases hne : k = p
      · exact hne
      · exact absurd (stand_three.2 ⟨h4, hne⟩) hs
    exact ⟨acc, D, h5, h6, h7, h9 he, h10, h12⟩
/-- One place more. -/
theorem Steps.more {B : Nat} {acc : List Addr} {D : Nat → World → Prop} (h : Steps B acc D) {a : Addr} {R : World → Prop} (hR : ∀ W, R W → StepOk a (D acc.length) W) (hk : ∀ W W', R W → KeptC B W W' → R W') :
    Steps B (acc ++ [a]) (fun i => if i ≤ acc.length then D i else R) := by
  refine ⟨fun i hi W hD => ?_, fun i W W' hD hkk => ?_⟩
  · rcases Nat.lt_or_ge i acc.length with hlt | hge
    · rw [List.getElem_append_left hlt]
      simp only [show i + 1 ≤ acc.length from hlt, show i ≤ acc.length by omega, if_true] at hD ⊢
      exact h.step i hlt W hD
    · obtain rfl : i = acc.length := by simp at hi; omega
      simp only [show ¬ acc.length + 1 ≤ acc.length by omega, if_false, Nat.le_refl, if_true] at hD ⊢
      simpa using hR W hD
  · by_cases hi : i ≤ acc.length
    · simp only [hi, if_true] at hD ⊢
      exact h.kept i W W' hD hkk
    · simp only [hi, if_false] at hD ⊢
      exact hk W W' hD hkk
/-- Who has p beneath it, or at it. -/
theorem has_around {b : Nat} {k p : Key} {h : Bool} {v : Int} {l r : Tr} {y : Int} (hw : (Tr.node b k h v l r).WF) (hm : (p, y) ∈ (Tr.node b k h v l r).rows) : k <+: p ∧ (k ≠ p → ∀ x, k ++ [x] <+: p → (p, y) ∈ (if x then r else l).rows) := by
  refine ⟨ext_of_top hw (List.prefix_refl _) _ (rows_keys hm), fun hne x hx => ?_⟩
  obtain ⟨_, _, _, el, er, _⟩ := hw
  rcases rows_mem.1 hm with ⟨_, e, _⟩ | hm | hm
  · exact absurd e.symm hne
  · cases x
    · exact hm
    · exact absurd hx (fun e => ext_apart (x := false) (not_in el hm) e)
  · cases x
    · exact absurd hx (fun e => ext_apart (x := true) (not_in er hm) e)
    · exact hm
theorem DSpot.past {B : Nat} {p : Key} {Done : World → Prop} {W W' : World} {a : Addr} {T : TypeId} {cs : Array Value} {s : Tr} (h : DSpot B p Done a T cs s W) (hk : PastC B [] W W') : DSpot B p Done a T cs s W' :=
  ⟨h.near, hk.blk h.blk h.kind (by simp), h.kind, h.cell, hk.lies h.lies (by simp), h.nd, fun W2 s' h1 h2 h3 h4 => h.wand W2 s' ((hk.mono (by simp)).trans h1) h2 h3 h4⟩
theorem past_grown {B : Nat} {W W' : World} {row : Option Nat} (hg : W.grownBy W' row) (hr : ∀ r, row = some r → B ≤ r ∧ ∀ o, W.heap[r]? = some o → treeO o = false) : PastC B [] W W' :=
  ⟨hg.size, hg.os, hg.tape, hg.output, fun k o ho _ hc => (hg.block k (Array.getElem?_eq_some_iff.1 ho).1 (fun e => by
    obtain ⟨h1, h2⟩ := hr k e.symm
    rcases hc with hc | hc
    · omega
    · rw [h2 o ho] at hc; cases hc)).trans ho⟩
/-- Behind a round: the place is in the list. -/
theorem ApI.round {B : Nat} {w : World} {bt bp g : Nat} {p : Key} {Done : World → Prop} {m : Nat} {a : Addr} {acc : List Addr} {D : Nat → World → Prop} {T : TypeId} {cs : Array Value} {b : Nat} {k : Key} {h : Bool} {v : Int} {l r : Tr} {y : Int} {W W3 : World}
    (h1 : (Tr.node b k h v l r).depth = m) (h2 : acc.length + m ≤ 33) (h3 : (Tr.node b k h v l r).WF) (h4 : (p, y) ∈ (Tr.node b k h v l r).rows) (h5 : D 0 = Done) (h6 : Steps B acc D) (h7 : DSpot B p (D acc.length) a T cs (.node b k h v l r) W)
    (hc : ApC w (acc ++ [a]) W3) (hb : Boxes bt bp g p W3) (hbw : Below w.heap.size w W3) (hP : PastC B [] W W3) : ApI' B w bt bp g p Done (m, a) W3 := by
  have h73 := h7.past hP
  obtain ⟨hkp, hch⟩ := has_around h3 h4
  have hdd : (Tr.node b k h v l r).depth = 1 + max l.depth r.depth := rfl
  have hlen : (acc ++ [a]).length = acc.length + 1 := by simp
  have hD' : (fun i => if i ≤ acc.length then D i else Ready B p a T cs (.node b k h v l r) W) (acc ++ [a]).length = Ready B p a T cs (.node b k h v l r) W := by
    rw [hlen]; show (if acc.length + 1 ≤ acc.length then _ else _) = _
    rw [if_neg (by omega)]
  refine ⟨acc ++ [a], fun i => if i ≤ acc.length then D i else Ready B p a T cs (.node b k h v l r) W, b, k, h, v, l, r, ?_, h73.lies.1, h3.1, hkp, by rw [hlen]; omega, ?_, h6.more (fun W' hR => ready_step h7 hR) (fun _ _ hR hk => hR.keptC hk), fun hne x hx => ?_, fun e => ?_, hc, hb, hbw⟩
  · show W3.cell? a = _
    rw [h73.near, h73.blk.cell]; exact h73.cell
  · show (if 0 ≤ acc.length then D 0 else _) = Done
    rw [if_pos (by omega)]; exact h5
  · rw [hD', hlen]
    refine ⟨?_, ?_, ?_, ⟨y, hch hne x hx⟩, (dspot_down h7 (half_of h3) hx).past hP⟩
    · cases x <;> simp <;> omega
    · cases x <;> simp <;> omega
    · cases x
      · exact h3.2.1
      · exact h3.2.2.1
  · subst e
    refine ⟨a, b, h, v, l, r, by simp, by rw [h73.near, h73.blk.cell]; exact h73.cell, h73.lies.1, fun W' g1 g2 => ?_⟩
    rw [hD']
    exact dspot_end h7 (half_of h3) W' ((hP.mono (by simp)).trans g1) g2
theorem infoPP : (Try.prog.info? 109).map (fun i => (i.zero, i.size, i.bytes)) = some (some (.pointer none), 1, 8) := by kernel_rfl
theorem ApC.more {B : Nat} {w W W1 wn : World} {acc : List Addr} {v v' : Value} {a : Addr} {bt bp g : Nat} {p : Key} (h1 : Blk W w.heap.size 118 #[v]) (h2 : W.ownsRow (w.heap.size + 1) 109 1 v acc.length (addrs acc)) (hB : B ≤ w.heap.size) (hbx : Boxes bt bp g p W) (hbt : bt < w.heap.size) (hbp : bp < w.heap.size) (hbw : Below w.heap.size w W)
    (hal : Below W.heap.size W W1) (hg : W1.grownBy wn v.ownBlock) (hown : wn.ownsRow (w.heap.size + 1) 109 1 v' (acc.length + 1) (addrs acc ++ [.pointer (some a)])) :
    ApC w (acc ++ [a]) (wn.setCell ⟨w.heap.size, 0, none⟩ v') ∧ PastC B [] W (wn.setCell ⟨w.heap.size, 0, none⟩ v') ∧ Boxes bt bp g p (wn.setCell ⟨w.heap.size, 0, none⟩ v') ∧ Below w.heap.size w (wn.setCell ⟨w.heap.size, 0, none⟩ v') ∧ KeepsFrom (w.heap.size + 1) W (wn.setCell ⟨w.heap.size, 0, none⟩ v') ∧ Blk wn w.heap.size 118 #[v] := by
  have hlt : ∀ k, v.ownBlock = some k → w.heap.size + 1 ≤ k ∧ k < W.heap.size := fun k hk => h2.lt k hk
  have hz := hal.size
  have hlb := h1.lt
  have hobj : ∀ k, v.ownBlock = some k → ∃ cur, W.heap[k]? = some (.cells cur 109 (0, 0)) := fun k hk => by
    rcases h2.2 with ⟨rfl, _⟩ | ⟨g, cap, cur, rfl, _, hh, _⟩
    · simp [Value.ownBlock] at hk
    · simp [Value.ownBlock] at hk
      subst hk
      exact ⟨cur, hh⟩
  have hl := (h1.below hal h1.lt).grown hg (fun e => by have := (hlt _ e.symm).1; omega)
  have hbn : Below w.heap.size W wn := (hal.mono (by omega)).grown hg (by omega) (fun k e => by have := (hlt k e).1; omega)
  have hbs : Below w.heap.size W (wn.setCell ⟨w.heap.size, 0, none⟩ v') := hbn.setCell (Nat.le_refl _) _
  refine ⟨⟨v', by simpa using hl.set_ 0 v', ?_⟩, ?_, ?_, hbw.trans hbs, ⟨?_, ?_⟩, hl⟩
  · have e : addrs (acc ++ [a]) = addrs acc ++ [.pointer (some a)] := by simp [addrs]
    rw [e, List.length_append, List.length_singleton]
    exact own_far hown (by simp)
  · refine ((PastC.of (KeptC.calls hal)).trans (past_grown hg fun r hr => ⟨by have := (hlt r hr).1; omega, fun o ho => ?_⟩)).trans (PastC.off _ _ _ hB fun o ho => ?_)
    · obtain ⟨cur, hc⟩ := hobj r hr
      rw [hal.block r (hlt r hr).2, hc] at ho
      cases ho
      rfl
    · unfold Blk at hl
      rw [hl] at ho
      cases ho
      rfl
  · obtain ⟨q1, q2, q3⟩ := hbx
    exact ⟨(hbs.cell (p := ⟨bt, 0, none⟩) hbt).trans q1, (hbs.cell (p := ⟨bp, 0, none⟩) hbp).trans q2, (hbs.cell (p := ⟨bp, 1, none⟩) hbp).trans q3⟩
  · exact hbs.size
  · intro k o hk ho hc
    have hlt2 := (Array.getElem?_eq_some_iff.1 ho).1
    rw [Below.heap_setCell _ _ _ _ (by simp; omega)]
    by_cases e : v.ownBlock = some k
    · exfalso
      obtain ⟨cur, hcc⟩ := hobj k e
      rw [hcc] at ho; cases ho; simp [Obj.isCells] at hc
    · rw [hg.block k (by omega) (fun e2 => e e2.symm), hal.block k hlt2]; exact ho
end T6
end Go.Proofs.Ytghkacciihocdaa
