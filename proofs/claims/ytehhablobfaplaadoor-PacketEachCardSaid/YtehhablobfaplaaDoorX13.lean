/- Layer 5's program: cut, Cut. -/
import Derived.Test.YtehhablobfaplaaDoorX12
namespace Go.Proofs.YtehhablobfaplaaDoor
open Go Go.RowKit Go.Shelf Go.Sort
attribute [local go_sem] Oper.semAt_some

/-- The next entries, from the k-th piece on. -/
def pieceE (l : List Ent) (k : Nat) : List Ent := (l.drop (25 * k)).take 25
def firstsE (l : List Ent) (k : Nat) : List (List Ent) := (List.range k).map (pieceE l)
def cutsE (l : List Ent) : List (List Ent) := firstsE l ((l.length + 24) / 25)
theorem firstsE_len (l : List Ent) (k : Nat) : (firstsE l k).length = k := by simp [firstsE]
theorem firstsE_succ (l : List Ent) (k : Nat) : firstsE l (k + 1) = firstsE l k ++ [pieceE l k] := by simp [firstsE, List.range_succ]
theorem firstsE_at (l : List Ent) (k i : Nat) (h : i < (firstsE l k).length) : (firstsE l k)[i] = pieceE l i := by simp [firstsE]
theorem pieceE_len (l : List Ent) (k : Nat) : (pieceE l k).length = min 25 (l.length - 25 * k) := by simp [pieceE]
/-- The pieces, one behind the other, are the list. -/
theorem firstsE_flat (l : List Ent) : ∀ k, (firstsE l k).flatten = l.take (25 * k)
  | 0 => by simp [firstsE]
  | k + 1 => by
    rw [firstsE_succ, List.flatten_append, firstsE_flat l k, List.flatten_cons, List.flatten_nil, List.append_nil]
    unfold pieceE
    rw [show 25 * (k + 1) = 25 * k + 25 by omega, List.take_add]
theorem cutsE_flat (l : List Ent) : (cutsE l).flatten = l := by
  unfold cutsE
  rw [firstsE_flat, List.take_of_length_le (by omega)]

/-- The cells of datagrams. -/
def datCs (c : Int) (vs : List Value) : List Value := vs.flatMap fun v => [.int .i64 c, v]
theorem datCs_len (c : Int) (vs : List Value) : (datCs c vs).length = vs.length * 2 := by
  induction vs with
  | nil => rfl
  | cons v vs ih => simp only [datCs, List.flatMap_cons, List.length_append, List.length_cons, List.length_nil] at ih ⊢; omega
theorem datCs_snoc (c : Int) (vs : List Value) (v : Value) : datCs c (vs ++ [v]) = datCs c vs ++ [.int .i64 c, v] := by simp [datCs]
theorem datCs_at (c : Int) : ∀ (vs : List Value) (i : Nat) (h : i < vs.length), (datCs c vs)[2 * i]? = some (.int .i64 c) ∧ (datCs c vs)[2 * i + 1]? = some (vs[i]'h)
  | [], i, h => absurd h (by simp)
  | v :: vs, 0, _ => by simp [datCs]
  | v :: vs, i + 1, h => by
    have ih := datCs_at c vs i (by simpa using h)
    have e : datCs c (v :: vs) = .int .i64 c :: v :: datCs c vs := by simp [datCs]
    rw [e, show 2 * (i + 1) = 2 * i + 1 + 1 by omega, show 2 * i + 1 + 1 + 1 = (2 * i + 1) + 1 + 1 by omega, List.getElem?_cons_succ, List.getElem?_cons_succ, List.getElem?_cons_succ, List.getElem?_cons_succ]
    exact ih

/-- Datagrams that a call made, each with entries of its own. -/
structure DatV (W : World) (base : Nat) (v : Value) (c : Int) (L : List (List Ent)) (vs : List Value) : Prop where
  len : vs.length = L.length
  row : W.ownsRow base 25 2 v L.length (datCs c vs)
  ent : ∀ i (hv : i < vs.length) (hl : i < L.length), W.ownsRow base 55 6 (vs[i]'hv) (L[i]'hl).length (entCs (L[i]'hl))
theorem DatV.past {W W' : World} {base : Nat} {v : Value} {c : Int} {L : List (List Ent)} {vs : List Value} (h : DatV W base v c L vs) (hb : Below W.heap.size W W') : DatV W' base v c L vs :=
  ⟨h.len, row_past5 h.row hb, fun i hv hl => row_past5 (h.ent i hv hl) hb⟩
/-- Entries' own blocks are not those of datagrams. -/
theorem ownE_ne {W : World} {b1 b2 n k : Nat} {u v : Value} {xs ys : List Value} (h : W.ownsRow b1 55 6 u n xs) (g : W.ownsRow b2 25 2 v k ys) : u.ownBlock = none ∨ u.ownBlock ≠ v.ownBlock := by
  rcases h.2 with ⟨rfl, _⟩ | ⟨g1, _, _, rfl, _, h1, _⟩
  · exact .inl rfl
  · refine .inr fun e => ?_
    rcases g.2 with ⟨rfl, _⟩ | ⟨g2, _, _, rfl, _, h2, _⟩
    · cases e
    · have e2 : g1 = g2 := Option.some.inj e
      subst e2
      rw [h1] at h2
      cases h2
/-- One more. -/
theorem DatV.more {W W' : World} {base : Nat} {v v' : Value} {c : Int} {L : List (List Ent)} {vs : List Value} (h : DatV W base v c L vs) {x : List Ent} {u : Value} (hu : W.ownsRow base 55 6 u x.length (entCs x))
    (hr : W'.ownsRow base 25 2 v' (L.length + 1) (datCs c vs ++ [.int .i64 c, u])) (hg : W.grownBy W' v.ownBlock) : DatV W' base v' c (L ++ [x]) (vs ++ [u]) := by
  refine ⟨by simp [h.len], by rw [datCs_snoc, List.length_append]; exact hr, fun i hv hl => ?_⟩
  have hlen := h.len
  rcases Nat.lt_or_ge i L.length with hi | hi
  · rw [List.getElem_append_left (by omega), List.getElem_append_left hi]
    exact (h.ent i (by omega) hi).kept hg (ownE_ne (h.ent i (by omega) hi) h.row)
  · have e1 : i = L.length := by simp at hl; omega
    subst e1
    simp only [List.getElem_append_right (Nat.le_refl _), Nat.sub_self, List.getElem_cons_zero]
    have e2 : (vs ++ [u])[L.length]'hv = u := by
      rw [List.getElem_append_right (by omega)]
      simp [hlen]
    rw [e2]
    exact hu.kept hg (ownE_ne hu h.row)

theorem EntS.take {w : World} {p : Option Addr} {l : List Ent} (h : EntS w p l) (k : Nat) : EntS w p (l.take k) := fun h0 => by
  have hl : (l.take k).length ≤ l.length := by simp; omega
  obtain ⟨b, o, e, hlt, hc⟩ := h (by omega)
  refine ⟨b, o, e, hlt, fun j hj r hr => ?_⟩
  rw [hc j (by omega) r hr, List.getElem_take]
theorem EntS.drop {w : World} {b o : Nat} {l : List Ent} (h : EntS w (some ⟨b, o, none⟩) l) (k : Nat) : EntS w (some ⟨b, o + k * 6, none⟩) (l.drop k) := fun h0 => by
  rw [List.length_drop] at h0
  obtain ⟨b', o', e, hlt, hc⟩ := h (by omega)
  cases e
  refine ⟨b, o + k * 6, rfl, hlt, fun j hj r hr => ?_⟩
  rw [List.length_drop] at hj
  have := hc (k + j) (by omega) r hr
  rw [show o + k * 6 + j * 6 + r = o + (k + j) * 6 + r by omega, this, List.getElem_drop]

set_option maxRecDepth 100000 in
set_option maxHeartbeats 3200000 in
theorem cut5_any (cm : Int) (Bc : Nat) (p : Option Addr) (c : Nat) (l : List Ent) (w : World) (hn : l.length ≤ 1000000) (hcc : l.length ≤ c) (hx : EntS w p l) (hc : w.cell? ⟨Bc, 0, none⟩ = some (.int .i64 cm)) :
    Calls Tryd.prog 37 #[.int .i64 25, .func (.func 38) #[] #[.pointer (some ⟨Bc, 0, none⟩)], .slice p l.length c] w fun e w' => (∃ v vs, e = .returned v ∧ DatV w' w.heap.size v cm (cutsE l) vs) ∧ Below w.heap.size w w' := by
  have hlt := World.block_lt_of_cell? _ _ hc
  simp only at hlt
  obtain ⟨i0, hi, hz0, hz1, hz2⟩ := info_parts infoDat
  have HI := Lib.hid (And.intro hi (And.intro hz0 (And.intro hz1 hz2)))
  have HX := Lib.hid hx
  have HC := Lib.hid hc
  clear hx hi hz0 hz1 hz2 hc
  go_enter Tryd.func37, Tryd.ntmps37
  go_wp2_with fail
  go_loopw [2, 7] (fun a v wr => ∃ (k m c' : Nat) (p' : Option Addr) (vs : List Value), k ≤ (l.length + 24) / 25 ∧ m = l.length - 25 * k ∧ m ≤ c' ∧ a = .slice p' m c' ∧ Hid (EntS w p' (l.drop (25 * k))) ∧ Hid (DatV wr w.heap.size v cm (firstsE l k) vs) ∧ Hid (Below w.heap.size w wr)) (fun a _ _ => sliceLen a)
  case atStart => exact ⟨0, l.length, c, p, [], by omega, by omega, hcc, rfl, by simpa using HX, Lib.hid ⟨rfl, World.ownsRow_nil _ _ _ _, fun i h => absurd h (by simp)⟩, Lib.hid (Below.refl _ _)⟩
  case round =>
    clear HX hcc
    obtain ⟨k, m, c', p', vs, hk, hm, hmc, rfl, HX, HD, HB⟩ := hrel
    by_cases hlt0 : 0 < m
    · have jz : (0 : Int) < (m : Int) := by omega
      have hmin : min (25 : Int) (m : Int) = ((min 25 m : Nat) : Int) := by omega
      have hdl : (l.drop (25 * k)).length = m := by rw [List.length_drop]; omega
      obtain ⟨b, o, rfl, hbl, _⟩ := HX.out (by omega)
      have hpl := pieceE_len l k
      rw [← hm] at hpl
      have hnx : Hid (EntS w (some ⟨b, o + min 25 m * 6, none⟩) (l.drop (25 * (k + 1))) ∨ m - min 25 m = 0) := Lib.hid (by
        rcases Nat.lt_or_ge m 25 with h | h
        · exact .inr (by omega)
        · refine .inl ?_
          have := HX.out.drop (min 25 m)
          rwa [List.drop_drop, show 25 * k + min 25 m = 25 * (k + 1) by omega] at this)
      have hk1 : k + 1 ≤ (l.length + 24) / 25 := by omega
      have HM2 : Hid (m - min 25 m = l.length - 25 * (k + 1)) := Lib.hid (by omega)
      have hp := fun (W : World) (hW : Below w.heap.size w W) => piece5_any cm Bc (some ⟨b, o, none⟩) (min 25 m) (pieceE l k) W (by rw [hpl]; omega) ((HX.out.below hW).take 25) ((hW.cell (p := ⟨Bc, 0, none⟩) hlt).trans HC.out)
      rw [hpl] at hp
      have HFS := Lib.hid (firstsE_succ l k)
      have HFL := Lib.hid (firstsE_len l k)
      have HPL := Lib.hid hpl
      have hn1 : 1 ≤ min 25 m := by omega
      have hn2 : min 25 m ≤ m := by omega
      have hn3 : ((min 25 m : Nat) : Int) ≤ (c' : Int) := by omega
      have hn4 : (0 : Int) ≤ ((min 25 m : Nat) : Int) := by omega
      have hn5 : ((min 25 m : Nat) : Int) ≤ (m : Int) := by omega
      have HP := Lib.hid hp
      have HM := Lib.hid hm
      have HK := Lib.hid hk
      have HK1 := Lib.hid hk1
      clear hp hpl hdl hm hk hk1
      generalize min 25 m = n at *
      go_wp2_with fail
      refine (HP.out _ HB.out).mono ?_
      rintro e w1 ⟨⟨v, rfl, ho⟩, hb1⟩
      obtain ⟨g2, cap2, rfl⟩ := Joins.ownsRow_form ho (by omega)
      have hal : Below w1.heap.size w1 (w1.alloc (.cells #[.int .i64 cm, .slice (some ⟨g2, 0, none⟩) n cap2] 25)) := (Below.refl _ _).alloc (Nat.le_refl _) _
      have HD1 := Lib.hid ((HD.out.past hb1).past hal)
      have HB1 := Lib.hid (HB.out.trans (hb1.mono HB.out.size))
      have HB2 := Lib.hid (HB1.out.trans (hal.mono HB1.out.size))
      have HO1 := Lib.hid (row_past5 (Joins.ownsRow_le ho HB.out.size) hal)
      have hs1 := HB1.out.size
      have HLM : Hid ((firstsE l k).length ≤ 1000000) := Lib.hid (by rw [HFL.out]; have := HK.out; omega)
      clear ho hb1 hal HD HB HP
      go_wp2_with (first | (at_builtin; refine wpList_append_own _ rfl _ _ 42 rfl w.heap.size 25 i0 (.agg #[.int .i64 0, .slice none 0 0]) 2 32 Tryd.underlying42 HI.out.1 HI.out.2.1 HI.out.2.2.1 HI.out.2.2.2 rfl (by decide) _ _ _ rfl HD1.out.row ⟨w1.heap.size, 0, none⟩ 1 1 [.int .i64 cm, .slice (some ⟨g2, 0, none⟩) n cap2] rfl rfl ?c1 ?c2 ?c3 ?c4 ?c5 ?_))
      case c1 =>
        intro q u hq
        match q, hq with
        | 0, hq => simp at hq; subst hq; simp [Addr.add]
        | 1, hq => simp at hq; subst hq; simp [Addr.add]
        | q + 2, hq => simp at hq
      case c2 =>
        intro u hu
        simp at hu
        rcases hu with rfl | rfl <;> rfl
      case c3 => have := HLM.out; unfold maxLen; omega
      case c4 => have := HLM.out; omega
      case c5 => simp; omega
      intro v2 w2 hown hgrow _
      have HD3 : Hid (DatV w2 w.heap.size v2 cm (firstsE l (k + 1)) (vs ++ [.slice (some ⟨g2, 0, none⟩) n cap2])) := Lib.hid (by
        rw [HFS.out]
        exact HD1.out.more (by rw [HPL.out]; exact HO1.out) hown hgrow)
      have HB3 : Hid (Below w.heap.size w w2) := Lib.hid (HB2.out.grown hgrow HB2.out.size (fun r e => (HD1.out.row.lt r e).1))
      clear hown hgrow HD1 HB1 HB2 HO1 hs1 HLM
      have hnc : n ≤ c' := by omega
      go_wp2_with fail
      refine ⟨⟨k + 1, m - n, c' - n, _, _, HK1.out, HM2.out, by omega, rfl, ?_, HD3, HB3⟩, by simp only [sliceLen]; omega⟩
      show EntS w _ _
      split
      · intro h0
        rw [List.length_drop, ← HM2.out] at h0
        exact absurd h0 (by omega)
      · rcases hnx.out with h | h
        · exact h
        · intro h0
          rw [List.length_drop, ← HM2.out] at h0
          exact absurd h0 (by omega)
    · have jz : ¬ (0 : Int) < (m : Int) := by omega
      have hke : k = (l.length + 24) / 25 := by omega
      have HKE := Lib.hid hke
      clear hm hk hke
      go_wp2_with fail
      go_ret
      exact ⟨⟨_, rfl, vs, by have := HD.out; rw [HKE.out] at this; exact this⟩, HB.out⟩

/-- How Cut ends. -/
def cutL (c : Int) (l : List Ent) : List (List Ent) := if mayNo c 1 l = 0 then cutsE l else []
def CutY (w : World) (c : Int) (l : List Ent) (e : Ending) (w' : World) : Prop := ∃ v vs, e = .returned (.tuple #[v, .int .i64 (mayNo c 1 l)]) ∧ DatV w' w.heap.size v c (cutL c l) vs

set_option maxRecDepth 100000 in
set_option maxHeartbeats 3200000 in
theorem cutP_no (c : Int) (A : Option Addr) (ca : Nat) (l : List Ent) (hn : l.length ≤ 1000000) (ho : OkL l) (w : World) (hA : EntS w A l) (hf : Fit3 w) (h0 : ¬ mayNo c 1 l = 0) :
    Calls Tryd.prog 18 #[.int .i64 c, .slice A l.length ca] w fun e w' => e = .returned (.tuple #[.slice none 0 0, .int .i64 (mayNo c 1 l)]) ∧ Below w.heap.size w w' := by
  have hmf : ∀ (fn : Fn) (first cap : Array Value) (w : World), (Instr.makeFunc fn first cap).run Tryd.prog w = .ok (.func fn first cap) w := fun _ _ _ _ => rfl
  have hb0 := two_below w (.cells #[.int .i64 c] 22) (.cells #[.int .i64 0] 28)
  have hm := (mayGo_any c 1 (.inr rfl) A ca l (by omega) ho _ (hA.below hb0) (hf.below hb0)).mono (fun e w' h => (⟨h.1.isNo h0, h.2⟩ : e = gaveE (mayNo c 1 l) ∧ _))
  have HM := Lib.hid hm
  clear hm hb0 hA hf ho
  generalize mayNo c 1 l = no at *
  go_enter_defers Tryd.func18, Tryd.ntmps18
  go_wp2_with fail
  refine HM.out.mono ?_
  rintro e w3 ⟨rfl, hb3⟩
  obtain ⟨b1, b2, hbl⟩ := blks2 w _ _ _ _ hb3
  have e0 := b2.cell 0
  have y0 := b2.frozen 0
  have hbb := hbl.setCell (p := ⟨w.heap.size + 1, 0, none⟩) (by simp) (.int .i64 no)
  have HEF := b2.set_ 0 (.int .i64 no)
  have q0 := HEF.cell 0
  simp at e0 q0
  clear b1 b2 hbl hb3 HM
  go_wp2_with fail
  refine leaves_cons (f := 36) (args := #[.pointer (some ⟨w.heap.size + 1, 0, none⟩)]) (by simp) (by simp [go_sem]) ?_
  refine (cutPanics (w.heap.size + 1) 0 no _ e0 y0).mono ?_
  rintro e u' w'' ⟨rfl, rfl, rfl⟩
  simp [Leaves, settle, results, Tryd.results18, go_sem, q0, hbb]

theorem DatV.far {W : World} {base : Nat} {v : Value} {c : Int} {L : List (List Ent)} {vs : List Value} (h : DatV W base v c L vs) {a : Addr} (ha : a.block < base) (u : Value) : DatV (W.setCell a u) base v c L vs :=
  ⟨h.len, ownsRow_setCell_below h.row ha u, fun i hv hl => ownsRow_setCell_below (h.ent i hv hl) ha u⟩
theorem DatV.le {W : World} {base base' : Nat} {v : Value} {c : Int} {L : List (List Ent)} {vs : List Value} (h : DatV W base v c L vs) (hb : base' ≤ base) : DatV W base' v c L vs :=
  ⟨h.len, Joins.ownsRow_le h.row hb, fun i hv hl => Joins.ownsRow_le (h.ent i hv hl) hb⟩

set_option maxRecDepth 100000 in
set_option maxHeartbeats 3200000 in
theorem cutP_yes (c : Int) (A : Option Addr) (ca : Nat) (l : List Ent) (hn : l.length ≤ 1000000) (hcc : l.length ≤ ca) (ho : OkL l) (w : World) (hA : EntS w A l) (hf : Fit3 w) (h0 : mayNo c 1 l = 0) :
    Calls Tryd.prog 18 #[.int .i64 c, .slice A l.length ca] w fun e w' => (∃ v vs, e = .returned (.tuple #[v, .int .i64 0]) ∧ DatV w' w.heap.size v c (cutsE l) vs) ∧ Below w.heap.size w w' := by
  have hmf : ∀ (fn : Fn) (first cap : Array Value) (w : World), (Instr.makeFunc fn first cap).run Tryd.prog w = .ok (.func fn first cap) w := fun _ _ _ _ => rfl
  have hb0 := two_below w (.cells #[.int .i64 c] 22) (.cells #[.int .i64 0] 28)
  have hm := (mayGo_any c 1 (.inr rfl) A ca l (by omega) ho _ (hA.below hb0) (hf.below hb0)).mono (fun e w' h => (⟨h.1.isYes h0, h.2⟩ : e = .returned (.tuple #[]) ∧ _))
  have HM := Lib.hid hm
  have HHA := Lib.hid hA
  clear hm hb0 hA hf ho h0
  go_enter_defers Tryd.func18, Tryd.ntmps18
  go_wp2_with fail
  refine HM.out.mono ?_
  rintro e w3 ⟨rfl, hb3⟩
  obtain ⟨b1, b2, hbl⟩ := blks2 w _ _ _ _ hb3
  have hk0 := b1.cell 0
  simp only [List.getElem?_toArray, List.getElem?_cons_zero] at hk0
  have hs3 : w.heap.size + 2 ≤ w3.heap.size := by have := hb3.size; simpa using this
  have HC := Lib.hid (cut5_any c w.heap.size A ca l w3 hn hcc (HHA.out.below hbl) hk0)
  have HB2 := Lib.hid b2
  have HBL := Lib.hid hbl
  clear b1 b2 hbl hb3 HM hk0
  go_wp2_with fail
  refine HC.out.mono ?_
  rintro e w4 ⟨⟨v, vs, rfl, hd⟩, hb4⟩
  have hb2 := HB2.out.below hb4 HB2.out.lt
  have e0 := hb2.cell 0
  have y0 := hb2.frozen 0
  have HW5 := hb2.set_ 0 (.int .i64 0)
  have c5 := HW5.cell 0
  have z5 := HW5.frozen 0
  have q0 := (HW5.set_ 0 (.int .i64 0)).cell 0
  have hbb := ((HBL.out.trans (hb4.mono (by omega))).setCell (p := ⟨w.heap.size + 1, 0, none⟩) (by simp) (.int .i64 0)).setCell (p := ⟨w.heap.size + 1, 0, none⟩) (by simp) (.int .i64 0)
  have hdd := ((hd.far (a := ⟨w.heap.size + 1, 0, none⟩) (by simp; omega) (.int .i64 0)).far (a := ⟨w.heap.size + 1, 0, none⟩) (by simp; omega) (.int .i64 0)).le (show w.heap.size ≤ w3.heap.size by omega)
  simp at e0 c5 q0
  have HBB := Lib.hid hbb
  have HDD := Lib.hid hdd
  clear hd hb4 hb2 HW5 hbb hdd HC
  go_wp2_with fail
  refine leaves_cons (f := 36) (args := #[.pointer (some ⟨w.heap.size + 1, 0, none⟩)]) (by simp) (by simp [go_sem]) ?_
  refine (cutIdle (w.heap.size + 1) 0 _ c5 z5).mono ?_
  rintro e u' w'' ⟨rfl, rfl, rfl⟩
  simp [Leaves, settle, results, Tryd.results18, go_sem, q0]
  exact ⟨⟨vs, HDD.out⟩, HBB.out⟩

theorem cutP_any (c : Int) (A : Option Addr) (ca : Nat) (l : List Ent) (hn : l.length ≤ 1000000) (hcc : l.length ≤ ca) (ho : OkL l) (w : World) (hA : EntS w A l) (hf : Fit3 w) :
    Calls Tryd.prog 18 #[.int .i64 c, .slice A l.length ca] w fun e w' => CutY w c l e w' ∧ Below w.heap.size w w' := by
  by_cases h0 : mayNo c 1 l = 0
  · refine (cutP_yes c A ca l hn hcc ho w hA hf h0).mono ?_
    rintro e w' ⟨⟨v, vs, rfl, hd⟩, h⟩
    exact ⟨⟨v, vs, by rw [h0], by unfold cutL; rw [if_pos h0]; exact hd⟩, h⟩
  · refine (cutP_no c A ca l hn ho w hA hf h0).mono ?_
    rintro e w' ⟨rfl, h⟩
    exact ⟨⟨_, [], rfl, by unfold cutL; rw [if_neg h0]; exact ⟨rfl, World.ownsRow_nil _ _ _ _, fun i h => absurd h (by simp)⟩⟩, h⟩
end Go.Proofs.YtehhablobfaplaaDoor
