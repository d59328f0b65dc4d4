/- Layer 5's program: Decode, Check. -/
import Derived.Test.YtehhablobfaplaaDoorX7
namespace Go.Proofs.YtehhablobfaplaaDoor
open Go Go.RowKit Go.Shelf Go.Sort
attribute [local go_sem] Oper.semAt_some

/-- Entries of an own slice lie there. -/
theorem ownE_ents {W : World} {base : Nat} {v : Value} {l : List Ent} (h : W.ownsRow base 55 6 v l.length (entCs l)) : ∃ A cap, v = .slice A l.length cap ∧ l.length ≤ cap ∧ EntS W A l := by
  obtain ⟨A, cap, rfl, hc, hA⟩ := ownE_open h
  refine ⟨A, cap, rfl, hc, fun h0 => ?_⟩
  obtain ⟨g, rfl, _, hg, hcell⟩ := hA h0
  refine ⟨g, 0, rfl, hg, fun j hj r hr => ?_⟩
  rw [show 0 + j * 6 + r = 6 * j + r by omega, hcell j hj r hr]
  rfl

/-- How Decode ends. -/
def DecY (w : World) (xs : List Int) (e : Ending) (w' : World) : Prop := ∃ v, e = .returned (.tuple #[.agg #[.int .i64 (decD xs).c, v], .int .i64 (chkNo xs)]) ∧ w'.ownsRow w.heap.size 55 6 v (decD xs).l.length (entCs (decD xs).l)
theorem decD_no {xs : List Int} (h : ¬ chkNo xs = 0) : decD xs = ⟨0, []⟩ := if_neg h
theorem decD_yes {xs : List Int} (h : chkNo xs = 0) : decD xs = ⟨readN xs 0 1, ents (xs.drop 4)⟩ := by
  unfold decD
  rw [if_pos h]
  obtain ⟨c, r, rfl, _⟩ := chk_zero h
  congr 1
  exact (readN_one (i := 0) (by simp)).symm

set_option maxRecDepth 100000 in
set_option maxHeartbeats 3200000 in
theorem decode5_no (p : Option Addr) (c : Nat) (xs : List Int) (hb : IsBytes xs) (hn : xs.length ≤ 1000000) (hc : xs.length ≤ c) (w : World) (hx : ByS w p xs) (hf : Fit3 w) (h0 : ¬ chkNo xs = 0) :
    Calls Tryd.prog 14 #[.slice p xs.length c] w fun e w' => e = .returned (.tuple #[.agg #[.int .i64 0, .slice none 0 0], .int .i64 (chkNo xs)]) ∧ Below w.heap.size w w' := by
  have hmf : ∀ (fn : Fn) (first cap : Array Value) (w : World), (Instr.makeFunc fn first cap).run Tryd.prog w = .ok (.func fn first cap) w := fun _ _ _ _ => rfl
  have hb0 := two_below w (.cells #[.int .i64 0, .slice none 0 0] 25) (.cells #[.int .i64 0] 28)
  have HM := Lib.hid (datagram_no p c xs hb hn hc _ (hx.below hb0) (hf.below hb0) h0)
  clear hb0 hx hf hb h0
  generalize chkNo xs = no at *
  go_enter_defers Tryd.func14, Tryd.ntmps14
  go_wp2_with fail
  refine HM.out.mono ?_
  rintro e w3 ⟨rfl, hb3⟩
  obtain ⟨b1, b2, hbl⟩ := blks2 w _ _ _ _ hb3
  have e0 := b2.cell 0
  have y0 := b2.frozen 0
  have hbb := hbl.setCell (p := ⟨w.heap.size + 1, 0, none⟩) (by simp) (.int .i64 no)
  have HSF := b1.far (p := ⟨w.heap.size + 1, 0, none⟩) (by simp) (.int .i64 no)
  have s0 := HSF.cell 0
  have s1 := HSF.cell 1
  have HEF := b2.set_ 0 (.int .i64 no)
  have q0 := HEF.cell 0
  simp at e0 q0 s0 s1
  clear b1 b2 hbl hb3 HM
  go_wp2_with fail
  refine leaves_cons (f := 32) (args := #[.pointer (some ⟨w.heap.size + 1, 0, none⟩)]) (by simp) (by simp [go_sem]) ?_
  refine (decPanics (w.heap.size + 1) 0 no _ e0 y0).mono ?_
  rintro e u' w'' ⟨rfl, rfl, rfl⟩
  simp [Leaves, settle, results, Tryd.results14, go_sem, q0, s0, s1, hbb]

set_option maxRecDepth 100000 in
set_option maxHeartbeats 3200000 in
theorem decode5_yes (p : Option Addr) (c : Nat) (xs : List Int) (hb : IsBytes xs) (hn : xs.length ≤ 1000000) (hc : xs.length ≤ c) (w : World) (hx : ByS w p xs) (hf : Fit3 w) (h0 : chkNo xs = 0) :
    Calls Tryd.prog 14 #[.slice p xs.length c] w fun e w' => (∃ v, e = .returned (.tuple #[.agg #[.int .i64 (readN xs 0 1), v], .int .i64 0]) ∧ w'.ownsRow w.heap.size 55 6 v (ents (xs.drop 4)).length (entCs (ents (xs.drop 4)))) ∧ Below w.heap.size w w' := by
  have hmf : ∀ (fn : Fn) (first cap : Array Value) (w : World), (Instr.makeFunc fn first cap).run Tryd.prog w = .ok (.func fn first cap) w := fun _ _ _ _ => rfl
  have hb0 := two_below w (.cells #[.int .i64 0, .slice none 0 0] 25) (.cells #[.int .i64 0] 28)
  have hm := callsIn_wide.1 (datagram_yes p c xs hb hn hc _ (hx.below hb0) (hf.below hb0) h0)
  unfold DgY at hm
  have HM := Lib.hid hm
  clear hm hb0 hx hf hb h0
  generalize readN xs 0 1 = cm at *
  generalize ents (xs.drop 4) = L at *
  go_enter_defers Tryd.func14, Tryd.ntmps14
  go_wp2_with fail
  refine HM.out.mono ?_
  rintro e w3 ⟨⟨v, rfl, ho⟩, hb3⟩
  obtain ⟨b1, b2, hbl⟩ := blks2 w _ _ _ _ hb3
  have ho := Joins.ownsRow_le ho (show w.heap.size + 2 ≤ _ by simp)
  have hform : v = .slice none 0 0 ∨ ∃ g cap, v = .slice (some ⟨g, 0, none⟩) L.length cap := (Joins.ownsRow_forms ho).imp (fun h => h.1) (fun h => h)
  rcases hform with rfl | ⟨g2, cap2, rfl⟩
  · have d0 := b1.cell 0
    have d1 := b1.cell 1
    have x0 := b1.frozen 0
    have x1 := b1.frozen 1
    have e0 := b2.cell 0
    have y0 := b2.frozen 0
    have hS := (b1.set_ 0 (.int .i64 cm)).set_ 1 (.slice none 0 0)
    have hE := (b2.far (p := ⟨w.heap.size, 0, none⟩) (by simp) (.int .i64 cm)).far (p := ⟨w.heap.size, 1, none⟩) (by simp) (.slice none 0 0)
    have hB := (hbl.setCell (p := ⟨w.heap.size, 0, none⟩) (Nat.le_refl _) (.int .i64 cm)).setCell (p := ⟨w.heap.size, 1, none⟩) (Nat.le_refl _) (.slice none 0 0)
    have hO := ownsRow_setCell_below (ownsRow_setCell_below ho (a := ⟨w.heap.size, 0, none⟩) (by simp) (.int .i64 cm)) (a := ⟨w.heap.size, 1, none⟩) (by simp) (.slice none 0 0)
    simp only [List.getElem?_toArray, List.getElem?_cons_zero, List.getElem?_cons_succ] at d0 d1 e0
    have HS := Lib.hid hS
    have HEE := Lib.hid hE
    have HB := Lib.hid hB
    have HO := Lib.hid hO
    clear b1 b2 hbl hb3 HM hS hE hB hO ho
    go_wp2_with fail
    have HW5 := HEE.out.set_ 0 (.int .i64 0)
    have HS5 := HS.out.far (p := ⟨w.heap.size + 1, 0, none⟩) (by simp) (.int .i64 0)
    have c5 := HW5.cell 0
    have z5 := HW5.frozen 0
    have hbb := (HB.out.setCell (p := ⟨w.heap.size + 1, 0, none⟩) (by simp) (.int .i64 0)).setCell (p := ⟨w.heap.size + 1, 0, none⟩) (by simp) (.int .i64 0)
    have hoo := Joins.ownsRow_le (ownsRow_setCell_below (ownsRow_setCell_below HO.out (a := ⟨w.heap.size + 1, 0, none⟩) (by simp) (.int .i64 0)) (a := ⟨w.heap.size + 1, 0, none⟩) (by simp) (.int .i64 0)) (show w.heap.size ≤ w.heap.size + 2 by omega)
    have HSF := HS5.far (p := ⟨w.heap.size + 1, 0, none⟩) (by simp) (.int .i64 0)
    have HEF := HW5.set_ 0 (.int .i64 0)
    have s0 := HSF.cell 0
    have s1 := HSF.cell 1
    have q0 := HEF.cell 0
    simp at c5 s0 s1 q0
    refine leaves_cons (f := 32) (args := #[.pointer (some ⟨w.heap.size + 1, 0, none⟩)]) (by simp) (by simp [go_sem]) ?_
    refine (decIdle (w.heap.size + 1) 0 _ c5 z5).mono ?_
    rintro e u' w'' ⟨rfl, rfl, rfl⟩
    have HOO := Lib.hid hoo
    have HBB := Lib.hid hbb
    clear hoo hbb HS5 HW5 HSF HEF c5 z5
    simp [Leaves, settle, results, Tryd.results14, go_sem, s0, s1, q0]
    exact ⟨HOO.out, HBB.out⟩
  · have d0 := b1.cell 0
    have d1 := b1.cell 1
    have x0 := b1.frozen 0
    have x1 := b1.frozen 1
    have e0 := b2.cell 0
    have y0 := b2.frozen 0
    have hS := (b1.set_ 0 (.int .i64 cm)).set_ 1 (.slice (some ⟨g2, 0, none⟩) L.length cap2)
    have hE := (b2.far (p := ⟨w.heap.size, 0, none⟩) (by simp) (.int .i64 cm)).far (p := ⟨w.heap.size, 1, none⟩) (by simp) (.slice (some ⟨g2, 0, none⟩) L.length cap2)
    have hB := (hbl.setCell (p := ⟨w.heap.size, 0, none⟩) (Nat.le_refl _) (.int .i64 cm)).setCell (p := ⟨w.heap.size, 1, none⟩) (Nat.le_refl _) (.slice (some ⟨g2, 0, none⟩) L.length cap2)
    have hO := ownsRow_setCell_below (ownsRow_setCell_below ho (a := ⟨w.heap.size, 0, none⟩) (by simp) (.int .i64 cm)) (a := ⟨w.heap.size, 1, none⟩) (by simp) (.slice (some ⟨g2, 0, none⟩) L.length cap2)
    simp only [List.getElem?_toArray, List.getElem?_cons_zero, List.getElem?_cons_succ] at d0 d1 e0
    have HS := Lib.hid hS
    have HEE := Lib.hid hE
    have HB := Lib.hid hB
    have HO := Lib.hid hO
    clear b1 b2 hbl hb3 HM hS hE hB hO ho
    go_wp2_with fail
    have HW5 := HEE.out.set_ 0 (.int .i64 0)
    have HS5 := HS.out.far (p := ⟨w.heap.size + 1, 0, none⟩) (by simp) (.int .i64 0)
    have c5 := HW5.cell 0
    have z5 := HW5.frozen 0
    have hbb := (HB.out.setCell (p := ⟨w.heap.size + 1, 0, none⟩) (by simp) (.int .i64 0)).setCell (p := ⟨w.heap.size + 1, 0, none⟩) (by simp) (.int .i64 0)
    have hoo := Joins.ownsRow_le (ownsRow_setCell_below (ownsRow_setCell_below HO.out (a := ⟨w.heap.size + 1, 0, none⟩) (by simp) (.int .i64 0)) (a := ⟨w.heap.size + 1, 0, none⟩) (by simp) (.int .i64 0)) (show w.heap.size ≤ w.heap.size + 2 by omega)
    have HSF := HS5.far (p := ⟨w.heap.size + 1, 0, none⟩) (by simp) (.int .i64 0)
    have HEF := HW5.set_ 0 (.int .i64 0)
    have s0 := HSF.cell 0
    have s1 := HSF.cell 1
    have q0 := HEF.cell 0
    simp at c5 s0 s1 q0
    refine leaves_cons (f := 32) (args := #[.pointer (some ⟨w.heap.size + 1, 0, none⟩)]) (by simp) (by simp [go_sem]) ?_
    refine (decIdle (w.heap.size + 1) 0 _ c5 z5).mono ?_
    rintro e u' w'' ⟨rfl, rfl, rfl⟩
    have HOO := Lib.hid hoo
    have HBB := Lib.hid hbb
    clear hoo hbb HS5 HW5 HSF HEF c5 z5
    simp [Leaves, settle, results, Tryd.results14, go_sem, s0, s1, q0]
    exact ⟨HOO.out, HBB.out⟩

theorem decode5_any (p : Option Addr) (c : Nat) (xs : List Int) (hb : IsBytes xs) (hn : xs.length ≤ 1000000) (hc : xs.length ≤ c) (w : World) (hx : ByS w p xs) (hf : Fit3 w) :
    Calls Tryd.prog 14 #[.slice p xs.length c] w fun e w' => DecY w xs e w' ∧ Below w.heap.size w w' := by
  by_cases h0 : chkNo xs = 0
  · refine (decode5_yes p c xs hb hn hc w hx hf h0).mono ?_
    rintro e w' ⟨⟨v, rfl, ho⟩, h⟩
    refine ⟨⟨v, ?_, ?_⟩, h⟩
    · rw [decD_yes h0, h0]
    · rw [decD_yes h0]
      exact ho
  · refine (decode5_no p c xs hb hn hc w hx hf h0).mono ?_
    rintro e w' ⟨rfl, h⟩
    refine ⟨⟨.slice none 0 0, ?_, ?_⟩, h⟩
    · rw [decD_no h0]
    · rw [decD_no h0]
      exact World.ownsRow_nil _ _ _ _

set_option maxHeartbeats 800000 in
theorem check5_any (p : Option Addr) (c : Nat) (xs : List Int) (hb : IsBytes xs) (hn : xs.length ≤ 1000000) (hc : xs.length ≤ c) (w : World) (hx : ByS w p xs) (hf : Fit3 w) :
    Calls Tryd.prog 17 #[.slice p xs.length c] w fun e w' => e = .returned (.int .i64 (chkNo xs)) ∧ Below w.heap.size w w' := by
  have hd := decode5_any p c xs hb hn hc w hx hf
  unfold DecY at hd
  have HD := Lib.hid hd
  clear hd hb hx hf
  generalize decD xs = dd at *
  obtain ⟨cm, L⟩ := dd
  generalize chkNo xs = no at *
  go_enter Tryd.func17, Tryd.ntmps17
  go_wp2_with fail
  refine HD.out.mono ?_
  rintro e w1 ⟨⟨v, rfl, ho⟩, hb⟩
  have hform : v = .slice none 0 0 ∨ ∃ g cap, v = .slice (some ⟨g, 0, none⟩) L.length cap := (Joins.ownsRow_forms ho).imp (fun h => h.1) (fun h => h)
  dsimp only at *
  clear ho HD
  rcases hform with rfl | ⟨g2, cap2, rfl⟩
  · have HB := Lib.hid (hb.alloc hb.size (.cells #[.int .i64 cm, .slice none 0 0] 25))
    clear hb
    go_wp2_with fail
    go_ret
    exact ⟨rfl, HB.out⟩
  · have HB := Lib.hid (hb.alloc hb.size (.cells #[.int .i64 cm, .slice (some ⟨g2, 0, none⟩) L.length cap2] 25))
    clear hb
    go_wp2_with fail
    go_ret
    exact ⟨rfl, HB.out⟩
end Go.Proofs.YtehhablobfaplaaDoor
