/- Layer 5's reference: Decode. -/
import Derived.Test.YtehhablobfaplaaDoorX10
namespace Go.Proofs.YtehhablobfaplaaDoor
open Go Go.RowKit Go.Shelf Go.Sort
attribute [local go_sem] Oper.semAt_some
attribute [local irreducible] wpQuiet

set_option maxRecDepth 100000 in
set_option maxHeartbeats 1600000 in
theorem refDecode_no (p : Option Addr) (c : Nat) (xs : List Int) (hn : xs.length ≤ 1000000) (w : World) (hx : ByS w p xs) (h0 : ¬ chkNo xs = 0) :
    Calls Tryd.prog 16 #[.slice p xs.length c] w fun e w' => e = .returned (.tuple #[.agg #[.int .i64 0, .slice none 0 0], .int .i64 (chkNo xs)]) ∧ Below w.heap.size w w' := by
  have hb0 : Below w.heap.size w (w.alloc (.cells #[.int .i64 0, .slice none 0 0] 25)) := (Below.refl _ _).alloc (Nat.le_refl _) _
  have hbl : Blk (w.alloc (.cells #[.int .i64 0, .slice none 0 0] 25)) w.heap.size 25 #[.int .i64 0, .slice none 0 0] := Blk.new _ _ _
  have HC := Lib.hid (refCheck5_any p c xs hn _ (hx.below hb0))
  have HB0 := Lib.hid hb0
  have HBL := Lib.hid hbl
  clear hx hb0 hbl
  generalize chkNo xs = no at *
  go_enter Tryd.func16, Tryd.ntmps16
  go_wp2_with fail
  refine HC.out.mono ?_
  rintro e w1 ⟨rfl, hb⟩
  have hk := HBL.out.below hb (by simp)
  have k0 := hk.cell 0
  have k1 := hk.cell 1
  have f0 := hk.frozen 0
  have f1 := hk.frozen 1
  have hk2 := (hk.set_ 0 (.int .i64 0)).set_ 1 (.slice none 0 0)
  have q0 := hk2.cell 0
  have q1 := hk2.cell 1
  simp at k0 k1 q0 q1
  have HBF := Lib.hid (((HB0.out.trans (hb.mono (by simp))).setCell (p := ⟨w.heap.size, 0, none⟩) (Nat.le_refl _) (.int .i64 0)).setCell (p := ⟨w.heap.size, 1, none⟩) (Nat.le_refl _) (.slice none 0 0))
  clear hb hk hk2
  go_wp2_with fail
  refine ⟨rfl, .tuple #[.agg #[.int .i64 0, .slice none 0 0], .int .i64 no], ?_, rfl, HBF.out⟩
  simp [results, Tryd.f16, go_sem, q0, q1]

set_option maxRecDepth 100000 in
set_option maxHeartbeats 1600000 in
theorem refDecode_yes (p : Option Addr) (c : Nat) (xs : List Int) (hb : IsBytes xs) (hn : xs.length ≤ 1000000) (hc : xs.length ≤ c) (w : World) (hx : ByS w p xs) (h0 : chkNo xs = 0) :
    Calls Tryd.prog 16 #[.slice p xs.length c] w fun e w' => (∃ v, e = .returned (.tuple #[.agg #[.int .i64 (xs.getD 0 0), v], .int .i64 0]) ∧ w'.ownsRow w.heap.size 55 6 v (ents (xs.drop 4)).length (entCs (ents (xs.drop 4)))) ∧ Below w.heap.size w w' := by
  have hb0 : Below w.heap.size w (w.alloc (.cells #[.int .i64 0, .slice none 0 0] 25)) := (Below.refl _ _).alloc (Nat.le_refl _) _
  have hbl : Blk (w.alloc (.cells #[.int .i64 0, .slice none 0 0] 25)) w.heap.size 25 #[.int .i64 0, .slice none 0 0] := Blk.new _ _ _
  have hlen : 4 ≤ xs.length := by
    obtain ⟨_, r, rfl, _⟩ := chk_zero h0
    simp
  obtain ⟨b, o, rfl, hlt, hcell⟩ := hx (by omega)
  have hc0 := hcell 0 (by omega)
  have hx0 := hb _ (List.getElem_mem (show 0 < xs.length by omega))
  have hgd : xs.getD 0 0 = xs[0]'(by omega) := by simp [List.getD_eq_getElem?_getD, List.getElem?_eq_getElem (show 0 < xs.length by omega)]
  rw [hgd]
  generalize (xs[0]'(by omega)) = x0 at *
  clear hgd hcell
  obtain ⟨hx1, hx2⟩ := hx0
  have hw : IntKind.i64.wrap x0 = x0 := by rw [IntKind.wrap_i64]; omega
  have hcc := refCheck5_any (some ⟨b, o, none⟩) c xs hn _ (hx.below hb0)
  rw [h0] at hcc
  have HC := Lib.hid hcc
  have hdl : (xs.drop 4).length = xs.length - 4 := List.length_drop
  have hyx : ByS w (some ⟨b, o + 4, none⟩) (xs.drop 4) := by
    have := hx.window 4 (xs.length - 4) (by omega)
    rwa [List.take_of_length_le (by rw [hdl]; omega)] at this
  have HEE := Lib.hid (fun (q : Option Addr) (k : Nat) W (hk : (xs.drop 4).length ≤ k) (h : ByS W q (xs.drop 4)) => refEach4_any q k (xs.drop 4) (hb.drop 4) (by omega) hk W h)
  have HYX := Lib.hid hyx
  have HDL := Lib.hid hdl
  have HB0 := Lib.hid hb0
  have HBL := Lib.hid hbl
  have hl0 : 0 < xs.length := by omega
  have hl4 : (4 : Int) ≤ (xs.length : Int) := by omega
  have hl6 : 4 ≤ xs.length := by omega
  have hl7 : xs.length ≤ c := by omega
  have hl5 : (xs.length : Int) ≤ (c : Int) := by omega
  have HC4 : Hid (xs.length - 4 ≤ c - 4) := Lib.hid (by omega)
  have HC5 : Hid (c = 4 → xs.length - 4 = 0) := Lib.hid (by omega)
  clear hx hb hcc hyx hdl hb0 hbl hlen hc
  generalize (xs.drop 4) = ys at *
  generalize ents ys = L at *
  generalize xs.length = n at *
  go_enter Tryd.func16, Tryd.ntmps16
  go_wp2_with fail
  refine HC.out.mono ?_
  rintro e w1 ⟨rfl, hb⟩
  have HK := Lib.hid (HBL.out.below hb (by simp))
  have HB1 := Lib.hid (HB0.out.trans (hb.mono (by simp)))
  clear hb HBL HB0 HC
  go_wp2_with fail
  have HS : Hid (∀ w', Below w1.heap.size w1 w' → w'.cell? ⟨b, o, none⟩ = some (.int .u8 x0)) := Lib.hid (fun w' h => by
    have hh := HB1.out.trans (h.mono HB1.out.size)
    exact (hh.cell (p := ⟨b, o, none⟩) hlt).trans hc0)
  refine wp_region_noPanic ?_
  refine wp_region_held_drew (S := fun w' => w'.cell? ⟨b, o, none⟩ = some (.int .u8 x0)) (by kernel_rfl) (HS.out _ (below_drew w1)) ?_
  intro hS0
  by_cases hc4 : c = 4
  · refine wpAnyH_take (i := 0) (v := ?v1) (by rw [List.getElem?_toArray]; exact rfl) (by kernel_rfl) (by kernel_rfl) (by kernel_rfl) (fun _ _ _ h => h) (Or.inl ⟨by rfl, ?hy1⟩) (by assumption) ?rest1
    case hy1 => intro w hSw; (try dsimp only at hSw); go_simp; (try with_reducible rfl)
    try simp only [Act.put, List.setIfInBounds_toArray, List.set_cons_zero, List.set_cons_succ]
    refine wpAnyH_take (i := 1) (v := ?v2) (by rw [List.getElem?_toArray]; exact rfl) (by kernel_rfl) (by kernel_rfl) (by kernel_rfl) (fun _ _ _ h => h) (Or.inl ⟨by rfl, ?hy2⟩) (by assumption) ?rest2
    case hy2 => intro w hSw; (try dsimp only at hSw); go_simp; (try with_reducible rfl)
    try simp only [Act.put, List.setIfInBounds_toArray, List.set_cons_zero, List.set_cons_succ]
    refine wpAnyH_take (i := 2) (v := ?v3) (by rw [List.getElem?_toArray]; exact rfl) (by kernel_rfl) (by kernel_rfl) (by kernel_rfl) (fun _ _ _ h => h) (Or.inl ⟨by rfl, ?hy3⟩) (by assumption) ?rest3
    case hy3 => intro w hSw; (try dsimp only at hSw); go_simp; (try with_reducible rfl)
    try simp only [Act.put, List.setIfInBounds_toArray, List.set_cons_zero, List.set_cons_succ]
    refine wpAnyH_take (i := 3) (v := ?v4) (by rw [List.getElem?_toArray]; exact rfl) (by kernel_rfl) (by kernel_rfl) (by kernel_rfl) (fun _ _ _ h => h) (Or.inl ⟨by rfl, ?hy4⟩) (by assumption) ?rest4
    case hy4 => intro w hSw; (try dsimp only at hSw); go_simp; (try with_reducible rfl)
    try simp only [Act.put, List.setIfInBounds_toArray, List.set_cons_zero, List.set_cons_succ]
    refine wpAnyH_take (i := 4) (v := ?v5) (by rw [List.getElem?_toArray]; exact rfl) (by kernel_rfl) (by kernel_rfl) (by kernel_rfl) (fun _ _ _ h => h) (Or.inl ⟨by rfl, ?hy5⟩) (by assumption) ?rest5
    case hy5 => intro w hSw; (try dsimp only at hSw); go_simp; (try with_reducible rfl)
    try simp only [Act.put, List.setIfInBounds_toArray, List.set_cons_zero, List.set_cons_succ]
    refine wpAnyH_take (i := 5) (v := ?v6) (by rw [List.getElem?_toArray]; exact rfl) (by kernel_rfl) (by kernel_rfl) (by kernel_rfl) (fun _ _ _ h => h) (Or.inl ⟨by rfl, ?hy6⟩) (by assumption) ?rest6
    case hy6 => intro w hSw; (try dsimp only at hSw); go_simp; (try with_reducible rfl)
    try simp only [Act.put, List.setIfInBounds_toArray, List.set_cons_zero, List.set_cons_succ]
    refine ready_call (i := 6) (by kernel_rfl) (by rw [List.getElem?_toArray]; exact rfl) (by kernel_rfl) (fun K1 hK1 => ?_)
    go_simp
    rw [← HDL.out]
    refine (HEE.out _ _ _ (by rw [HDL.out]; have := HC4.out; omega) ?hby).mono ?_
    case hby => intro h0; have := HC5.out hc4; have := HDL.out; omega
    rintro e w2 ⟨v, rfl, ho, hb2⟩
    have hB2 := (below_drew w1).trans (hb2.mono (below_drew w1).size)
    have HO2 := Lib.hid (Joins.ownsRow_le ho (show w1.heap.size ≤ _ from Nat.le_refl _))
    clear ho hb2
    refine hK1.out _ _ (HS.out _ hB2) (fun hS1 => ?_)
    clear hK1 K1
    try simp only [Act.put, List.setIfInBounds_toArray, List.set_cons_zero, List.set_cons_succ]
    have hform : v = .slice none 0 0 ∨ ∃ g cap, v = .slice (some ⟨g, 0, none⟩) L.length cap := (Joins.ownsRow_forms HO2.out).imp (fun h => h.1) (fun h => h)
    have HK2 := Lib.hid (HK.out.below hB2 HK.out.lt)
    have HB2 := Lib.hid (HB1.out.trans (hB2.mono HB1.out.size))
    have hls := HK.out.lt
    clear hB2 HB1
    rcases hform with rfl | ⟨g2, cap2, rfl⟩
    · refine wpAnyH_take (i := 7) (v := ?v7) (by rw [List.getElem?_toArray]; exact rfl) (by kernel_rfl) (by kernel_rfl) (by kernel_rfl) (fun _ _ _ h => h) (Or.inl ⟨by rfl, ?hy7⟩) (by assumption) ?rest7
      case hy7 => intro w hSw; (try dsimp only at hSw); go_simp; (try with_reducible rfl)
      try simp only [Act.put, List.setIfInBounds_toArray, List.set_cons_zero, List.set_cons_succ]
      refine ready_call (i := 8) (by kernel_rfl) (by rw [List.getElem?_toArray]; exact rfl) (by kernel_rfl) (fun K1 hK1 => ?_)
      have f0 := HK2.out.frozen 0
      have f1 := HK2.out.frozen 1
      have z2 := HK2.out.cell 0
      have z3 := HK2.out.cell 1
      simp only [List.getElem?_toArray, List.getElem?_cons_zero, List.getElem?_cons_succ] at z2 z3
      go_simp
      have hk3 := (HK2.out.set_ 0 (.int .i64 x0)).set_ 1 (.slice none 0 0)
      have q0 := hk3.cell 0
      have q1 := hk3.cell 1
      simp at q0 q1
      have HBF := Lib.hid ((HB2.out.setCell (p := ⟨w.heap.size, 0, none⟩) (Nat.le_refl _) (.int .i64 x0)).setCell (p := ⟨w.heap.size, 1, none⟩) (Nat.le_refl _) (.slice none 0 0))
      have HOF := Lib.hid (Joins.ownsRow_le (ownsRow_setCell_below (ownsRow_setCell_below HO2.out (a := ⟨w.heap.size, 0, none⟩) hls (.int .i64 x0)) (a := ⟨w.heap.size, 1, none⟩) hls (.slice none 0 0)) (Nat.le_of_lt hls))
      have hS2 : ((w2.setCell ⟨w.heap.size, 0, none⟩ (.int .i64 x0)).setCell ⟨w.heap.size, 1, none⟩ (.slice none 0 0)).cell? ⟨b, o, none⟩ = some (.int .u8 x0) := (HBF.out.cell (p := ⟨b, o, none⟩) hlt).trans hc0
      refine hK1.out _ _ hS2 (fun hS3 => ?_)
      clear hK1 K1 hk3
      try simp only [Act.put, List.setIfInBounds_toArray, List.set_cons_zero, List.set_cons_succ]
      refine wpAnyH_take (i := 9) (v := ?v8) (by rw [List.getElem?_toArray]; exact rfl) (by kernel_rfl) (by kernel_rfl) (by kernel_rfl) (fun _ _ _ h => h) (Or.inl ⟨by rfl, ?hy8⟩) (by assumption) ?rest8
      case hy8 => intro w hSw; (try dsimp only at hSw); go_simp; (try with_reducible rfl)
      try simp only [Act.put, List.setIfInBounds_toArray, List.set_cons_zero, List.set_cons_succ]
      refine wpAnyH_done (by kernel_rfl) ?_ _
      refine NoPanic.normal ?_
      go_wp2_with fail
      refine ⟨rfl, .tuple #[.agg #[.int .i64 x0, (.slice none 0 0)], .int .i64 0], ?_, ⟨(.slice none 0 0), rfl, HOF.out⟩, HBF.out⟩
      simp [results, Tryd.f16, go_sem, q0, q1]
    · refine wpAnyH_take (i := 7) (v := ?v9) (by rw [List.getElem?_toArray]; exact rfl) (by kernel_rfl) (by kernel_rfl) (by kernel_rfl) (fun _ _ _ h => h) (Or.inl ⟨by rfl, ?hy9⟩) (by assumption) ?rest9
      case hy9 => intro w hSw; (try dsimp only at hSw); go_simp; (try with_reducible rfl)
      try simp only [Act.put, List.setIfInBounds_toArray, List.set_cons_zero, List.set_cons_succ]
      refine ready_call (i := 8) (by kernel_rfl) (by rw [List.getElem?_toArray]; exact rfl) (by kernel_rfl) (fun K1 hK1 => ?_)
      have f0 := HK2.out.frozen 0
      have f1 := HK2.out.frozen 1
      have z2 := HK2.out.cell 0
      have z3 := HK2.out.cell 1
      simp only [List.getElem?_toArray, List.getElem?_cons_zero, List.getElem?_cons_succ] at z2 z3
      go_simp
      have hk3 := (HK2.out.set_ 0 (.int .i64 x0)).set_ 1 (.slice (some ⟨g2, 0, none⟩) L.length cap2)
      have q0 := hk3.cell 0
      have q1 := hk3.cell 1
      simp at q0 q1
      have HBF := Lib.hid ((HB2.out.setCell (p := ⟨w.heap.size, 0, none⟩) (Nat.le_refl _) (.int .i64 x0)).setCell (p := ⟨w.heap.size, 1, none⟩) (Nat.le_refl _) (.slice (some ⟨g2, 0, none⟩) L.length cap2))
      have HOF := Lib.hid (Joins.ownsRow_le (ownsRow_setCell_below (ownsRow_setCell_below HO2.out (a := ⟨w.heap.size, 0, none⟩) hls (.int .i64 x0)) (a := ⟨w.heap.size, 1, none⟩) hls (.slice (some ⟨g2, 0, none⟩) L.length cap2)) (Nat.le_of_lt hls))
      have hS2 : ((w2.setCell ⟨w.heap.size, 0, none⟩ (.int .i64 x0)).setCell ⟨w.heap.size, 1, none⟩ (.slice (some ⟨g2, 0, none⟩) L.length cap2)).cell? ⟨b, o, none⟩ = some (.int .u8 x0) := (HBF.out.cell (p := ⟨b, o, none⟩) hlt).trans hc0
      refine hK1.out _ _ hS2 (fun hS3 => ?_)
      clear hK1 K1 hk3
      try simp only [Act.put, List.setIfInBounds_toArray, List.set_cons_zero, List.set_cons_succ]
      refine wpAnyH_take (i := 9) (v := ?v10) (by rw [List.getElem?_toArray]; exact rfl) (by kernel_rfl) (by kernel_rfl) (by kernel_rfl) (fun _ _ _ h => h) (Or.inl ⟨by rfl, ?hy10⟩) (by assumption) ?rest10
      case hy10 => intro w hSw; (try dsimp only at hSw); go_simp; (try with_reducible rfl)
      try simp only [Act.put, List.setIfInBounds_toArray, List.set_cons_zero, List.set_cons_succ]
      refine wpAnyH_done (by kernel_rfl) ?_ _
      refine NoPanic.normal ?_
      go_wp2_with fail
      refine ⟨rfl, .tuple #[.agg #[.int .i64 x0, (.slice (some ⟨g2, 0, none⟩) L.length cap2)], .int .i64 0], ?_, ⟨(.slice (some ⟨g2, 0, none⟩) L.length cap2), rfl, HOF.out⟩, HBF.out⟩
      simp [results, Tryd.f16, go_sem, q0, q1]
  · refine wpAnyH_take (i := 0) (v := ?v11) (by rw [List.getElem?_toArray]; exact rfl) (by kernel_rfl) (by kernel_rfl) (by kernel_rfl) (fun _ _ _ h => h) (Or.inl ⟨by rfl, ?hy11⟩) (by assumption) ?rest11
    case hy11 => intro w hSw; (try dsimp only at hSw); go_simp; (try with_reducible rfl)
    try simp only [Act.put, List.setIfInBounds_toArray, List.set_cons_zero, List.set_cons_succ]
    refine wpAnyH_take (i := 1) (v := ?v12) (by rw [List.getElem?_toArray]; exact rfl) (by kernel_rfl) (by kernel_rfl) (by kernel_rfl) (fun _ _ _ h => h) (Or.inl ⟨by rfl, ?hy12⟩) (by assumption) ?rest12
    case hy12 => intro w hSw; (try dsimp only at hSw); go_simp; (try with_reducible rfl)
    try simp only [Act.put, List.setIfInBounds_toArray, List.set_cons_zero, List.set_cons_succ]
    refine wpAnyH_take (i := 2) (v := ?v13) (by rw [List.getElem?_toArray]; exact rfl) (by kernel_rfl) (by kernel_rfl) (by kernel_rfl) (fun _ _ _ h => h) (Or.inl ⟨by rfl, ?hy13⟩) (by assumption) ?rest13
    case hy13 => intro w hSw; (try dsimp only at hSw); go_simp; (try with_reducible rfl)
    try simp only [Act.put, List.setIfInBounds_toArray, List.set_cons_zero, List.set_cons_succ]
    refine wpAnyH_take (i := 3) (v := ?v14) (by rw [List.getElem?_toArray]; exact rfl) (by kernel_rfl) (by kernel_rfl) (by kernel_rfl) (fun _ _ _ h => h) (Or.inl ⟨by rfl, ?hy14⟩) (by assumption) ?rest14
    case hy14 => intro w hSw; (try dsimp only at hSw); go_simp; (try with_reducible rfl)
    try simp only [Act.put, List.setIfInBounds_toArray, List.set_cons_zero, List.set_cons_succ]
    refine wpAnyH_take (i := 4) (v := ?v15) (by rw [List.getElem?_toArray]; exact rfl) (by kernel_rfl) (by kernel_rfl) (by kernel_rfl) (fun _ _ _ h => h) (Or.inl ⟨by rfl, ?hy15⟩) (by assumption) ?rest15
    case hy15 => intro w hSw; (try dsimp only at hSw); go_simp; (try with_reducible rfl)
    try simp only [Act.put, List.setIfInBounds_toArray, List.set_cons_zero, List.set_cons_succ]
    refine wpAnyH_take (i := 5) (v := ?v16) (by rw [List.getElem?_toArray]; exact rfl) (by kernel_rfl) (by kernel_rfl) (by kernel_rfl) (fun _ _ _ h => h) (Or.inl ⟨by rfl, ?hy16⟩) (by assumption) ?rest16
    case hy16 => intro w hSw; (try dsimp only at hSw); go_simp; (try with_reducible rfl)
    try simp only [Act.put, List.setIfInBounds_toArray, List.set_cons_zero, List.set_cons_succ]
    refine ready_call (i := 6) (by kernel_rfl) (by rw [List.getElem?_toArray]; exact rfl) (by kernel_rfl) (fun K1 hK1 => ?_)
    go_simp
    rw [← HDL.out]
    refine (HEE.out _ _ _ (by rw [HDL.out]; have := HC4.out; omega) ?hby).mono ?_
    case hby => exact HYX.out.below (HB1.out.trans ((below_drew w1).mono HB1.out.size))
    rintro e w2 ⟨v, rfl, ho, hb2⟩
    have hB2 := (below_drew w1).trans (hb2.mono (below_drew w1).size)
    have HO2 := Lib.hid (Joins.ownsRow_le ho (show w1.heap.size ≤ _ from Nat.le_refl _))
    clear ho hb2
    refine hK1.out _ _ (HS.out _ hB2) (fun hS1 => ?_)
    clear hK1 K1
    try simp only [Act.put, List.setIfInBounds_toArray, List.set_cons_zero, List.set_cons_succ]
    have hform : v = .slice none 0 0 ∨ ∃ g cap, v = .slice (some ⟨g, 0, none⟩) L.length cap := (Joins.ownsRow_forms HO2.out).imp (fun h => h.1) (fun h => h)
    have HK2 := Lib.hid (HK.out.below hB2 HK.out.lt)
    have HB2 := Lib.hid (HB1.out.trans (hB2.mono HB1.out.size))
    have hls := HK.out.lt
    clear hB2 HB1
    rcases hform with rfl | ⟨g2, cap2, rfl⟩
    · refine wpAnyH_take (i := 7) (v := ?v17) (by rw [List.getElem?_toArray]; exact rfl) (by kernel_rfl) (by kernel_rfl) (by kernel_rfl) (fun _ _ _ h => h) (Or.inl ⟨by rfl, ?hy17⟩) (by assumption) ?rest17
      case hy17 => intro w hSw; (try dsimp only at hSw); go_simp; (try with_reducible rfl)
      try simp only [Act.put, List.setIfInBounds_toArray, List.set_cons_zero, List.set_cons_succ]
      refine ready_call (i := 8) (by kernel_rfl) (by rw [List.getElem?_toArray]; exact rfl) (by kernel_rfl) (fun K1 hK1 => ?_)
      have f0 := HK2.out.frozen 0
      have f1 := HK2.out.frozen 1
      have z2 := HK2.out.cell 0
      have z3 := HK2.out.cell 1
      simp only [List.getElem?_toArray, List.getElem?_cons_zero, List.getElem?_cons_succ] at z2 z3
      go_simp
      have hk3 := (HK2.out.set_ 0 (.int .i64 x0)).set_ 1 (.slice none 0 0)
      have q0 := hk3.cell 0
      have q1 := hk3.cell 1
      simp at q0 q1
      have HBF := Lib.hid ((HB2.out.setCell (p := ⟨w.heap.size, 0, none⟩) (Nat.le_refl _) (.int .i64 x0)).setCell (p := ⟨w.heap.size, 1, none⟩) (Nat.le_refl _) (.slice none 0 0))
      have HOF := Lib.hid (Joins.ownsRow_le (ownsRow_setCell_below (ownsRow_setCell_below HO2.out (a := ⟨w.heap.size, 0, none⟩) hls (.int .i64 x0)) (a := ⟨w.heap.size, 1, none⟩) hls (.slice none 0 0)) (Nat.le_of_lt hls))
      have hS2 : ((w2.setCell ⟨w.heap.size, 0, none⟩ (.int .i64 x0)).setCell ⟨w.heap.size, 1, none⟩ (.slice none 0 0)).cell? ⟨b, o, none⟩ = some (.int .u8 x0) := (HBF.out.cell (p := ⟨b, o, none⟩) hlt).trans hc0
      refine hK1.out _ _ hS2 (fun hS3 => ?_)
      clear hK1 K1 hk3
      try simp only [Act.put, List.setIfInBounds_toArray, List.set_cons_zero, List.set_cons_succ]
      refine wpAnyH_take (i := 9) (v := ?v18) (by rw [List.getElem?_toArray]; exact rfl) (by kernel_rfl) (by kernel_rfl) (by kernel_rfl) (fun _ _ _ h => h) (Or.inl ⟨by rfl, ?hy18⟩) (by assumption) ?rest18
      case hy18 => intro w hSw; (try dsimp only at hSw); go_simp; (try with_reducible rfl)
      try simp only [Act.put, List.setIfInBounds_toArray, List.set_cons_zero, List.set_cons_succ]
      refine wpAnyH_done (by kernel_rfl) ?_ _
      refine NoPanic.normal ?_
      go_wp2_with fail
      refine ⟨rfl, .tuple #[.agg #[.int .i64 x0, (.slice none 0 0)], .int .i64 0], ?_, ⟨(.slice none 0 0), rfl, HOF.out⟩, HBF.out⟩
      simp [results, Tryd.f16, go_sem, q0, q1]
    · refine wpAnyH_take (i := 7) (v := ?v19) (by rw [List.getElem?_toArray]; exact rfl) (by kernel_rfl) (by kernel_rfl) (by kernel_rfl) (fun _ _ _ h => h) (Or.inl ⟨by rfl, ?hy19⟩) (by assumption) ?rest19
      case hy19 => intro w hSw; (try dsimp only at hSw); go_simp; (try with_reducible rfl)
      try simp only [Act.put, List.setIfInBounds_toArray, List.set_cons_zero, List.set_cons_succ]
      refine ready_call (i := 8) (by kernel_rfl) (by rw [List.getElem?_toArray]; exact rfl) (by kernel_rfl) (fun K1 hK1 => ?_)
      have f0 := HK2.out.frozen 0
      have f1 := HK2.out.frozen 1
      have z2 := HK2.out.cell 0
      have z3 := HK2.out.cell 1
      simp only [List.getElem?_toArray, List.getElem?_cons_zero, List.getElem?_cons_succ] at z2 z3
      go_simp
      have hk3 := (HK2.out.set_ 0 (.int .i64 x0)).set_ 1 (.slice (some ⟨g2, 0, none⟩) L.length cap2)
      have q0 := hk3.cell 0
      have q1 := hk3.cell 1
      simp at q0 q1
      have HBF := Lib.hid ((HB2.out.setCell (p := ⟨w.heap.size, 0, none⟩) (Nat.le_refl _) (.int .i64 x0)).setCell (p := ⟨w.heap.size, 1, none⟩) (Nat.le_refl _) (.slice (some ⟨g2, 0, none⟩) L.length cap2))
      have HOF := Lib.hid (Joins.ownsRow_le (ownsRow_setCell_below (ownsRow_setCell_below HO2.out (a := ⟨w.heap.size, 0, none⟩) hls (.int .i64 x0)) (a := ⟨w.heap.size, 1, none⟩) hls (.slice (some ⟨g2, 0, none⟩) L.length cap2)) (Nat.le_of_lt hls))
      have hS2 : ((w2.setCell ⟨w.heap.size, 0, none⟩ (.int .i64 x0)).setCell ⟨w.heap.size, 1, none⟩ (.slice (some ⟨g2, 0, none⟩) L.length cap2)).cell? ⟨b, o, none⟩ = some (.int .u8 x0) := (HBF.out.cell (p := ⟨b, o, none⟩) hlt).trans hc0
      refine hK1.out _ _ hS2 (fun hS3 => ?_)
      clear hK1 K1 hk3
      try simp only [Act.put, List.setIfInBounds_toArray, List.set_cons_zero, List.set_cons_succ]
      refine wpAnyH_take (i := 9) (v := ?v20) (by rw [List.getElem?_toArray]; exact rfl) (by kernel_rfl) (by kernel_rfl) (by kernel_rfl) (fun _ _ _ h => h) (Or.inl ⟨by rfl, ?hy20⟩) (by assumption) ?rest20
      case hy20 => intro w hSw; (try dsimp only at hSw); go_simp; (try with_reducible rfl)
      try simp only [Act.put, List.setIfInBounds_toArray, List.set_cons_zero, List.set_cons_succ]
      refine wpAnyH_done (by kernel_rfl) ?_ _
      refine NoPanic.normal ?_
      go_wp2_with fail
      refine ⟨rfl, .tuple #[.agg #[.int .i64 x0, (.slice (some ⟨g2, 0, none⟩) L.length cap2)], .int .i64 0], ?_, ⟨(.slice (some ⟨g2, 0, none⟩) L.length cap2), rfl, HOF.out⟩, HBF.out⟩
      simp [results, Tryd.f16, go_sem, q0, q1]

theorem refDecode5_any (p : Option Addr) (c : Nat) (xs : List Int) (hb : IsBytes xs) (hn : xs.length ≤ 1000000) (hc : xs.length ≤ c) (w : World) (hx : ByS w p xs) :
    Calls Tryd.prog 16 #[.slice p xs.length c] w fun e w' => DecY w xs e w' ∧ Below w.heap.size w w' := by
  by_cases h0 : chkNo xs = 0
  · refine (refDecode_yes p c xs hb hn hc w hx h0).mono ?_
    rintro e w' ⟨⟨v, rfl, ho⟩, h⟩
    have hd : decD xs = ⟨xs.getD 0 0, ents (xs.drop 4)⟩ := if_pos h0
    refine ⟨⟨v, ?_, ?_⟩, h⟩
    · rw [hd, h0]
    · rw [hd]
      exact ho
  · refine (refDecode_no p c xs hn w hx h0).mono ?_
    rintro e w' ⟨rfl, h⟩
    refine ⟨⟨.slice none 0 0, ?_, ?_⟩, h⟩
    · rw [decD_no h0]
    · rw [decD_no h0]
      exact World.ownsRow_nil _ _ _ _
end Go.Proofs.YtehhablobfaplaaDoor
