/- Contracts of the reference of layer 2: Stands, Common. -/
import Derived.Test.YtghkacciihocdaaC4
namespace Go.Proofs.Ytghkacciihocdaa
open Go Go.RowKit Go.Sort
attribute [local go_sem] Oper.semAt_some
attribute [local irreducible] wpQuiet

/-- How one stands to another one, of such as may be. -/
def standF (x n y m : Int) : Int := if x = y ∧ n = m then 1 else if m ≤ n ∧ hasP y m x then 2 else if n ≤ m ∧ hasP x n y then 3 else 4

set_option maxRecDepth 100000 in
set_option maxHeartbeats 3200000 in
theorem refStands_any (x n y m : Int) (x0 : 0 ≤ x) (x1 : x < 4294967296) (y0 : 0 ≤ y) (y1 : y < 4294967296) (w : World) :
    Calls Try.prog 64 #[pfx x n, pfx y m] w fun e w' => e = .returned (.int .i64 (standF x n y m)) ∧ Below w.heap.size w w' := by
  by_cases hsame : x = y ∧ n = m
  · have h : standF x n y m = 1 := by unfold standF; rw [if_pos hsame]
    obtain ⟨rfl, rfl⟩ := hsame
    have HB := Lib.hid h
    clear h
    go_enter Try.func64, Try.ntmps64
    go_wp2_with fail
    go_ret
    exact ⟨by rw [HB.out]; rfl, two_below w _ _⟩
  · have hd : (x = y ∧ ¬ n = m) ∨ ¬ x = y := by
      by_cases e : x = y
      · exact .inl ⟨e, fun e2 => hsame ⟨e, e2⟩⟩
      · exact .inr e
    have hst : standF x n y m = if m ≤ n ∧ hasP y m x then 2 else if n ≤ m ∧ hasP x n y then 3 else 4 := by unfold standF; rw [if_neg hsame]
    have HS := Lib.hid hst
    clear hst hsame
    have hcells : ∀ w1 : World, Below ((w.alloc (.cells #[.int .u32 x, .int .i64 n] 34)).alloc (.cells #[.int .u32 y, .int .i64 m] 34)).heap.size ((w.alloc (.cells #[.int .u32 x, .int .i64 n] 34)).alloc (.cells #[.int .u32 y, .int .i64 m] 34)) w1 →
        (w1.cell? ⟨w.heap.size, 0, none⟩ = some (.int .u32 x) ∧ w1.cell? ⟨w.heap.size, 1, none⟩ = some (.int .i64 n) ∧ w1.cell? ⟨w.heap.size + 1, 0, none⟩ = some (.int .u32 y) ∧ w1.cell? ⟨w.heap.size + 1, 1, none⟩ = some (.int .i64 m)) ∧ Below w.heap.size w w1 := fun w1 hb => by
      have b1 : Blk w1 w.heap.size 34 #[.int .u32 x, .int .i64 n] := ((Blk.new w _ _).alloc _).below hb (by simp; omega)
      have b2 : Blk w1 (w.heap.size + 1) 34 #[.int .u32 y, .int .i64 m] := by
        have := (Blk.new (w.alloc (.cells #[.int .u32 x, .int .i64 n] 34)) 34 #[.int .u32 y, .int .i64 m]).below hb (by simp)
        simpa using this
      exact ⟨⟨by rw [b1.cell]; rfl, by rw [b1.cell]; rfl, by rw [b2.cell]; rfl, by rw [b2.cell]; rfl⟩, (two_below w _ _).trans (hb.mono (by simp; omega))⟩
    have HCE := Lib.hid hcells
    have HBW := Lib.hid (two_below w (.cells #[.int .u32 x, .int .i64 n] 34) (.cells #[.int .u32 y, .int .i64 m] 34))
    clear hcells
    rcases hd with ⟨rfl, hnm⟩ | hxy
    · by_cases hmn : m ≤ n
      · go_enter Try.func64, Try.ntmps64
        go_wp2_with fail
        refine (refHas_any x m x y0 y1 x0 x1 _).mono ?_
        rintro e w1 ⟨rfl, hb⟩
        obtain ⟨⟨c0, c1, c2, c3⟩, hbl⟩ := HCE.out w1 hb
        have HB1 := Lib.hid hbl
        have HBX := Lib.hid hb
        clear hb hbl
        by_cases hh : hasP x m x
        · have h := HS.out
          rw [if_pos ⟨hmn, hh⟩] at h
          have HV := Lib.hid h
          have hdec : decide (hasP x m x) = true := decide_eq_true hh
          rw [hdec]
          clear h hdec
          go_wp2_with fail
          go_ret
          exact ⟨by rw [HV.out]; rfl, HB1.out⟩
        · have hdec : decide (hasP x m x) = false := decide_eq_false hh
          rw [hdec]
          clear hdec
          by_cases hnm2 : n ≤ m
          · exact absurd (Int.le_antisymm hnm2 hmn) hnm
          · have h := HS.out
            rw [if_neg (fun h => hh h.2), if_neg (fun h => by have := h.1; omega)] at h
            have HV := Lib.hid h
            clear h
            go_wp2_with fail
            go_ret
            exact ⟨by rw [HV.out]; rfl, HB1.out⟩
      · have hnm2 : n ≤ m := by omega
        go_enter Try.func64, Try.ntmps64
        go_wp2_with fail
        refine (refHas_any x n x x0 x1 y0 y1 _).mono ?_
        rintro e w2 ⟨rfl, hb2⟩
        have HB2 := Lib.hid (HBW.out.trans (hb2.mono HBW.out.size))
        clear hb2
        by_cases hh2 : hasP x n x
        · have h := HS.out
          rw [if_neg (fun h => by have := h.1; omega), if_pos ⟨hnm2, hh2⟩] at h
          have HV := Lib.hid h
          rw [decide_eq_true hh2]
          clear h
          go_wp2_with fail
          go_ret
          exact ⟨by rw [HV.out]; rfl, HB2.out⟩
        · have h := HS.out
          rw [if_neg (fun h => by have := h.1; omega), if_neg (fun h => hh2 h.2)] at h
          have HV := Lib.hid h
          rw [decide_eq_false hh2]
          clear h
          go_wp2_with fail
          go_ret
          exact ⟨by rw [HV.out]; rfl, HB2.out⟩
    · by_cases hmn : m ≤ n
      · go_enter Try.func64, Try.ntmps64
        go_wp2_with fail
        refine (refHas_any y m x y0 y1 x0 x1 _).mono ?_
        rintro e w1 ⟨rfl, hb⟩
        obtain ⟨⟨c0, c1, c2, c3⟩, hbl⟩ := HCE.out w1 hb
        have HB1 := Lib.hid hbl
        have HBX := Lib.hid hb
        clear hb hbl
        by_cases hh : hasP y m x
        · have h := HS.out
          rw [if_pos ⟨hmn, hh⟩] at h
          have HV := Lib.hid h
          have hdec : decide (hasP y m x) = true := decide_eq_true hh
          rw [hdec]
          clear h hdec
          go_wp2_with fail
          go_ret
          exact ⟨by rw [HV.out]; rfl, HB1.out⟩
        · have hdec : decide (hasP y m x) = false := decide_eq_false hh
          rw [hdec]
          clear hdec
          by_cases hnm2 : n ≤ m
          · go_wp2_with fail
            refine (refHas_any x n y x0 x1 y0 y1 _).mono ?_
            rintro e w2 ⟨rfl, hb2⟩
            have HB2 := Lib.hid (HB1.out.trans (hb2.mono HB1.out.size))
            clear hb2
            by_cases hh2 : hasP x n y
            · have h := HS.out
              rw [if_neg (fun h => hh h.2), if_pos ⟨hnm2, hh2⟩] at h
              have HV := Lib.hid h
              rw [decide_eq_true hh2]
              clear h
              go_wp2_with fail
              go_ret
              exact ⟨by rw [HV.out]; rfl, HB2.out⟩
            · have h := HS.out
              rw [if_neg (fun h => hh h.2), if_neg (fun h => hh2 h.2)] at h
              have HV := Lib.hid h
              rw [decide_eq_false hh2]
              clear h
              go_wp2_with fail
              go_ret
              exact ⟨by rw [HV.out]; rfl, HB2.out⟩
          · have h := HS.out
            rw [if_neg (fun h => hh h.2), if_neg (fun h => by have := h.1; omega)] at h
            have HV := Lib.hid h
            clear h
            go_wp2_with fail
            go_ret
            exact ⟨by rw [HV.out]; rfl, HB1.out⟩
      · have hnm2 : n ≤ m := by omega
        go_enter Try.func64, Try.ntmps64
        go_wp2_with fail
        refine (refHas_any x n y x0 x1 y0 y1 _).mono ?_
        rintro e w2 ⟨rfl, hb2⟩
        have HB2 := Lib.hid (HBW.out.trans (hb2.mono HBW.out.size))
        clear hb2
        by_cases hh2 : hasP x n y
        · have h := HS.out
          rw [if_neg (fun h => by have := h.1; omega), if_pos ⟨hnm2, hh2⟩] at h
          have HV := Lib.hid h
          rw [decide_eq_true hh2]
          clear h
          go_wp2_with fail
          go_ret
          exact ⟨by rw [HV.out]; rfl, HB2.out⟩
        · have h := HS.out
          rw [if_neg (fun h => by have := h.1; omega), if_neg (fun h => hh2 h.2)] at h
          have HV := Lib.hid h
          rw [decide_eq_false hh2]
          clear h
          go_wp2_with fail
          go_ret
          exact ⟨by rw [HV.out]; rfl, HB2.out⟩

set_option maxRecDepth 100000 in
set_option maxHeartbeats 3200000 in
theorem refCommon_any (x n y m : Int) (x0 : 0 ≤ x) (x1 : x < 4294967296) (y0 : 0 ≤ y) (y1 : y < 4294967296) (hn0 : 0 ≤ n) (hn : n ≤ 32) (hm0 : 0 ≤ m) (hm : m ≤ 32) (w : World) :
    Calls Try.prog 62 #[pfx x n, pfx y m] w fun e w' => (∃ k : Nat, k ≤ n ∧ k ≤ m ∧ (∀ i, i < k → bitN x i = bitN y i) ∧ ((k : Int) < n → (k : Int) < m → bitN x k ≠ bitN y k) ∧ e = .returned (pfx (cutTo x k) k)) ∧ Below w.heap.size w w' := by
  obtain ⟨n, rfl⟩ : ∃ j : Nat, n = j := ⟨n.toNat, by omega⟩
  obtain ⟨m, rfl⟩ : ∃ j : Nat, m = j := ⟨m.toNat, by omega⟩
  have HO := Lib.hid (own3_new w x n y m)
  go_enter Try.func62, Try.ntmps62
  go_wp2_with fail
  go_loopw [5] (fun i wr => ∃ q : Nat, q ≤ n ∧ q ≤ m ∧ i = .int .i64 q ∧ Hid (∀ i, i < q → bitN x i = bitN y i) ∧ Hid (Own3 w x n y m wr)) (fun i _ => n - (intOf i).toNat)
  case atStart => exact ⟨0, by omega, by omega, rfl, Lib.hid (fun i _ => by omega), HO⟩
  case round =>
    obtain ⟨q, hq, hq2, rfl, HZ, HW⟩ := hrel
    have c0 := HW.out.1.cell 0
    have c1 := HW.out.1.cell 1
    have d0 := HW.out.2.1.cell 0
    have d1 := HW.out.2.1.cell 1
    simp only [List.getElem?_toArray, List.getElem?_cons_zero, List.getElem?_cons_succ] at c0 c1 d0 d1
    have k0 := cell_regrown c0
    have k1 := cell_regrown c1
    have l0 := cell_regrown d0
    have l1 := cell_regrown d1
    by_cases hlt : q < n
    · by_cases hlt2 : q < m
      · have bX := bit_quiet x x0 x1 q (by omega) wr
        have bY := bit_quiet y y0 y1 q (by omega) wr
        clear c0 c1 d0 d1
        go_wp2_with fail
        refine wp_region_quiet_below (by kernel_rfl) (by kernel_rfl) ?_
        repeat (quiet_step (first | (with_reducible exact bX _ _) | (with_reducible exact bY _ _)))
        refine wpQuiet_nil ?_
        intro w2 hw2
        obtain ⟨⟨dq, osq⟩, rfl⟩ := hw2
        have HW2 := Lib.hid (HW.out.below (below_regrown wr dq osq))
        generalize grow (redrawn wr dq) osq = w2 at *
        clear k0 k1 l0 l1 bX bY
        have c0 := HW2.out.1.cell 0
        simp only [List.getElem?_toArray, List.getElem?_cons_zero] at c0
        by_cases hz : bitN x q = bitN y q
        · have HZ2 : Hid (∀ i, i < q + 1 → bitN x i = bitN y i) := Lib.hid (fun i hi => by
            rcases Nat.lt_or_ge i q with h | h
            · exact HZ.out i h
            · obtain rfl : i = q := by omega
              exact hz)
          go_wp2_with fail
          go_roundw
          case rel => exact ⟨q + 1, by omega, by omega, by go_num, HZ2, HW2⟩
          case measure => simp [intOf]; omega
        · go_wp2_with fail
          refine (refOf_any x x0 x1 q (by omega) _).mono ?_
          rintro e w3 ⟨rfl, hb3⟩
          have HW3 := Lib.hid (HW2.out.below hb3)
          have e0 := HW3.out.2.2.1.cell 0
          have e1 := HW3.out.2.2.1.cell 1
          have f0 := HW3.out.2.2.1.frozen 0
          have f1 := HW3.out.2.2.1.frozen 1
          simp only [List.getElem?_toArray, List.getElem?_cons_zero, List.getElem?_cons_succ] at e0 e1
          clear hb3
          go_wp2_with fail
          have hS := (HW3.out.2.2.1.set_ 0 (.int .u32 (cutTo x q))).set_ 1 (.int .i64 q)
          have s0 := hS.cell 0
          have s1 := hS.cell 1
          simp at s0 s1
          have hbF := (HW3.out.2.2.2.setCell (p := ⟨w.heap.size + 2, 0, none⟩) (by simp) (.int .u32 (cutTo x q))).setCell (p := ⟨w.heap.size + 2, 1, none⟩) (by simp) (.int .i64 q)
          refine ⟨rfl, .agg #[.int .u32 (cutTo x q), .int .i64 q], ?_, ⟨q, by omega, by omega, HZ.out, fun _ _ => hz, rfl⟩, hbF⟩
          simp [results, Try.f62, go_sem, s0, s1]
      · obtain rfl : q = m := by omega
        clear c0 c1 d0 d1
        go_wp2_with fail
        refine wp_region_quiet_below (by kernel_rfl) (by kernel_rfl) ?_
        repeat (quiet_step (fail))
        refine wpQuiet_nil ?_
        intro w2 hw2
        obtain ⟨⟨dq, osq⟩, rfl⟩ := hw2
        have HW2 := Lib.hid (HW.out.below (below_regrown wr dq osq))
        generalize grow (redrawn wr dq) osq = w2 at *
        clear k0 k1 l0 l1
        have c0 := HW2.out.1.cell 0
        simp only [List.getElem?_toArray, List.getElem?_cons_zero] at c0
        go_wp2_with fail
        refine (refOf_any x x0 x1 q (by omega) _).mono ?_
        rintro e w3 ⟨rfl, hb3⟩
        have HW3 := Lib.hid (HW2.out.below hb3)
        have e0 := HW3.out.2.2.1.cell 0
        have e1 := HW3.out.2.2.1.cell 1
        have f0 := HW3.out.2.2.1.frozen 0
        have f1 := HW3.out.2.2.1.frozen 1
        simp only [List.getElem?_toArray, List.getElem?_cons_zero, List.getElem?_cons_succ] at e0 e1
        clear hb3
        go_wp2_with fail
        have hS := (HW3.out.2.2.1.set_ 0 (.int .u32 (cutTo x q))).set_ 1 (.int .i64 q)
        have s0 := hS.cell 0
        have s1 := hS.cell 1
        simp at s0 s1
        have hbF := (HW3.out.2.2.2.setCell (p := ⟨w.heap.size + 2, 0, none⟩) (by simp) (.int .u32 (cutTo x q))).setCell (p := ⟨w.heap.size + 2, 1, none⟩) (by simp) (.int .i64 q)
        refine ⟨rfl, .agg #[.int .u32 (cutTo x q), .int .i64 q], ?_, ⟨q, by omega, by omega, HZ.out, fun _ h => absurd h (by omega), rfl⟩, hbF⟩
        simp [results, Try.f62, go_sem, s0, s1]
    · obtain rfl : q = n := by omega
      clear c0 c1 d0 d1
      go_wp2_with fail
      refine wp_region_quiet_below (by kernel_rfl) (by kernel_rfl) ?_
      repeat (quiet_step (fail))
      refine wpQuiet_nil ?_
      intro w2 hw2
      obtain ⟨⟨dq, osq⟩, rfl⟩ := hw2
      have HW2 := Lib.hid (HW.out.below (below_regrown wr dq osq))
      generalize grow (redrawn wr dq) osq = w2 at *
      clear k0 k1 l0 l1
      have c0 := HW2.out.1.cell 0
      simp only [List.getElem?_toArray, List.getElem?_cons_zero] at c0
      go_wp2_with fail
      refine (refOf_any x x0 x1 q (by omega) _).mono ?_
      rintro e w3 ⟨rfl, hb3⟩
      have HW3 := Lib.hid (HW2.out.below hb3)
      have e0 := HW3.out.2.2.1.cell 0
      have e1 := HW3.out.2.2.1.cell 1
      have f0 := HW3.out.2.2.1.frozen 0
      have f1 := HW3.out.2.2.1.frozen 1
      simp only [List.getElem?_toArray, List.getElem?_cons_zero, List.getElem?_cons_succ] at e0 e1
      clear hb3
      go_wp2_with fail
      have hS := (HW3.out.2.2.1.set_ 0 (.int .u32 (cutTo x q))).set_ 1 (.int .i64 q)
      have s0 := hS.cell 0
      have s1 := hS.cell 1
      simp at s0 s1
      have hbF := (HW3.out.2.2.2.setCell (p := ⟨w.heap.size + 2, 0, none⟩) (by simp) (.int .u32 (cutTo x q))).setCell (p := ⟨w.heap.size + 2, 1, none⟩) (by simp) (.int .i64 q)
      refine ⟨rfl, .agg #[.int .u32 (cutTo x q), .int .i64 q], ?_, ⟨q, by omega, by omega, HZ.out, fun h => absurd h (by omega), rfl⟩, hbF⟩
      simp [results, Try.f62, go_sem, s0, s1]
end Go.Proofs.Ytghkacciihocdaa
