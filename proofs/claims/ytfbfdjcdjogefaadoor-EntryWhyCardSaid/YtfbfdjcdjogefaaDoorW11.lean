/- The walk of EntryWhy (laid by tools/gen/w11.py). -/
import Derived.Test.YtfbfdjcdjogefaaDoorW9
namespace Go.Proofs.YtfbfdjcdjogefaaDoor
open Go Go.RowKit Go.Sort
attribute [local go_sem] Oper.semAt_some
attribute [local irreducible] wpQuiet


set_option maxRecDepth 100000 in
set_option maxHeartbeats 6400000 in
theorem law04_why_in (e : Ent) (ho : e.Ok) (j : Nat) (hj : j ≤ 6) (w : World) (hf : Fit3 w) :
    Calls Tryd.prog 4 #[entV e, .int .i64 j] w fun e w' => e = .returned (.bool true) ∧ Below w.heap.size w w' := by
  have HF := Lib.hid hf
  have hM : ∀ W, Calls Tryd.prog 19 #[.int .i64 j] W fun e w' => e = .returned (.string (nameL.getD j ⟨#[]⟩)) ∧ Below W.heap.size W w' := fun W => by
    have := name_in j (by omega) W
    rwa [Int.toNat_natCast] at this
  have HM := Lib.hid hM
  obtain ⟨nm, hnm⟩ : ∃ nm, nameL.getD j ⟨#[]⟩ = nm := ⟨_, rfl⟩
  have hc : [Value.string { data := #[102, 105, 110, 101] }, .string { data := #[102, 97, 109, 105, 108, 121] }, .string { data := #[109, 97, 115, 107] }, .string { data := #[98, 105, 116, 115] }, .string { data := #[107, 105, 110, 100] }, .string { data := #[110, 101, 120, 116] }, .string { data := #[109, 101, 116, 114, 105, 99] }][j]? = some (.string nm) := by
    have hway : j = 0 ∨ j = 1 ∨ j = 2 ∨ j = 3 ∨ j = 4 ∨ j = 5 ∨ j = 6 := by omega
    rcases hway with rfl | rfl | rfl | rfl | rfl | rfl | rfl <;> (rw [← hnm]; rfl)
  rw [hnm] at HM
  have j0 : (0 : Int) ≤ (j : Int) := by omega
  have j6 : (j : Int) ≤ 6 := by omega
  have j7 : (j : Int) < 7 := by omega
  clear hM hnm hj
  have HY : Hid (∀ W, Fit3 W → Calls Tryd.prog 8 #[] W fun e w' => e = .returned (.bool true) ∧ Below W.heap.size W w') := yes4
  have HW := Lib.hid (fun W => why_any e ho W)
  have HRW := Lib.hid (fun W => refWhy_any e ho W)
  have HP := Lib.hid (fun W => prefix4_any e ho W)
  have HRP := Lib.hid (fun W => refPrefix_any e ho W)
  clear hf ho
  generalize whyE e = y at *
  generalize preA e = pa at *
  generalize preL e = pl at *
  generalize preNo e = pn at *
  obtain ⟨f, t, a, m, n, k⟩ := e
  go_enter Tryd.func4, Tryd.ntmps4
  go_wp2_with fail
  have hv := Below.refl w.heap.size w
  have hv := hv.alloc hv.size (.cells #[.int .i64 f, .int .i64 t, .int .u32 a, .int .u32 m, .int .u32 n, .int .u32 k] 25)
  have xTE : Blk (w.alloc (.cells #[.int .i64 f, .int .i64 t, .int .u32 a, .int .u32 m, .int .u32 n, .int .u32 k] 25)) (w.heap.size) 25 #[.int .i64 f, .int .i64 t, .int .u32 a, .int .u32 m, .int .u32 n, .int .u32 k] := by
    have := Blk.new w 25 #[.int .i64 f, .int .i64 t, .int .u32 a, .int .u32 m, .int .u32 n, .int .u32 k]
    simpa using this
  generalize hvv : (w.alloc (.cells #[.int .i64 f, .int .i64 t, .int .u32 a, .int .u32 m, .int .u32 n, .int .u32 k] 25)) = v1 at *
  clear hvv
  have HV := Lib.hid hv
  have TE := Lib.hid xTE
  clear hv xTE
  refine (HP.out _).mono ?_
  rintro e w1 ⟨rfl, hb⟩
  have hv := HV.out.trans (hb.mono HV.out.size)
  have xTE := TE.out.below hb TE.out.lt
  clear hb HV TE
  have HV := Lib.hid hv
  have TE := Lib.hid xTE
  clear hv xTE
  have lTE := TE.out.lt
  have kTE0 := TE.out.cell 0
  have kTE1 := TE.out.cell 1
  have kTE2 := TE.out.cell 2
  have kTE3 := TE.out.cell 3
  have kTE4 := TE.out.cell 4
  have kTE5 := TE.out.cell 5
  simp only [List.getElem?_toArray, List.getElem?_cons_zero, List.getElem?_cons_succ] at kTE0 kTE1 kTE2 kTE3 kTE4 kTE5
  go_wp2_with fail
  clear lTE kTE0 kTE1 kTE2 kTE3 kTE4 kTE5
  have hv := HV.out
  have hv := hv.alloc hv.size (.cells #[.int .u32 pa, .int .i64 pl] 41)
  have xTE := (TE.out).alloc (.cells #[.int .u32 pa, .int .i64 pl] 41)
  have xTP : Blk (w1.alloc (.cells #[.int .u32 pa, .int .i64 pl] 41)) (w1.heap.size) 41 #[.int .u32 pa, .int .i64 pl] := by
    have := Blk.new w1 41 #[.int .u32 pa, .int .i64 pl]
    simpa using this
  generalize hvv : (w1.alloc (.cells #[.int .u32 pa, .int .i64 pl] 41)) = v2 at *
  clear hvv
  generalize w1.heap.size = gTP at *
  clear HV TE
  have HV := Lib.hid hv
  have TE := Lib.hid xTE
  have TP := Lib.hid xTP
  clear hv xTE xTP
  refine (HRP.out _).mono ?_
  rintro e w2 ⟨rfl, hb⟩
  have hv := HV.out.trans (hb.mono HV.out.size)
  have xTE := TE.out.below hb TE.out.lt
  have xTP := TP.out.below hb TP.out.lt
  clear hb HV TE TP
  have HV := Lib.hid hv
  have TE := Lib.hid xTE
  have TP := Lib.hid xTP
  clear hv xTE xTP
  go_wp2_with fail
  have hv := HV.out
  have hv := hv.alloc hv.size (.cells #[.int .u32 pa, .int .i64 pl] 41)
  have hv := hv.alloc hv.size (.cells #[.string { data := #[102, 105, 110, 101] }, .string { data := #[102, 97, 109, 105, 108, 121] }, .string { data := #[109, 97, 115, 107] }, .string { data := #[98, 105, 116, 115] }, .string { data := #[107, 105, 110, 100] }, .string { data := #[110, 101, 120, 116] }, .string { data := #[109, 101, 116, 114, 105, 99] }] 9)
  have xTE := ((TE.out).alloc (.cells #[.int .u32 pa, .int .i64 pl] 41)).alloc (.cells #[.string { data := #[102, 105, 110, 101] }, .string { data := #[102, 97, 109, 105, 108, 121] }, .string { data := #[109, 97, 115, 107] }, .string { data := #[98, 105, 116, 115] }, .string { data := #[107, 105, 110, 100] }, .string { data := #[110, 101, 120, 116] }, .string { data := #[109, 101, 116, 114, 105, 99] }] 9)
  have xTP := ((TP.out).alloc (.cells #[.int .u32 pa, .int .i64 pl] 41)).alloc (.cells #[.string { data := #[102, 105, 110, 101] }, .string { data := #[102, 97, 109, 105, 108, 121] }, .string { data := #[109, 97, 115, 107] }, .string { data := #[98, 105, 116, 115] }, .string { data := #[107, 105, 110, 100] }, .string { data := #[110, 101, 120, 116] }, .string { data := #[109, 101, 116, 114, 105, 99] }] 9)
  have xTQ : Blk ((w2.alloc (.cells #[.int .u32 pa, .int .i64 pl] 41)).alloc (.cells #[.string { data := #[102, 105, 110, 101] }, .string { data := #[102, 97, 109, 105, 108, 121] }, .string { data := #[109, 97, 115, 107] }, .string { data := #[98, 105, 116, 115] }, .string { data := #[107, 105, 110, 100] }, .string { data := #[110, 101, 120, 116] }, .string { data := #[109, 101, 116, 114, 105, 99] }] 9)) (w2.heap.size) 41 #[.int .u32 pa, .int .i64 pl] := by
    have := (Blk.new w2 41 #[.int .u32 pa, .int .i64 pl]).alloc (.cells #[.string { data := #[102, 105, 110, 101] }, .string { data := #[102, 97, 109, 105, 108, 121] }, .string { data := #[109, 97, 115, 107] }, .string { data := #[98, 105, 116, 115] }, .string { data := #[107, 105, 110, 100] }, .string { data := #[110, 101, 120, 116] }, .string { data := #[109, 101, 116, 114, 105, 99] }] 9)
    simpa using this
  have xTN : Blk ((w2.alloc (.cells #[.int .u32 pa, .int .i64 pl] 41)).alloc (.cells #[.string { data := #[102, 105, 110, 101] }, .string { data := #[102, 97, 109, 105, 108, 121] }, .string { data := #[109, 97, 115, 107] }, .string { data := #[98, 105, 116, 115] }, .string { data := #[107, 105, 110, 100] }, .string { data := #[110, 101, 120, 116] }, .string { data := #[109, 101, 116, 114, 105, 99] }] 9)) (w2.heap.size + 1) 9 #[.string { data := #[102, 105, 110, 101] }, .string { data := #[102, 97, 109, 105, 108, 121] }, .string { data := #[109, 97, 115, 107] }, .string { data := #[98, 105, 116, 115] }, .string { data := #[107, 105, 110, 100] }, .string { data := #[110, 101, 120, 116] }, .string { data := #[109, 101, 116, 114, 105, 99] }] := by
    have := Blk.new (w2.alloc (.cells #[.int .u32 pa, .int .i64 pl] 41)) 9 #[.string { data := #[102, 105, 110, 101] }, .string { data := #[102, 97, 109, 105, 108, 121] }, .string { data := #[109, 97, 115, 107] }, .string { data := #[98, 105, 116, 115] }, .string { data := #[107, 105, 110, 100] }, .string { data := #[110, 101, 120, 116] }, .string { data := #[109, 101, 116, 114, 105, 99] }]
    simpa using this
  generalize hvv : ((w2.alloc (.cells #[.int .u32 pa, .int .i64 pl] 41)).alloc (.cells #[.string { data := #[102, 105, 110, 101] }, .string { data := #[102, 97, 109, 105, 108, 121] }, .string { data := #[109, 97, 115, 107] }, .string { data := #[98, 105, 116, 115] }, .string { data := #[107, 105, 110, 100] }, .string { data := #[110, 101, 120, 116] }, .string { data := #[109, 101, 116, 114, 105, 99] }] 9)) = v3 at *
  clear hvv
  generalize w2.heap.size = gTQ at *
  clear HV TE TP
  have HV := Lib.hid hv
  have TE := Lib.hid xTE
  have TP := Lib.hid xTP
  have TQ := Lib.hid xTQ
  have TN := Lib.hid xTN
  clear hv xTE xTP xTQ xTN
  have HFW := Lib.hid (HF.out.below HV.out)
  have kTE0 := TE.out.cell 0
  have kTE1 := TE.out.cell 1
  have kTE2 := TE.out.cell 2
  have kTE3 := TE.out.cell 3
  have kTE4 := TE.out.cell 4
  have kTE5 := TE.out.cell 5
  have kTP0 := TP.out.cell 0
  have kTP1 := TP.out.cell 1
  have kTQ0 := TQ.out.cell 0
  have kTQ1 := TQ.out.cell 1
  simp only [List.getElem?_toArray, List.getElem?_cons_zero, List.getElem?_cons_succ] at kTE0 kTE1 kTE2 kTE3 kTE4 kTE5 kTP0 kTP1 kTQ0 kTQ1
  have rkTE0 := cell_regrown kTE0
  have rkTE1 := cell_regrown kTE1
  have rkTE2 := cell_regrown kTE2
  have rkTE3 := cell_regrown kTE3
  have rkTE4 := cell_regrown kTE4
  have rkTE5 := cell_regrown kTE5
  have rkTP0 := cell_regrown kTP0
  have rkTP1 := cell_regrown kTP1
  have rkTQ0 := cell_regrown kTQ0
  have rkTQ1 := cell_regrown kTQ1
  have cW : ∀ d os, Calls Tryd.prog 17 #[.agg #[.int .i64 f, .int .i64 t, .int .u32 a, .int .u32 m, .int .u32 n, .int .u32 k]] (grow (redrawn v3 d) os) fun e w'' => e = .returned (.int .i64 y) ∧ ∃ p : Regrown, w'' = grow (redrawn v3 p.d) p.os := fun d os => Calls.regrown_of (HW.out _)
  have cR : ∀ d os, Calls Tryd.prog 18 #[.agg #[.int .i64 f, .int .i64 t, .int .u32 a, .int .u32 m, .int .u32 n, .int .u32 k]] (grow (redrawn v3 d) os) fun e w'' => e = .returned (.int .i64 y) ∧ ∃ p : Regrown, w'' = grow (redrawn v3 p.d) p.os := fun d os => Calls.regrown_of (HRW.out _)
  have cN : ∀ (n : Int) d os, Calls Tryd.prog 11 #[.int .i64 n] (grow (redrawn v3 d) os) fun e w'' => e = .returned (.int .i64 n) ∧ ∃ p : Regrown, w'' = grow (redrawn v3 p.d) p.os := fun n d os => Calls.regrown_of ((num4_any n _).mono fun _ _ ⟨he, hw⟩ => ⟨he, by rw [← hw]; exact Below.refl _ _⟩)
  have cM : ∀ d os, Calls Tryd.prog 19 #[.int .i64 j] (grow (redrawn v3 d) os) fun e w'' => e = .returned (.string nm) ∧ ∃ p : Regrown, w'' = grow (redrawn v3 p.d) p.os := fun d os => Calls.regrown_of (HM.out _)
  have cY : ∀ d os, Calls Tryd.prog 8 #[] (grow (redrawn v3 d) os) fun e w'' => e = .returned (.bool true) ∧ ∃ p : Regrown, w'' = grow (redrawn v3 p.d) p.os := fun d os => Calls.regrown_of (HY.out _ (HFW.out.below (below_regrown v3 d os)))
  clear kTE0 kTE1 kTE2 kTE3 kTE4 kTE5 kTP0 kTP1 kTQ0 kTQ1
  refine wp_region_quiet_below (by kernel_rfl) (by kernel_rfl) ?_
  try simp only [List.append_eq, List.cons_append, List.nil_append]
  repeat (go_big_quiet_step (first | (with_reducible exact cW _ _) | (with_reducible exact cR _ _) | (with_reducible exact cN _ _ _) | (with_reducible exact cM _ _) | (with_reducible exact cY _ _)))
  refine wpQuiet_nil ?_
  intro wq hwq
  obtain ⟨⟨dq, osq⟩, rfl⟩ := hwq
  have hb := below_regrown v3 dq osq
  have hv := HV.out.trans (hb.mono HV.out.size)
  have xTE := TE.out.below hb TE.out.lt
  have xTP := TP.out.below hb TP.out.lt
  have xTQ := TQ.out.below hb TQ.out.lt
  have xTN := TN.out.below hb TN.out.lt
  generalize grow (redrawn v3 dq) osq = w3 at *
  clear hb HV TE TP TQ TN rkTE0 rkTE1 rkTE2 rkTE3 rkTE4 rkTE5 rkTP0 rkTP1 rkTQ0 rkTQ1 cW cR cN cM cY
  have HV := Lib.hid hv
  have TE := Lib.hid xTE
  have TP := Lib.hid xTP
  have TQ := Lib.hid xTQ
  have TN := Lib.hid xTN
  clear hv xTE xTP xTQ xTN
  go_wp2_with fail
  go_ret
  exact ⟨rfl, HV.out⟩

set_option maxRecDepth 100000 in
set_option maxHeartbeats 6400000 in
theorem law04_why_neg (e : Ent) (ho : e.Ok) (r : Int) (r0 : -9223372036854775808 ≤ r) (r1 : r ≤ 9223372036854775807) (h : r < 0) (w : World) (hf : Fit3 w) :
    Calls Tryd.prog 4 #[entV e, .int .i64 r] w fun e w' => e = .returned (.bool true) ∧ Below w.heap.size w w' := by
  have HF := Lib.hid hf
  have HM := Lib.hid (fun W => name_out r r0 r1 (by omega) W)
  have h0 : ¬ 0 ≤ r := by omega
  clear r0 r1 h
  have HY : Hid (∀ W, Fit3 W → Calls Tryd.prog 8 #[] W fun e w' => e = .returned (.bool true) ∧ Below W.heap.size W w') := yes4
  have HW := Lib.hid (fun W => why_any e ho W)
  have HRW := Lib.hid (fun W => refWhy_any e ho W)
  have HP := Lib.hid (fun W => prefix4_any e ho W)
  have HRP := Lib.hid (fun W => refPrefix_any e ho W)
  clear hf ho
  generalize whyE e = y at *
  generalize preA e = pa at *
  generalize preL e = pl at *
  generalize preNo e = pn at *
  obtain ⟨f, t, a, m, n, k⟩ := e
  go_enter Tryd.func4, Tryd.ntmps4
  go_wp2_with fail
  have hv := Below.refl w.heap.size w
  have hv := hv.alloc hv.size (.cells #[.int .i64 f, .int .i64 t, .int .u32 a, .int .u32 m, .int .u32 n, .int .u32 k] 25)
  have xTE : Blk (w.alloc (.cells #[.int .i64 f, .int .i64 t, .int .u32 a, .int .u32 m, .int .u32 n, .int .u32 k] 25)) (w.heap.size) 25 #[.int .i64 f, .int .i64 t, .int .u32 a, .int .u32 m, .int .u32 n, .int .u32 k] := by
    have := Blk.new w 25 #[.int .i64 f, .int .i64 t, .int .u32 a, .int .u32 m, .int .u32 n, .int .u32 k]
    simpa using this
  generalize hvv : (w.alloc (.cells #[.int .i64 f, .int .i64 t, .int .u32 a, .int .u32 m, .int .u32 n, .int .u32 k] 25)) = v1 at *
  clear hvv
  have HV := Lib.hid hv
  have TE := Lib.hid xTE
  clear hv xTE
  refine (HP.out _).mono ?_
  rintro e w1 ⟨rfl, hb⟩
  have hv := HV.out.trans (hb.mono HV.out.size)
  have xTE := TE.out.below hb TE.out.lt
  clear hb HV TE
  have HV := Lib.hid hv
  have TE := Lib.hid xTE
  clear hv xTE
  have lTE := TE.out.lt
  have kTE0 := TE.out.cell 0
  have kTE1 := TE.out.cell 1
  have kTE2 := TE.out.cell 2
  have kTE3 := TE.out.cell 3
  have kTE4 := TE.out.cell 4
  have kTE5 := TE.out.cell 5
  simp only [List.getElem?_toArray, List.getElem?_cons_zero, List.getElem?_cons_succ] at kTE0 kTE1 kTE2 kTE3 kTE4 kTE5
  go_wp2_with fail
  clear lTE kTE0 kTE1 kTE2 kTE3 kTE4 kTE5
  have hv := HV.out
  have hv := hv.alloc hv.size (.cells #[.int .u32 pa, .int .i64 pl] 41)
  have xTE := (TE.out).alloc (.cells #[.int .u32 pa, .int .i64 pl] 41)
  have xTP : Blk (w1.alloc (.cells #[.int .u32 pa, .int .i64 pl] 41)) (w1.heap.size) 41 #[.int .u32 pa, .int .i64 pl] := by
    have := Blk.new w1 41 #[.int .u32 pa, .int .i64 pl]
    simpa using this
  generalize hvv : (w1.alloc (.cells #[.int .u32 pa, .int .i64 pl] 41)) = v2 at *
  clear hvv
  generalize w1.heap.size = gTP at *
  clear HV TE
  have HV := Lib.hid hv
  have TE := Lib.hid xTE
  have TP := Lib.hid xTP
  clear hv xTE xTP
  refine (HRP.out _).mono ?_
  rintro e w2 ⟨rfl, hb⟩
  have hv := HV.out.trans (hb.mono HV.out.size)
  have xTE := TE.out.below hb TE.out.lt
  have xTP := TP.out.below hb TP.out.lt
  clear hb HV TE TP
  have HV := Lib.hid hv
  have TE := Lib.hid xTE
  have TP := Lib.hid xTP
  clear hv xTE xTP
  go_wp2_with fail
  have hv := HV.out
  have hv := hv.alloc hv.size (.cells #[.int .u32 pa, .int .i64 pl] 41)
  have xTE := (TE.out).alloc (.cells #[.int .u32 pa, .int .i64 pl] 41)
  have xTP := (TP.out).alloc (.cells #[.int .u32 pa, .int .i64 pl] 41)
  have xTQ : Blk (w2.alloc (.cells #[.int .u32 pa, .int .i64 pl] 41)) (w2.heap.size) 41 #[.int .u32 pa, .int .i64 pl] := by
    have := Blk.new w2 41 #[.int .u32 pa, .int .i64 pl]
    simpa using this
  generalize hvv : (w2.alloc (.cells #[.int .u32 pa, .int .i64 pl] 41)) = v3 at *
  clear hvv
  generalize w2.heap.size = gTQ at *
  clear HV TE TP
  have HV := Lib.hid hv
  have TE := Lib.hid xTE
  have TP := Lib.hid xTP
  have TQ := Lib.hid xTQ
  clear hv xTE xTP xTQ
  have HFW := Lib.hid (HF.out.below HV.out)
  have kTE0 := TE.out.cell 0
  have kTE1 := TE.out.cell 1
  have kTE2 := TE.out.cell 2
  have kTE3 := TE.out.cell 3
  have kTE4 := TE.out.cell 4
  have kTE5 := TE.out.cell 5
  have kTP0 := TP.out.cell 0
  have kTP1 := TP.out.cell 1
  have kTQ0 := TQ.out.cell 0
  have kTQ1 := TQ.out.cell 1
  simp only [List.getElem?_toArray, List.getElem?_cons_zero, List.getElem?_cons_succ] at kTE0 kTE1 kTE2 kTE3 kTE4 kTE5 kTP0 kTP1 kTQ0 kTQ1
  have rkTE0 := cell_regrown kTE0
  have rkTE1 := cell_regrown kTE1
  have rkTE2 := cell_regrown kTE2
  have rkTE3 := cell_regrown kTE3
  have rkTE4 := cell_regrown kTE4
  have rkTE5 := cell_regrown kTE5
  have rkTP0 := cell_regrown kTP0
  have rkTP1 := cell_regrown kTP1
  have rkTQ0 := cell_regrown kTQ0
  have rkTQ1 := cell_regrown kTQ1
  have cW : ∀ d os, Calls Tryd.prog 17 #[.agg #[.int .i64 f, .int .i64 t, .int .u32 a, .int .u32 m, .int .u32 n, .int .u32 k]] (grow (redrawn v3 d) os) fun e w'' => e = .returned (.int .i64 y) ∧ ∃ p : Regrown, w'' = grow (redrawn v3 p.d) p.os := fun d os => Calls.regrown_of (HW.out _)
  have cR : ∀ d os, Calls Tryd.prog 18 #[.agg #[.int .i64 f, .int .i64 t, .int .u32 a, .int .u32 m, .int .u32 n, .int .u32 k]] (grow (redrawn v3 d) os) fun e w'' => e = .returned (.int .i64 y) ∧ ∃ p : Regrown, w'' = grow (redrawn v3 p.d) p.os := fun d os => Calls.regrown_of (HRW.out _)
  have cN : ∀ (n : Int) d os, Calls Tryd.prog 11 #[.int .i64 n] (grow (redrawn v3 d) os) fun e w'' => e = .returned (.int .i64 n) ∧ ∃ p : Regrown, w'' = grow (redrawn v3 p.d) p.os := fun n d os => Calls.regrown_of ((num4_any n _).mono fun _ _ ⟨he, hw⟩ => ⟨he, by rw [← hw]; exact Below.refl _ _⟩)
  have cM : ∀ d os, Calls Tryd.prog 19 #[.int .i64 r] (grow (redrawn v3 d) os) fun e w'' => e = .returned (.string { data := #[] }) ∧ ∃ p : Regrown, w'' = grow (redrawn v3 p.d) p.os := fun d os => Calls.regrown_of (HM.out _)
  have cY : ∀ d os, Calls Tryd.prog 8 #[] (grow (redrawn v3 d) os) fun e w'' => e = .returned (.bool true) ∧ ∃ p : Regrown, w'' = grow (redrawn v3 p.d) p.os := fun d os => Calls.regrown_of (HY.out _ (HFW.out.below (below_regrown v3 d os)))
  clear kTE0 kTE1 kTE2 kTE3 kTE4 kTE5 kTP0 kTP1 kTQ0 kTQ1
  refine wp_region_quiet_below (by kernel_rfl) (by kernel_rfl) ?_
  try simp only [List.append_eq, List.cons_append, List.nil_append]
  repeat (go_big_quiet_step (first | (with_reducible exact cW _ _) | (with_reducible exact cR _ _) | (with_reducible exact cN _ _ _) | (with_reducible exact cM _ _) | (with_reducible exact cY _ _)))
  refine wpQuiet_nil ?_
  intro wq hwq
  obtain ⟨⟨dq, osq⟩, rfl⟩ := hwq
  have hb := below_regrown v3 dq osq
  have hv := HV.out.trans (hb.mono HV.out.size)
  have xTE := TE.out.below hb TE.out.lt
  have xTP := TP.out.below hb TP.out.lt
  have xTQ := TQ.out.below hb TQ.out.lt
  generalize grow (redrawn v3 dq) osq = w3 at *
  clear hb HV TE TP TQ rkTE0 rkTE1 rkTE2 rkTE3 rkTE4 rkTE5 rkTP0 rkTP1 rkTQ0 rkTQ1 cW cR cN cM cY
  have HV := Lib.hid hv
  have TE := Lib.hid xTE
  have TP := Lib.hid xTP
  have TQ := Lib.hid xTQ
  clear hv xTE xTP xTQ
  go_wp2_with fail
  go_ret
  exact ⟨rfl, HV.out⟩

set_option maxRecDepth 100000 in
set_option maxHeartbeats 6400000 in
theorem law04_why_big (e : Ent) (ho : e.Ok) (r : Int) (r0 : -9223372036854775808 ≤ r) (r1 : r ≤ 9223372036854775807) (h : 6 < r) (w : World) (hf : Fit3 w) :
    Calls Tryd.prog 4 #[entV e, .int .i64 r] w fun e w' => e = .returned (.bool true) ∧ Below w.heap.size w w' := by
  have HF := Lib.hid hf
  have HM := Lib.hid (fun W => name_out r r0 r1 (by omega) W)
  have h0 : 0 ≤ r := by omega
  have h6 : ¬ r ≤ 6 := by omega
  clear r0 r1 h
  have HY : Hid (∀ W, Fit3 W → Calls Tryd.prog 8 #[] W fun e w' => e = .returned (.bool true) ∧ Below W.heap.size W w') := yes4
  have HW := Lib.hid (fun W => why_any e ho W)
  have HRW := Lib.hid (fun W => refWhy_any e ho W)
  have HP := Lib.hid (fun W => prefix4_any e ho W)
  have HRP := Lib.hid (fun W => refPrefix_any e ho W)
  clear hf ho
  generalize whyE e = y at *
  generalize preA e = pa at *
  generalize preL e = pl at *
  generalize preNo e = pn at *
  obtain ⟨f, t, a, m, n, k⟩ := e
  go_enter Tryd.func4, Tryd.ntmps4
  go_wp2_with fail
  have hv := Below.refl w.heap.size w
  have hv := hv.alloc hv.size (.cells #[.int .i64 f, .int .i64 t, .int .u32 a, .int .u32 m, .int .u32 n, .int .u32 k] 25)
  have xTE : Blk (w.alloc (.cells #[.int .i64 f, .int .i64 t, .int .u32 a, .int .u32 m, .int .u32 n, .int .u32 k] 25)) (w.heap.size) 25 #[.int .i64 f, .int .i64 t, .int .u32 a, .int .u32 m, .int .u32 n, .int .u32 k] := by
    have := Blk.new w 25 #[.int .i64 f, .int .i64 t, .int .u32 a, .int .u32 m, .int .u32 n, .int .u32 k]
    simpa using this
  generalize hvv : (w.alloc (.cells #[.int .i64 f, .int .i64 t, .int .u32 a, .int .u32 m, .int .u32 n, .int .u32 k] 25)) = v1 at *
  clear hvv
  have HV := Lib.hid hv
  have TE := Lib.hid xTE
  clear hv xTE
  refine (HP.out _).mono ?_
  rintro e w1 ⟨rfl, hb⟩
  have hv := HV.out.trans (hb.mono HV.out.size)
  have xTE := TE.out.below hb TE.out.lt
  clear hb HV TE
  have HV := Lib.hid hv
  have TE := Lib.hid xTE
  clear hv xTE
  have lTE := TE.out.lt
  have kTE0 := TE.out.cell 0
  have kTE1 := TE.out.cell 1
  have kTE2 := TE.out.cell 2
  have kTE3 := TE.out.cell 3
  have kTE4 := TE.out.cell 4
  have kTE5 := TE.out.cell 5
  simp only [List.getElem?_toArray, List.getElem?_cons_zero, List.getElem?_cons_succ] at kTE0 kTE1 kTE2 kTE3 kTE4 kTE5
  go_wp2_with fail
  clear lTE kTE0 kTE1 kTE2 kTE3 kTE4 kTE5
  have hv := HV.out
  have hv := hv.alloc hv.size (.cells #[.int .u32 pa, .int .i64 pl] 41)
  have xTE := (TE.out).alloc (.cells #[.int .u32 pa, .int .i64 pl] 41)
  have xTP : Blk (w1.alloc (.cells #[.int .u32 pa, .int .i64 pl] 41)) (w1.heap.size) 41 #[.int .u32 pa, .int .i64 pl] := by
    have := Blk.new w1 41 #[.int .u32 pa, .int .i64 pl]
    simpa using this
  generalize hvv : (w1.alloc (.cells #[.int .u32 pa, .int .i64 pl] 41)) = v2 at *
  clear hvv
  generalize w1.heap.size = gTP at *
  clear HV TE
  have HV := Lib.hid hv
  have TE := Lib.hid xTE
  have TP := Lib.hid xTP
  clear hv xTE xTP
  refine (HRP.out _).mono ?_
  rintro e w2 ⟨rfl, hb⟩
  have hv := HV.out.trans (hb.mono HV.out.size)
  have xTE := TE.out.below hb TE.out.lt
  have xTP := TP.out.below hb TP.out.lt
  clear hb HV TE TP
  have HV := Lib.hid hv
  have TE := Lib.hid xTE
  have TP := Lib.hid xTP
  clear hv xTE xTP
  go_wp2_with fail
  have hv := HV.out
  have hv := hv.alloc hv.size (.cells #[.int .u32 pa, .int .i64 pl] 41)
  have xTE := (TE.out).alloc (.cells #[.int .u32 pa, .int .i64 pl] 41)
  have xTP := (TP.out).alloc (.cells #[.int .u32 pa, .int .i64 pl] 41)
  have xTQ : Blk (w2.alloc (.cells #[.int .u32 pa, .int .i64 pl] 41)) (w2.heap.size) 41 #[.int .u32 pa, .int .i64 pl] := by
    have := Blk.new w2 41 #[.int .u32 pa, .int .i64 pl]
    simpa using this
  generalize hvv : (w2.alloc (.cells #[.int .u32 pa, .int .i64 pl] 41)) = v3 at *
  clear hvv
  generalize w2.heap.size = gTQ at *
  clear HV TE TP
  have HV := Lib.hid hv
  have TE := Lib.hid xTE
  have TP := Lib.hid xTP
  have TQ := Lib.hid xTQ
  clear hv xTE xTP xTQ
  have HFW := Lib.hid (HF.out.below HV.out)
  have kTE0 := TE.out.cell 0
  have kTE1 := TE.out.cell 1
  have kTE2 := TE.out.cell 2
  have kTE3 := TE.out.cell 3
  have kTE4 := TE.out.cell 4
  have kTE5 := TE.out.cell 5
  have kTP0 := TP.out.cell 0
  have kTP1 := TP.out.cell 1
  have kTQ0 := TQ.out.cell 0
  have kTQ1 := TQ.out.cell 1
  simp only [List.getElem?_toArray, List.getElem?_cons_zero, List.getElem?_cons_succ] at kTE0 kTE1 kTE2 kTE3 kTE4 kTE5 kTP0 kTP1 kTQ0 kTQ1
  have rkTE0 := cell_regrown kTE0
  have rkTE1 := cell_regrown kTE1
  have rkTE2 := cell_regrown kTE2
  have rkTE3 := cell_regrown kTE3
  have rkTE4 := cell_regrown kTE4
  have rkTE5 := cell_regrown kTE5
  have rkTP0 := cell_regrown kTP0
  have rkTP1 := cell_regrown kTP1
  have rkTQ0 := cell_regrown kTQ0
  have rkTQ1 := cell_regrown kTQ1
  have cW : ∀ d os, Calls Tryd.prog 17 #[.agg #[.int .i64 f, .int .i64 t, .int .u32 a, .int .u32 m, .int .u32 n, .int .u32 k]] (grow (redrawn v3 d) os) fun e w'' => e = .returned (.int .i64 y) ∧ ∃ p : Regrown, w'' = grow (redrawn v3 p.d) p.os := fun d os => Calls.regrown_of (HW.out _)
  have cR : ∀ d os, Calls Tryd.prog 18 #[.agg #[.int .i64 f, .int .i64 t, .int .u32 a, .int .u32 m, .int .u32 n, .int .u32 k]] (grow (redrawn v3 d) os) fun e w'' => e = .returned (.int .i64 y) ∧ ∃ p : Regrown, w'' = grow (redrawn v3 p.d) p.os := fun d os => Calls.regrown_of (HRW.out _)
  have cN : ∀ (n : Int) d os, Calls Tryd.prog 11 #[.int .i64 n] (grow (redrawn v3 d) os) fun e w'' => e = .returned (.int .i64 n) ∧ ∃ p : Regrown, w'' = grow (redrawn v3 p.d) p.os := fun n d os => Calls.regrown_of ((num4_any n _).mono fun _ _ ⟨he, hw⟩ => ⟨he, by rw [← hw]; exact Below.refl _ _⟩)
  have cM : ∀ d os, Calls Tryd.prog 19 #[.int .i64 r] (grow (redrawn v3 d) os) fun e w'' => e = .returned (.string { data := #[] }) ∧ ∃ p : Regrown, w'' = grow (redrawn v3 p.d) p.os := fun d os => Calls.regrown_of (HM.out _)
  have cY : ∀ d os, Calls Tryd.prog 8 #[] (grow (redrawn v3 d) os) fun e w'' => e = .returned (.bool true) ∧ ∃ p : Regrown, w'' = grow (redrawn v3 p.d) p.os := fun d os => Calls.regrown_of (HY.out _ (HFW.out.below (below_regrown v3 d os)))
  clear kTE0 kTE1 kTE2 kTE3 kTE4 kTE5 kTP0 kTP1 kTQ0 kTQ1
  refine wp_region_quiet_below (by kernel_rfl) (by kernel_rfl) ?_
  try simp only [List.append_eq, List.cons_append, List.nil_append]
  repeat (go_big_quiet_step (first | (with_reducible exact cW _ _) | (with_reducible exact cR _ _) | (with_reducible exact cN _ _ _) | (with_reducible exact cM _ _) | (with_reducible exact cY _ _)))
  refine wpQuiet_nil ?_
  intro wq hwq
  obtain ⟨⟨dq, osq⟩, rfl⟩ := hwq
  have hb := below_regrown v3 dq osq
  have hv := HV.out.trans (hb.mono HV.out.size)
  have xTE := TE.out.below hb TE.out.lt
  have xTP := TP.out.below hb TP.out.lt
  have xTQ := TQ.out.below hb TQ.out.lt
  generalize grow (redrawn v3 dq) osq = w3 at *
  clear hb HV TE TP TQ rkTE0 rkTE1 rkTE2 rkTE3 rkTE4 rkTE5 rkTP0 rkTP1 rkTQ0 rkTQ1 cW cR cN cM cY
  have HV := Lib.hid hv
  have TE := Lib.hid xTE
  have TP := Lib.hid xTP
  have TQ := Lib.hid xTQ
  clear hv xTE xTP xTQ
  go_wp2_with fail
  go_ret
  exact ⟨rfl, HV.out⟩

theorem law04_why (e : Ent) (ho : e.Ok) (r : Int) (r0 : -9223372036854775808 ≤ r) (r1 : r ≤ 9223372036854775807) (w : World) (hf : Fit3 w) :
    Calls Tryd.prog 4 #[entV e, .int .i64 r] w fun e w' => e = .returned (.bool true) ∧ Below w.heap.size w w' := by
  by_cases h0 : r < 0
  · exact law04_why_neg e ho r r0 r1 h0 w hf
  · by_cases h6 : 6 < r
    · exact law04_why_big e ho r r0 r1 h6 w hf
    · obtain ⟨j, rfl⟩ : ∃ j : Nat, r = j := ⟨r.toNat, by omega⟩
      exact law04_why_in e ho j (by omega) w hf
end Go.Proofs.YtfbfdjcdjogefaaDoor
