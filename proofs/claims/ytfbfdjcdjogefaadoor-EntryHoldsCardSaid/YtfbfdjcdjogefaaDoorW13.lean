/- The walk of EntryHolds (laid by tools/gen/w12.py). -/
import Derived.Test.YtfbfdjcdjogefaaDoorW12
namespace Go.Proofs.YtfbfdjcdjogefaaDoor
open Go Go.RowKit Go.Sort
attribute [local go_sem] Oper.semAt_some
attribute [local irreducible] wpQuiet


set_option maxRecDepth 100000 in
set_option maxHeartbeats 6400000 in
theorem law04_holds_r_b (f t a m n k f' t' a' m' n' k' : Int) (ho : (⟨f, t, a, m, n, k⟩ : Ent).Ok) (ho2 : (⟨f', t', a', m', n', k'⟩ : Ent).Ok) (hx : ¬ whyE ⟨f, t, a, m, n, k⟩ = 0) (hr : rightE ⟨f, t, a, m, n, k⟩) (hr2 : rightE ⟨f', t', a', m', n', k'⟩) (w : World) (hf : Fit3 w) :
    Calls Tryd.prog 7 #[.agg #[.int .i64 f, .int .i64 t, .int .u32 a, .int .u32 m, .int .u32 n, .int .u32 k], .agg #[.int .i64 f', .int .i64 t', .int .u32 a', .int .u32 m', .int .u32 n', .int .u32 k']] w fun e w' => e = .returned (.bool true) ∧ Below w.heap.size w w' := by
  have HF := Lib.hid hf
  have HY0 : Hid (∀ W, Fit3 W → Calls Tryd.prog 8 #[] W fun e w' => e = .returned (.bool true) ∧ Below W.heap.size W w') := yes4
  have HB1 := Lib.hid (fun W (hF : Fit3 W) => bytesE_c ⟨f, t, a, m, n, k⟩ ho W hF)
  have HB2 := Lib.hid (fun W (hF : Fit3 W) => bytesE_c ⟨f', t', a', m', n', k'⟩ ho2 W hF)
  have hEE := fun W => eqEnt_run ⟨f, t, a, m, n, k⟩ ⟨f', t', a', m', n', k'⟩ W
  have hEE2 : ∀ W, (binOp .eql 25 (.agg #[.int .i64 f, .int .i64 t, .int .u32 a, .int .u32 m, .int .u32 n, .int .u32 k]) (.agg #[.int .i64 f', .int .i64 t', .int .u32 a', .int .u32 m', .int .u32 n', .int .u32 k'])).run Tryd.prog W = .ok (.bool (decide ((⟨f, t, a, m, n, k⟩ : Ent) = ⟨f', t', a', m', n', k'⟩))) W := hEE
  have hP1 := fun W => prefix4_any ⟨f, t, a, m, n, k⟩ ho W
  have hW1 := fun W => why_any ⟨f, t, a, m, n, k⟩ ho W
  have hst := strE_eq hr ho hr2 ho2
  obtain ⟨d1, d2, d3⟩ := bad_is hx
  rw [d1, d2, d3] at hP1
  have hrb : (whyE ⟨f, t, a, m, n, k⟩ == 0) = false := by simpa using hx
  generalize whyE ⟨f, t, a, m, n, k⟩ = r at *
  have HP1 : Hid (∀ W, Calls Tryd.prog 15 #[.agg #[.int .i64 f, .int .i64 t, .int .u32 a, .int .u32 m, .int .u32 n, .int .u32 k]] W fun e w' => e = .returned (.tuple #[.agg #[.int .u32 0, .int .i64 0], .int .i64 140]) ∧ Below W.heap.size W w') := fun W => hP1 W
  have HW1 : Hid (∀ W, Calls Tryd.prog 17 #[.agg #[.int .i64 f, .int .i64 t, .int .u32 a, .int .u32 m, .int .u32 n, .int .u32 k]] W fun e w' => e = .returned (.int .i64 r) ∧ Below W.heap.size W w') := fun W => hW1 W
  clear d1 d2 d3
  generalize hbb : decide ((⟨f, t, a, m, n, k⟩ : Ent) = ⟨f', t', a', m', n', k'⟩) = bb at *
  have HRR := Lib.hid hr
  have HRR2 := Lib.hid hr2
  clear hf hEE hP1 hW1 hbb ho ho2 hx hr hr2
  go_enter Tryd.func7, Tryd.ntmps7
  go_wp2_with fail
  have hv := Below.refl w.heap.size w
  have hv := hv.alloc hv.size (.cells #[.int .i64 f, .int .i64 t, .int .u32 a, .int .u32 m, .int .u32 n, .int .u32 k] 25)
  have hv := hv.alloc hv.size (.cells #[.int .i64 f', .int .i64 t', .int .u32 a', .int .u32 m', .int .u32 n', .int .u32 k'] 25)
  have xTX : Blk ((w.alloc (.cells #[.int .i64 f, .int .i64 t, .int .u32 a, .int .u32 m, .int .u32 n, .int .u32 k] 25)).alloc (.cells #[.int .i64 f', .int .i64 t', .int .u32 a', .int .u32 m', .int .u32 n', .int .u32 k'] 25)) (w.heap.size) 25 #[.int .i64 f, .int .i64 t, .int .u32 a, .int .u32 m, .int .u32 n, .int .u32 k] := by
    have := (Blk.new w 25 #[.int .i64 f, .int .i64 t, .int .u32 a, .int .u32 m, .int .u32 n, .int .u32 k]).alloc (.cells #[.int .i64 f', .int .i64 t', .int .u32 a', .int .u32 m', .int .u32 n', .int .u32 k'] 25)
    simpa using this
  have xTY : Blk ((w.alloc (.cells #[.int .i64 f, .int .i64 t, .int .u32 a, .int .u32 m, .int .u32 n, .int .u32 k] 25)).alloc (.cells #[.int .i64 f', .int .i64 t', .int .u32 a', .int .u32 m', .int .u32 n', .int .u32 k'] 25)) (w.heap.size + 1) 25 #[.int .i64 f', .int .i64 t', .int .u32 a', .int .u32 m', .int .u32 n', .int .u32 k'] := by
    have := Blk.new (w.alloc (.cells #[.int .i64 f, .int .i64 t, .int .u32 a, .int .u32 m, .int .u32 n, .int .u32 k] 25)) 25 #[.int .i64 f', .int .i64 t', .int .u32 a', .int .u32 m', .int .u32 n', .int .u32 k']
    simpa using this
  generalize hvv : ((w.alloc (.cells #[.int .i64 f, .int .i64 t, .int .u32 a, .int .u32 m, .int .u32 n, .int .u32 k] 25)).alloc (.cells #[.int .i64 f', .int .i64 t', .int .u32 a', .int .u32 m', .int .u32 n', .int .u32 k'] 25)) = v1 at *
  clear hvv
  have HV := Lib.hid hv
  have TX := Lib.hid xTX
  have TY := Lib.hid xTY
  clear hv xTX xTY
  refine (HB1.out _ (HF.out.below HV.out)).mono ?_
  rintro e w1 ⟨⟨p1, l1, c1, z1, rfl, hy1⟩, hb⟩
  have hv := HV.out.trans (hb.mono HV.out.size)
  have xTX := TX.out.below hb TX.out.lt
  have xTY := TY.out.below hb TY.out.lt
  clear hb HV TX TY
  have HV := Lib.hid hv
  have TX := Lib.hid xTX
  have TY := Lib.hid xTY
  clear hv xTX xTY
  have HY1 := Lib.hid hy1
  clear hy1
  have lTY := TY.out.lt
  have kTY0 := TY.out.cell 0
  have kTY1 := TY.out.cell 1
  have kTY2 := TY.out.cell 2
  have kTY3 := TY.out.cell 3
  have kTY4 := TY.out.cell 4
  have kTY5 := TY.out.cell 5
  simp only [List.getElem?_toArray, List.getElem?_cons_zero, List.getElem?_cons_succ] at kTY0 kTY1 kTY2 kTY3 kTY4 kTY5
  go_wp2_with fail
  refine (HB2.out _ (HF.out.below HV.out)).mono ?_
  rintro e w2 ⟨⟨p2, l2, c2, z2, rfl, hy2⟩, hb⟩
  clear lTY kTY0 kTY1 kTY2 kTY3 kTY4 kTY5
  have hv := HV.out.trans (hb.mono HV.out.size)
  have xTX := TX.out.below hb TX.out.lt
  have xTY := TY.out.below hb TY.out.lt
  have yHY1 := HY1.out.below hb
  clear hb HV TX TY
  have HV := Lib.hid hv
  have TX := Lib.hid xTX
  have TY := Lib.hid xTY
  clear hv xTX xTY
  clear HY1
  have HY1 := Lib.hid yHY1
  clear yHY1
  have HY2 := Lib.hid hy2
  clear hy2
  have HFW := Lib.hid (HF.out.below HV.out)
  obtain ⟨rfl, rfl, hs1⟩ := HY1.out.ok HRR.out
  obtain ⟨rfl, rfl, hs2⟩ := HY2.out.ok HRR2.out
  have eC1 : ∀ d os, Sem.run Tryd.prog (convert 26 9 (.slice p1 20 c1)) (grow (redrawn w2 d) os) = .ok (.string (strOfNums (bytesE ⟨f, t, a, m, n, k⟩))) (grow (redrawn w2 d) os) := fun d os => by
    have := conv_bytes (hs1.below (below_regrown w2 d os)) c1
    rwa [bytesE_len] at this
  have eC2 : ∀ d os, Sem.run Tryd.prog (convert 26 9 (.slice p2 20 c2)) (grow (redrawn w2 d) os) = .ok (.string (strOfNums (bytesE ⟨f', t', a', m', n', k'⟩))) (grow (redrawn w2 d) os) := fun d os => by
    have := conv_bytes (hs2.below (below_regrown w2 d os)) c2
    rwa [bytesE_len] at this
  generalize strOfNums (bytesE ⟨f, t, a, m, n, k⟩) = s1 at *
  generalize strOfNums (bytesE ⟨f', t', a', m', n', k'⟩) = s2 at *
  clear hs1 hs2 HY1 HY2 HRR HRR2
  go_wp2_with fail
  have kTX0 := TX.out.cell 0
  have kTX1 := TX.out.cell 1
  have kTX2 := TX.out.cell 2
  have kTX3 := TX.out.cell 3
  have kTX4 := TX.out.cell 4
  have kTX5 := TX.out.cell 5
  have kTY0 := TY.out.cell 0
  have kTY1 := TY.out.cell 1
  have kTY2 := TY.out.cell 2
  have kTY3 := TY.out.cell 3
  have kTY4 := TY.out.cell 4
  have kTY5 := TY.out.cell 5
  simp only [List.getElem?_toArray, List.getElem?_cons_zero, List.getElem?_cons_succ] at kTX0 kTX1 kTX2 kTX3 kTX4 kTX5 kTY0 kTY1 kTY2 kTY3 kTY4 kTY5
  have rkTX0 := cell_regrown kTX0
  have rkTX1 := cell_regrown kTX1
  have rkTX2 := cell_regrown kTX2
  have rkTX3 := cell_regrown kTX3
  have rkTX4 := cell_regrown kTX4
  have rkTX5 := cell_regrown kTX5
  have rkTY0 := cell_regrown kTY0
  have rkTY1 := cell_regrown kTY1
  have rkTY2 := cell_regrown kTY2
  have rkTY3 := cell_regrown kTY3
  have rkTY4 := cell_regrown kTY4
  have rkTY5 := cell_regrown kTY5
  have cN : ∀ (n : Int) d os, Calls Tryd.prog 11 #[.int .i64 n] (grow (redrawn w2 d) os) fun e w'' => e = .returned (.int .i64 n) ∧ ∃ p : Regrown, w'' = grow (redrawn w2 p.d) p.os := fun n d os => Calls.regrown_of ((num4_any n _).mono fun _ _ ⟨he, hw⟩ => ⟨he, by rw [← hw]; exact Below.refl _ _⟩)
  clear kTX0 kTX1 kTX2 kTX3 kTX4 kTX5 kTY0 kTY1 kTY2 kTY3 kTY4 kTY5
  refine wp_region_quiet_below (by kernel_rfl) (by kernel_rfl) ?_
  try simp only [List.append_eq, List.cons_append, List.nil_append]
  repeat (go_big_quiet_step (first | (with_reducible exact cN _ _ _)))
  refine wpQuiet_nil ?_
  intro wq hwq
  obtain ⟨⟨dq, osq⟩, rfl⟩ := hwq
  have hb := below_regrown w2 dq osq
  have hv := HV.out.trans (hb.mono HV.out.size)
  have xTX := TX.out.below hb TX.out.lt
  have xTY := TY.out.below hb TY.out.lt
  generalize grow (redrawn w2 dq) osq = w3 at *
  clear hb HV TX TY rkTX0 rkTX1 rkTX2 rkTX3 rkTX4 rkTX5 rkTY0 rkTY1 rkTY2 rkTY3 rkTY4 rkTY5 cN
  have HV := Lib.hid hv
  have TX := Lib.hid xTX
  have TY := Lib.hid xTY
  clear hv xTX xTY
  have lTX := TX.out.lt
  have kTX0 := TX.out.cell 0
  have kTX1 := TX.out.cell 1
  have kTX2 := TX.out.cell 2
  have kTX3 := TX.out.cell 3
  have kTX4 := TX.out.cell 4
  have kTX5 := TX.out.cell 5
  have lTY := TY.out.lt
  have kTY0 := TY.out.cell 0
  have kTY1 := TY.out.cell 1
  have kTY2 := TY.out.cell 2
  have kTY3 := TY.out.cell 3
  have kTY4 := TY.out.cell 4
  have kTY5 := TY.out.cell 5
  simp only [List.getElem?_toArray, List.getElem?_cons_zero, List.getElem?_cons_succ] at kTX0 kTX1 kTX2 kTX3 kTX4 kTX5 kTY0 kTY1 kTY2 kTY3 kTY4 kTY5
  go_wp2_with fail
  clear eC1 eC2 hst hEE2
  refine (HP1.out _).mono ?_
  rintro e w4 ⟨rfl, hb⟩
  clear lTX lTY kTX0 kTX1 kTX2 kTX3 kTX4 kTX5 kTY0 kTY1 kTY2 kTY3 kTY4 kTY5
  have hv := HV.out.trans (hb.mono HV.out.size)
  have xTX := TX.out.below hb TX.out.lt
  have xTY := TY.out.below hb TY.out.lt
  clear hb HV TX TY
  have HV := Lib.hid hv
  have TX := Lib.hid xTX
  have TY := Lib.hid xTY
  clear hv xTX xTY
  go_wp2_with fail
  have hv := HV.out
  have hv := hv.alloc hv.size (.cells #[.int .u32 0, .int .i64 0] 41)
  have xTX := (TX.out).alloc (.cells #[.int .u32 0, .int .i64 0] 41)
  have xTY := (TY.out).alloc (.cells #[.int .u32 0, .int .i64 0] 41)
  have xTP : Blk (w4.alloc (.cells #[.int .u32 0, .int .i64 0] 41)) (w4.heap.size) 41 #[.int .u32 0, .int .i64 0] := by
    have := Blk.new w4 41 #[.int .u32 0, .int .i64 0]
    simpa using this
  generalize hvv : (w4.alloc (.cells #[.int .u32 0, .int .i64 0] 41)) = v2 at *
  clear hvv
  generalize w4.heap.size = gTP at *
  clear HV TX TY
  have HV := Lib.hid hv
  have TX := Lib.hid xTX
  have TY := Lib.hid xTY
  have TP := Lib.hid xTP
  clear hv xTX xTY xTP
  have kTX0 := TX.out.cell 0
  have kTX1 := TX.out.cell 1
  have kTX2 := TX.out.cell 2
  have kTX3 := TX.out.cell 3
  have kTX4 := TX.out.cell 4
  have kTX5 := TX.out.cell 5
  simp only [List.getElem?_toArray, List.getElem?_cons_zero, List.getElem?_cons_succ] at kTX0 kTX1 kTX2 kTX3 kTX4 kTX5
  have rkTX0 := cell_regrown kTX0
  have rkTX1 := cell_regrown kTX1
  have rkTX2 := cell_regrown kTX2
  have rkTX3 := cell_regrown kTX3
  have rkTX4 := cell_regrown kTX4
  have rkTX5 := cell_regrown kTX5
  have cN : ∀ (n : Int) d os, Calls Tryd.prog 11 #[.int .i64 n] (grow (redrawn v2 d) os) fun e w'' => e = .returned (.int .i64 n) ∧ ∃ p : Regrown, w'' = grow (redrawn v2 p.d) p.os := fun n d os => Calls.regrown_of ((num4_any n _).mono fun _ _ ⟨he, hw⟩ => ⟨he, by rw [← hw]; exact Below.refl _ _⟩)
  have cW : ∀ d os, Calls Tryd.prog 17 #[.agg #[.int .i64 f, .int .i64 t, .int .u32 a, .int .u32 m, .int .u32 n, .int .u32 k]] (grow (redrawn v2 d) os) fun e w'' => e = .returned (.int .i64 r) ∧ ∃ p : Regrown, w'' = grow (redrawn v2 p.d) p.os := fun d os => Calls.regrown_of (HW1.out _)
  clear kTX0 kTX1 kTX2 kTX3 kTX4 kTX5
  refine wp_region_quiet_below (by kernel_rfl) (by kernel_rfl) ?_
  try simp only [List.append_eq, List.cons_append, List.nil_append]
  repeat (go_big_quiet_step (first | (with_reducible exact cN _ _ _) | (with_reducible exact cW _ _)))
  refine wpQuiet_nil ?_
  intro wq hwq
  obtain ⟨⟨dq, osq⟩, rfl⟩ := hwq
  have hb := below_regrown v2 dq osq
  have hv := HV.out.trans (hb.mono HV.out.size)
  have xTX := TX.out.below hb TX.out.lt
  have xTY := TY.out.below hb TY.out.lt
  have xTP := TP.out.below hb TP.out.lt
  generalize grow (redrawn v2 dq) osq = w5 at *
  clear hb HV TX TY TP rkTX0 rkTX1 rkTX2 rkTX3 rkTX4 rkTX5 cN cW
  have HV := Lib.hid hv
  have TX := Lib.hid xTX
  have TY := Lib.hid xTY
  have TP := Lib.hid xTP
  clear hv xTX xTY xTP
  have lTX := TX.out.lt
  have kTX0 := TX.out.cell 0
  have kTX1 := TX.out.cell 1
  have kTX2 := TX.out.cell 2
  have kTX3 := TX.out.cell 3
  have kTX4 := TX.out.cell 4
  have kTX5 := TX.out.cell 5
  have lTY := TY.out.lt
  have kTY0 := TY.out.cell 0
  have kTY1 := TY.out.cell 1
  have kTY2 := TY.out.cell 2
  have kTY3 := TY.out.cell 3
  have kTY4 := TY.out.cell 4
  have kTY5 := TY.out.cell 5
  have lTP := TP.out.lt
  have kTP0 := TP.out.cell 0
  have kTP1 := TP.out.cell 1
  simp only [List.getElem?_toArray, List.getElem?_cons_zero, List.getElem?_cons_succ] at kTX0 kTX1 kTX2 kTX3 kTX4 kTX5 kTY0 kTY1 kTY2 kTY3 kTY4 kTY5 kTP0 kTP1
  go_wp2_with fail
  refine (num4_any _ _).mono ?_
  rintro e wn6 ⟨rfl, rfl⟩
  go_wp2_with fail
  refine (HY0.out _ (HF.out.below HV.out)).mono ?_
  rintro e w7 ⟨rfl, hb⟩
  clear lTX lTY lTP kTX0 kTX1 kTX2 kTX3 kTX4 kTX5 kTY0 kTY1 kTY2 kTY3 kTY4 kTY5 kTP0 kTP1
  have hv := HV.out.trans (hb.mono HV.out.size)
  have xTX := TX.out.below hb TX.out.lt
  have xTY := TY.out.below hb TY.out.lt
  have xTP := TP.out.below hb TP.out.lt
  clear hb HV TX TY TP
  have HV := Lib.hid hv
  have TX := Lib.hid xTX
  have TY := Lib.hid xTY
  have TP := Lib.hid xTP
  clear hv xTX xTY xTP
  go_wp2_with fail
  go_ret
  exact ⟨rfl, HV.out⟩

set_option maxRecDepth 100000 in
set_option maxHeartbeats 6400000 in
theorem law04_holds_r_gbad (t a m k f' t' a' m' n' k' : Int) (ho : (⟨2, t, a, m, 0, k⟩ : Ent).Ok) (ho2 : (⟨f', t', a', m', n', k'⟩ : Ent).Ok) (hx : whyE ⟨2, t, a, m, 0, k⟩ = 0) (hy : ¬ whyE ⟨f', t', a', m', n', k'⟩ = 0) (hr : rightE ⟨2, t, a, m, 0, k⟩) (hr2 : rightE ⟨f', t', a', m', n', k'⟩) (w : World) (hf : Fit3 w) :
    Calls Tryd.prog 7 #[.agg #[.int .i64 2, .int .i64 t, .int .u32 a, .int .u32 m, .int .u32 0, .int .u32 k], .agg #[.int .i64 f', .int .i64 t', .int .u32 a', .int .u32 m', .int .u32 n', .int .u32 k']] w fun e w' => e = .returned (.bool true) ∧ Below w.heap.size w w' := by
  have HF := Lib.hid hf
  have HY0 : Hid (∀ W, Fit3 W → Calls Tryd.prog 8 #[] W fun e w' => e = .returned (.bool true) ∧ Below W.heap.size W w') := yes4
  have HB1 := Lib.hid (fun W (hF : Fit3 W) => bytesE_c ⟨2, t, a, m, 0, k⟩ ho W hF)
  have HB2 := Lib.hid (fun W (hF : Fit3 W) => bytesE_c ⟨f', t', a', m', n', k'⟩ ho2 W hF)
  have hEE := fun W => eqEnt_run ⟨2, t, a, m, 0, k⟩ ⟨f', t', a', m', n', k'⟩ W
  have hEE2 : ∀ W, (binOp .eql 25 (.agg #[.int .i64 2, .int .i64 t, .int .u32 a, .int .u32 m, .int .u32 0, .int .u32 k]) (.agg #[.int .i64 f', .int .i64 t', .int .u32 a', .int .u32 m', .int .u32 n', .int .u32 k'])).run Tryd.prog W = .ok (.bool (decide ((⟨2, t, a, m, 0, k⟩ : Ent) = ⟨f', t', a', m', n', k'⟩))) W := hEE
  have hP1 := fun W => prefix4_any ⟨2, t, a, m, 0, k⟩ ho W
  have hW1 := fun W => why_any ⟨2, t, a, m, 0, k⟩ ho W
  have hst := strE_eq hr ho hr2 ho2
  obtain ⟨-, -, g1, g2, k1, k2, g3, g4⟩ := good_is hx
  dsimp only at g1 g3 g4 k1 k2
  have hO := fun W => of4_any (preA ⟨2, t, a, m, 0, k⟩) (preL ⟨2, t, a, m, 0, k⟩) k (by rw [g1]; exact ho.a0) (by rw [g1]; exact ho.a1) W
  rw [g3, g4] at hO
  rw [g1] at hO
  rw [g1, g2] at hP1
  rw [hx] at hW1
  obtain ⟨pl, hpl⟩ : ∃ pl, preL ⟨2, t, a, m, 0, k⟩ = pl := ⟨_, rfl⟩
  rw [hpl] at hO hP1
  have HO : Hid (∀ W, Calls Tryd.prog 20 #[.agg #[.int .u32 a, .int .i64 pl], .int .i64 k] W fun e w' => e = .returned (.tuple #[.agg #[.int .i64 2, .int .i64 0, .int .u32 a, .int .u32 m, .int .u32 0, .int .u32 k], .int .i64 0]) ∧ Below W.heap.size W w') := fun W => hO W
  have HP1 : Hid (∀ W, Calls Tryd.prog 15 #[.agg #[.int .i64 2, .int .i64 t, .int .u32 a, .int .u32 m, .int .u32 0, .int .u32 k]] W fun e w' => e = .returned (.tuple #[.agg #[.int .u32 a, .int .i64 pl], .int .i64 0]) ∧ Below W.heap.size W w') := fun W => hP1 W
  have HW1 : Hid (∀ W, Calls Tryd.prog 17 #[.agg #[.int .i64 2, .int .i64 t, .int .u32 a, .int .u32 m, .int .u32 0, .int .u32 k]] W fun e w' => e = .returned (.int .i64 0) ∧ Below W.heap.size W w') := fun W => hW1 W
  have hP2 := fun W => prefix4_any ⟨f', t', a', m', n', k'⟩ ho2 W
  obtain ⟨d1, d2, d3⟩ := bad_is hy
  rw [d1, d2, d3] at hP2
  have HP2 : Hid (∀ W, Calls Tryd.prog 15 #[.agg #[.int .i64 f', .int .i64 t', .int .u32 a', .int .u32 m', .int .u32 n', .int .u32 k']] W fun e w' => e = .returned (.tuple #[.agg #[.int .u32 0, .int .i64 0], .int .i64 140]) ∧ Below W.heap.size W w') := fun W => hP2 W
  clear hO hP2 g1 g2 g3 g4 d1 d2 hpl d3
  generalize hbb : decide ((⟨2, t, a, m, 0, k⟩ : Ent) = ⟨f', t', a', m', n', k'⟩) = bb at *
  have HRR := Lib.hid hr
  have HRR2 := Lib.hid hr2
  clear hf hEE hP1 hW1 hbb ho ho2 hx hr hr2 hy
  go_enter Tryd.func7, Tryd.ntmps7
  go_wp2_with fail
  have hv := Below.refl w.heap.size w
  have hv := hv.alloc hv.size (.cells #[.int .i64 2, .int .i64 t, .int .u32 a, .int .u32 m, .int .u32 0, .int .u32 k] 25)
  have hv := hv.alloc hv.size (.cells #[.int .i64 f', .int .i64 t', .int .u32 a', .int .u32 m', .int .u32 n', .int .u32 k'] 25)
  have xTX : Blk ((w.alloc (.cells #[.int .i64 2, .int .i64 t, .int .u32 a, .int .u32 m, .int .u32 0, .int .u32 k] 25)).alloc (.cells #[.int .i64 f', .int .i64 t', .int .u32 a', .int .u32 m', .int .u32 n', .int .u32 k'] 25)) (w.heap.size) 25 #[.int .i64 2, .int .i64 t, .int .u32 a, .int .u32 m, .int .u32 0, .int .u32 k] := by
    have := (Blk.new w 25 #[.int .i64 2, .int .i64 t, .int .u32 a, .int .u32 m, .int .u32 0, .int .u32 k]).alloc (.cells #[.int .i64 f', .int .i64 t', .int .u32 a', .int .u32 m', .int .u32 n', .int .u32 k'] 25)
    simpa using this
  have xTY : Blk ((w.alloc (.cells #[.int .i64 2, .int .i64 t, .int .u32 a, .int .u32 m, .int .u32 0, .int .u32 k] 25)).alloc (.cells #[.int .i64 f', .int .i64 t', .int .u32 a', .int .u32 m', .int .u32 n', .int .u32 k'] 25)) (w.heap.size + 1) 25 #[.int .i64 f', .int .i64 t', .int .u32 a', .int .u32 m', .int .u32 n', .int .u32 k'] := by
    have := Blk.new (w.alloc (.cells #[.int .i64 2, .int .i64 t, .int .u32 a, .int .u32 m, .int .u32 0, .int .u32 k] 25)) 25 #[.int .i64 f', .int .i64 t', .int .u32 a', .int .u32 m', .int .u32 n', .int .u32 k']
    simpa using this
  generalize hvv : ((w.alloc (.cells #[.int .i64 2, .int .i64 t, .int .u32 a, .int .u32 m, .int .u32 0, .int .u32 k] 25)).alloc (.cells #[.int .i64 f', .int .i64 t', .int .u32 a', .int .u32 m', .int .u32 n', .int .u32 k'] 25)) = v1 at *
  clear hvv
  have HV := Lib.hid hv
  have TX := Lib.hid xTX
  have TY := Lib.hid xTY
  clear hv xTX xTY
  refine (HB1.out _ (HF.out.below HV.out)).mono ?_
  rintro e w1 ⟨⟨p1, l1, c1, z1, rfl, hy1⟩, hb⟩
  have hv := HV.out.trans (hb.mono HV.out.size)
  have xTX := TX.out.below hb TX.out.lt
  have xTY := TY.out.below hb TY.out.lt
  clear hb HV TX TY
  have HV := Lib.hid hv
  have TX := Lib.hid xTX
  have TY := Lib.hid xTY
  clear hv xTX xTY
  have HY1 := Lib.hid hy1
  clear hy1
  have lTY := TY.out.lt
  have kTY0 := TY.out.cell 0
  have kTY1 := TY.out.cell 1
  have kTY2 := TY.out.cell 2
  have kTY3 := TY.out.cell 3
  have kTY4 := TY.out.cell 4
  have kTY5 := TY.out.cell 5
  simp only [List.getElem?_toArray, List.getElem?_cons_zero, List.getElem?_cons_succ] at kTY0 kTY1 kTY2 kTY3 kTY4 kTY5
  go_wp2_with fail
  refine (HB2.out _ (HF.out.below HV.out)).mono ?_
  rintro e w2 ⟨⟨p2, l2, c2, z2, rfl, hy2⟩, hb⟩
  clear lTY kTY0 kTY1 kTY2 kTY3 kTY4 kTY5
  have hv := HV.out.trans (hb.mono HV.out.size)
  have xTX := TX.out.below hb TX.out.lt
  have xTY := TY.out.below hb TY.out.lt
  have yHY1 := HY1.out.below hb
  clear hb HV TX TY
  have HV := Lib.hid hv
  have TX := Lib.hid xTX
  have TY := Lib.hid xTY
  clear hv xTX xTY
  clear HY1
  have HY1 := Lib.hid yHY1
  clear yHY1
  have HY2 := Lib.hid hy2
  clear hy2
  have HFW := Lib.hid (HF.out.below HV.out)
  obtain ⟨rfl, rfl, hs1⟩ := HY1.out.ok HRR.out
  obtain ⟨rfl, rfl, hs2⟩ := HY2.out.ok HRR2.out
  have eC1 : ∀ d os, Sem.run Tryd.prog (convert 26 9 (.slice p1 20 c1)) (grow (redrawn w2 d) os) = .ok (.string (strOfNums (bytesE ⟨2, t, a, m, 0, k⟩))) (grow (redrawn w2 d) os) := fun d os => by
    have := conv_bytes (hs1.below (below_regrown w2 d os)) c1
    rwa [bytesE_len] at this
  have eC2 : ∀ d os, Sem.run Tryd.prog (convert 26 9 (.slice p2 20 c2)) (grow (redrawn w2 d) os) = .ok (.string (strOfNums (bytesE ⟨f', t', a', m', n', k'⟩))) (grow (redrawn w2 d) os) := fun d os => by
    have := conv_bytes (hs2.below (below_regrown w2 d os)) c2
    rwa [bytesE_len] at this
  generalize strOfNums (bytesE ⟨2, t, a, m, 0, k⟩) = s1 at *
  generalize strOfNums (bytesE ⟨f', t', a', m', n', k'⟩) = s2 at *
  clear hs1 hs2 HY1 HY2 HRR HRR2
  go_wp2_with fail
  have kTX0 := TX.out.cell 0
  have kTX1 := TX.out.cell 1
  have kTX2 := TX.out.cell 2
  have kTX3 := TX.out.cell 3
  have kTX4 := TX.out.cell 4
  have kTX5 := TX.out.cell 5
  have kTY0 := TY.out.cell 0
  have kTY1 := TY.out.cell 1
  have kTY2 := TY.out.cell 2
  have kTY3 := TY.out.cell 3
  have kTY4 := TY.out.cell 4
  have kTY5 := TY.out.cell 5
  simp only [List.getElem?_toArray, List.getElem?_cons_zero, List.getElem?_cons_succ] at kTX0 kTX1 kTX2 kTX3 kTX4 kTX5 kTY0 kTY1 kTY2 kTY3 kTY4 kTY5
  have rkTX0 := cell_regrown kTX0
  have rkTX1 := cell_regrown kTX1
  have rkTX2 := cell_regrown kTX2
  have rkTX3 := cell_regrown kTX3
  have rkTX4 := cell_regrown kTX4
  have rkTX5 := cell_regrown kTX5
  have rkTY0 := cell_regrown kTY0
  have rkTY1 := cell_regrown kTY1
  have rkTY2 := cell_regrown kTY2
  have rkTY3 := cell_regrown kTY3
  have rkTY4 := cell_regrown kTY4
  have rkTY5 := cell_regrown kTY5
  have cN : ∀ (n : Int) d os, Calls Tryd.prog 11 #[.int .i64 n] (grow (redrawn w2 d) os) fun e w'' => e = .returned (.int .i64 n) ∧ ∃ p : Regrown, w'' = grow (redrawn w2 p.d) p.os := fun n d os => Calls.regrown_of ((num4_any n _).mono fun _ _ ⟨he, hw⟩ => ⟨he, by rw [← hw]; exact Below.refl _ _⟩)
  clear kTX0 kTX1 kTX2 kTX3 kTX4 kTX5 kTY0 kTY1 kTY2 kTY3 kTY4 kTY5
  refine wp_region_quiet_below (by kernel_rfl) (by kernel_rfl) ?_
  try simp only [List.append_eq, List.cons_append, List.nil_append]
  repeat (go_big_quiet_step (first | (with_reducible exact cN _ _ _)))
  refine wpQuiet_nil ?_
  intro wq hwq
  obtain ⟨⟨dq, osq⟩, rfl⟩ := hwq
  have hb := below_regrown w2 dq osq
  have hv := HV.out.trans (hb.mono HV.out.size)
  have xTX := TX.out.below hb TX.out.lt
  have xTY := TY.out.below hb TY.out.lt
  generalize grow (redrawn w2 dq) osq = w3 at *
  clear hb HV TX TY rkTX0 rkTX1 rkTX2 rkTX3 rkTX4 rkTX5 rkTY0 rkTY1 rkTY2 rkTY3 rkTY4 rkTY5 cN
  have HV := Lib.hid hv
  have TX := Lib.hid xTX
  have TY := Lib.hid xTY
  clear hv xTX xTY
  have lTX := TX.out.lt
  have kTX0 := TX.out.cell 0
  have kTX1 := TX.out.cell 1
  have kTX2 := TX.out.cell 2
  have kTX3 := TX.out.cell 3
  have kTX4 := TX.out.cell 4
  have kTX5 := TX.out.cell 5
  have lTY := TY.out.lt
  have kTY0 := TY.out.cell 0
  have kTY1 := TY.out.cell 1
  have kTY2 := TY.out.cell 2
  have kTY3 := TY.out.cell 3
  have kTY4 := TY.out.cell 4
  have kTY5 := TY.out.cell 5
  simp only [List.getElem?_toArray, List.getElem?_cons_zero, List.getElem?_cons_succ] at kTX0 kTX1 kTX2 kTX3 kTX4 kTX5 kTY0 kTY1 kTY2 kTY3 kTY4 kTY5
  go_wp2_with fail
  clear eC1 eC2 hst hEE2
  refine (HP1.out _).mono ?_
  rintro e w4 ⟨rfl, hb⟩
  clear lTX lTY kTX0 kTX1 kTX2 kTX3 kTX4 kTX5 kTY0 kTY1 kTY2 kTY3 kTY4 kTY5
  have hv := HV.out.trans (hb.mono HV.out.size)
  have xTX := TX.out.below hb TX.out.lt
  have xTY := TY.out.below hb TY.out.lt
  clear hb HV TX TY
  have HV := Lib.hid hv
  have TX := Lib.hid xTX
  have TY := Lib.hid xTY
  clear hv xTX xTY
  go_wp2_with fail
  have hv := HV.out
  have hv := hv.alloc hv.size (.cells #[.int .u32 a, .int .i64 pl] 41)
  have xTX := (TX.out).alloc (.cells #[.int .u32 a, .int .i64 pl] 41)
  have xTY := (TY.out).alloc (.cells #[.int .u32 a, .int .i64 pl] 41)
  have xTP : Blk (w4.alloc (.cells #[.int .u32 a, .int .i64 pl] 41)) (w4.heap.size) 41 #[.int .u32 a, .int .i64 pl] := by
    have := Blk.new w4 41 #[.int .u32 a, .int .i64 pl]
    simpa using this
  generalize hvv : (w4.alloc (.cells #[.int .u32 a, .int .i64 pl] 41)) = v2 at *
  clear hvv
  generalize w4.heap.size = gTP at *
  clear HV TX TY
  have HV := Lib.hid hv
  have TX := Lib.hid xTX
  have TY := Lib.hid xTY
  have TP := Lib.hid xTP
  clear hv xTX xTY xTP
  have kTX0 := TX.out.cell 0
  have kTX1 := TX.out.cell 1
  have kTX2 := TX.out.cell 2
  have kTX3 := TX.out.cell 3
  have kTX4 := TX.out.cell 4
  have kTX5 := TX.out.cell 5
  simp only [List.getElem?_toArray, List.getElem?_cons_zero, List.getElem?_cons_succ] at kTX0 kTX1 kTX2 kTX3 kTX4 kTX5
  have rkTX0 := cell_regrown kTX0
  have rkTX1 := cell_regrown kTX1
  have rkTX2 := cell_regrown kTX2
  have rkTX3 := cell_regrown kTX3
  have rkTX4 := cell_regrown kTX4
  have rkTX5 := cell_regrown kTX5
  have cN : ∀ (n : Int) d os, Calls Tryd.prog 11 #[.int .i64 n] (grow (redrawn v2 d) os) fun e w'' => e = .returned (.int .i64 n) ∧ ∃ p : Regrown, w'' = grow (redrawn v2 p.d) p.os := fun n d os => Calls.regrown_of ((num4_any n _).mono fun _ _ ⟨he, hw⟩ => ⟨he, by rw [← hw]; exact Below.refl _ _⟩)
  have cW : ∀ d os, Calls Tryd.prog 17 #[.agg #[.int .i64 2, .int .i64 t, .int .u32 a, .int .u32 m, .int .u32 0, .int .u32 k]] (grow (redrawn v2 d) os) fun e w'' => e = .returned (.int .i64 0) ∧ ∃ p : Regrown, w'' = grow (redrawn v2 p.d) p.os := fun d os => Calls.regrown_of (HW1.out _)
  clear kTX0 kTX1 kTX2 kTX3 kTX4 kTX5
  refine wp_region_quiet_below (by kernel_rfl) (by kernel_rfl) ?_
  try simp only [List.append_eq, List.cons_append, List.nil_append]
  repeat (go_big_quiet_step (first | (with_reducible exact cN _ _ _) | (with_reducible exact cW _ _)))
  refine wpQuiet_nil ?_
  intro wq hwq
  obtain ⟨⟨dq, osq⟩, rfl⟩ := hwq
  have hb := below_regrown v2 dq osq
  have hv := HV.out.trans (hb.mono HV.out.size)
  have xTX := TX.out.below hb TX.out.lt
  have xTY := TY.out.below hb TY.out.lt
  have xTP := TP.out.below hb TP.out.lt
  generalize grow (redrawn v2 dq) osq = w5 at *
  clear hb HV TX TY TP rkTX0 rkTX1 rkTX2 rkTX3 rkTX4 rkTX5 cN cW
  have HV := Lib.hid hv
  have TX := Lib.hid xTX
  have TY := Lib.hid xTY
  have TP := Lib.hid xTP
  clear hv xTX xTY xTP
  have lTX := TX.out.lt
  have kTX0 := TX.out.cell 0
  have kTX1 := TX.out.cell 1
  have kTX2 := TX.out.cell 2
  have kTX3 := TX.out.cell 3
  have kTX4 := TX.out.cell 4
  have kTX5 := TX.out.cell 5
  have lTY := TY.out.lt
  have kTY0 := TY.out.cell 0
  have kTY1 := TY.out.cell 1
  have kTY2 := TY.out.cell 2
  have kTY3 := TY.out.cell 3
  have kTY4 := TY.out.cell 4
  have kTY5 := TY.out.cell 5
  have lTP := TP.out.lt
  have kTP0 := TP.out.cell 0
  have kTP1 := TP.out.cell 1
  simp only [List.getElem?_toArray, List.getElem?_cons_zero, List.getElem?_cons_succ] at kTX0 kTX1 kTX2 kTX3 kTX4 kTX5 kTY0 kTY1 kTY2 kTY3 kTY4 kTY5 kTP0 kTP1
  go_wp2_with fail
  refine (num4_any _ _).mono ?_
  rintro e wn6 ⟨rfl, rfl⟩
  go_wp2_with fail
  refine (HO.out _).mono ?_
  rintro e w7 ⟨rfl, hb⟩
  clear lTX lTY lTP kTX0 kTX1 kTX2 kTX3 kTX4 kTX5 kTY0 kTY1 kTY2 kTY3 kTY4 kTY5 kTP0 kTP1
  have hv := HV.out.trans (hb.mono HV.out.size)
  have xTX := TX.out.below hb TX.out.lt
  have xTY := TY.out.below hb TY.out.lt
  have xTP := TP.out.below hb TP.out.lt
  clear hb HV TX TY TP
  have HV := Lib.hid hv
  have TX := Lib.hid xTX
  have TY := Lib.hid xTY
  have TP := Lib.hid xTP
  clear hv xTX xTY xTP
  have lTX := TX.out.lt
  have kTX0 := TX.out.cell 0
  have kTX1 := TX.out.cell 1
  have kTX2 := TX.out.cell 2
  have kTX3 := TX.out.cell 3
  have kTX4 := TX.out.cell 4
  have kTX5 := TX.out.cell 5
  have lTY := TY.out.lt
  have kTY0 := TY.out.cell 0
  have kTY1 := TY.out.cell 1
  have kTY2 := TY.out.cell 2
  have kTY3 := TY.out.cell 3
  have kTY4 := TY.out.cell 4
  have kTY5 := TY.out.cell 5
  simp only [List.getElem?_toArray, List.getElem?_cons_zero, List.getElem?_cons_succ] at kTX0 kTX1 kTX2 kTX3 kTX4 kTX5 kTY0 kTY1 kTY2 kTY3 kTY4 kTY5
  go_wp2_with fail
  clear lTX lTY kTX0 kTX1 kTX2 kTX3 kTX4 kTX5 kTY0 kTY1 kTY2 kTY3 kTY4 kTY5
  have hv := HV.out
  have hv := hv.alloc hv.size (.cells #[.int .i64 2, .int .i64 t, .int .u32 a, .int .u32 m, .int .u32 0, .int .u32 k] 25)
  have xTX := (TX.out).alloc (.cells #[.int .i64 2, .int .i64 t, .int .u32 a, .int .u32 m, .int .u32 0, .int .u32 k] 25)
  have xTY := (TY.out).alloc (.cells #[.int .i64 2, .int .i64 t, .int .u32 a, .int .u32 m, .int .u32 0, .int .u32 k] 25)
  have xTP := (TP.out).alloc (.cells #[.int .i64 2, .int .i64 t, .int .u32 a, .int .u32 m, .int .u32 0, .int .u32 k] 25)
  have xTZ : Blk (w7.alloc (.cells #[.int .i64 2, .int .i64 t, .int .u32 a, .int .u32 m, .int .u32 0, .int .u32 k] 25)) (w7.heap.size) 25 #[.int .i64 2, .int .i64 t, .int .u32 a, .int .u32 m, .int .u32 0, .int .u32 k] := by
    have := Blk.new w7 25 #[.int .i64 2, .int .i64 t, .int .u32 a, .int .u32 m, .int .u32 0, .int .u32 k]
    simpa using this
  generalize hvv : (w7.alloc (.cells #[.int .i64 2, .int .i64 t, .int .u32 a, .int .u32 m, .int .u32 0, .int .u32 k] 25)) = v3 at *
  clear hvv
  generalize w7.heap.size = gTZ at *
  clear HV TX TY TP
  have HV := Lib.hid hv
  have TX := Lib.hid xTX
  have TY := Lib.hid xTY
  have TP := Lib.hid xTP
  have TZ := Lib.hid xTZ
  clear hv xTX xTY xTP xTZ
  refine (HP2.out _).mono ?_
  rintro e w8 ⟨rfl, hb⟩
  have hv := HV.out.trans (hb.mono HV.out.size)
  have xTX := TX.out.below hb TX.out.lt
  have xTY := TY.out.below hb TY.out.lt
  have xTP := TP.out.below hb TP.out.lt
  have xTZ := TZ.out.below hb TZ.out.lt
  clear hb HV TX TY TP TZ
  have HV := Lib.hid hv
  have TX := Lib.hid xTX
  have TY := Lib.hid xTY
  have TP := Lib.hid xTP
  have TZ := Lib.hid xTZ
  clear hv xTX xTY xTP xTZ
  go_wp2_with fail
  have hv := HV.out
  have hv := hv.alloc hv.size (.cells #[.int .u32 0, .int .i64 0] 41)
  have xTX := (TX.out).alloc (.cells #[.int .u32 0, .int .i64 0] 41)
  have xTY := (TY.out).alloc (.cells #[.int .u32 0, .int .i64 0] 41)
  have xTP := (TP.out).alloc (.cells #[.int .u32 0, .int .i64 0] 41)
  have xTZ := (TZ.out).alloc (.cells #[.int .u32 0, .int .i64 0] 41)
  have xTQ : Blk (w8.alloc (.cells #[.int .u32 0, .int .i64 0] 41)) (w8.heap.size) 41 #[.int .u32 0, .int .i64 0] := by
    have := Blk.new w8 41 #[.int .u32 0, .int .i64 0]
    simpa using this
  generalize hvv : (w8.alloc (.cells #[.int .u32 0, .int .i64 0] 41)) = v4 at *
  clear hvv
  generalize w8.heap.size = gTQ at *
  clear HV TX TY TP TZ
  have HV := Lib.hid hv
  have TX := Lib.hid xTX
  have TY := Lib.hid xTY
  have TP := Lib.hid xTP
  have TZ := Lib.hid xTZ
  have TQ := Lib.hid xTQ
  clear hv xTX xTY xTP xTZ xTQ
  have HFV := Lib.hid (HF.out.below HV.out)
  have kTX0 := TX.out.cell 0
  have kTX1 := TX.out.cell 1
  have kTX2 := TX.out.cell 2
  have kTX3 := TX.out.cell 3
  have kTX4 := TX.out.cell 4
  have kTX5 := TX.out.cell 5
  have kTY0 := TY.out.cell 0
  have kTY1 := TY.out.cell 1
  have kTY2 := TY.out.cell 2
  have kTY3 := TY.out.cell 3
  have kTY4 := TY.out.cell 4
  have kTY5 := TY.out.cell 5
  have kTP0 := TP.out.cell 0
  have kTP1 := TP.out.cell 1
  have kTZ0 := TZ.out.cell 0
  have kTZ1 := TZ.out.cell 1
  have kTZ2 := TZ.out.cell 2
  have kTZ3 := TZ.out.cell 3
  have kTZ4 := TZ.out.cell 4
  have kTZ5 := TZ.out.cell 5
  have kTQ0 := TQ.out.cell 0
  have kTQ1 := TQ.out.cell 1
  simp only [List.getElem?_toArray, List.getElem?_cons_zero, List.getElem?_cons_succ] at kTX0 kTX1 kTX2 kTX3 kTX4 kTX5 kTY0 kTY1 kTY2 kTY3 kTY4 kTY5 kTP0 kTP1 kTZ0 kTZ1 kTZ2 kTZ3 kTZ4 kTZ5 kTQ0 kTQ1
  have rkTX0 := cell_regrown kTX0
  have rkTX1 := cell_regrown kTX1
  have rkTX2 := cell_regrown kTX2
  have rkTX3 := cell_regrown kTX3
  have rkTX4 := cell_regrown kTX4
  have rkTX5 := cell_regrown kTX5
  have rkTY0 := cell_regrown kTY0
  have rkTY1 := cell_regrown kTY1
  have rkTY2 := cell_regrown kTY2
  have rkTY3 := cell_regrown kTY3
  have rkTY4 := cell_regrown kTY4
  have rkTY5 := cell_regrown kTY5
  have rkTP0 := cell_regrown kTP0
  have rkTP1 := cell_regrown kTP1
  have rkTZ0 := cell_regrown kTZ0
  have rkTZ1 := cell_regrown kTZ1
  have rkTZ2 := cell_regrown kTZ2
  have rkTZ3 := cell_regrown kTZ3
  have rkTZ4 := cell_regrown kTZ4
  have rkTZ5 := cell_regrown kTZ5
  have rkTQ0 := cell_regrown kTQ0
  have rkTQ1 := cell_regrown kTQ1
  have cN : ∀ (n : Int) d os, Calls Tryd.prog 11 #[.int .i64 n] (grow (redrawn v4 d) os) fun e w'' => e = .returned (.int .i64 n) ∧ ∃ p : Regrown, w'' = grow (redrawn v4 p.d) p.os := fun n d os => Calls.regrown_of ((num4_any n _).mono fun _ _ ⟨he, hw⟩ => ⟨he, by rw [← hw]; exact Below.refl _ _⟩)
  have cY : ∀ d os, Calls Tryd.prog 8 #[] (grow (redrawn v4 d) os) fun e w'' => e = .returned (.bool true) ∧ ∃ p : Regrown, w'' = grow (redrawn v4 p.d) p.os := fun d os => Calls.regrown_of (HY0.out _ (HFV.out.below (below_regrown v4 d os)))
  clear kTX0 kTX1 kTX2 kTX3 kTX4 kTX5 kTY0 kTY1 kTY2 kTY3 kTY4 kTY5 kTP0 kTP1 kTZ0 kTZ1 kTZ2 kTZ3 kTZ4 kTZ5 kTQ0 kTQ1
  refine wp_region_quiet_below (by kernel_rfl) (by kernel_rfl) ?_
  try simp only [List.append_eq, List.cons_append, List.nil_append]
  repeat (go_big_quiet_step (first | (with_reducible exact cN _ _ _) | (with_reducible exact cY _ _)))
  refine wpQuiet_nil ?_
  intro wq hwq
  obtain ⟨⟨dq, osq⟩, rfl⟩ := hwq
  have hb := below_regrown v4 dq osq
  have hv := HV.out.trans (hb.mono HV.out.size)
  have xTX := TX.out.below hb TX.out.lt
  have xTY := TY.out.below hb TY.out.lt
  have xTP := TP.out.below hb TP.out.lt
  have xTZ := TZ.out.below hb TZ.out.lt
  have xTQ := TQ.out.below hb TQ.out.lt
  generalize grow (redrawn v4 dq) osq = w9 at *
  clear hb HV TX TY TP TZ TQ rkTX0 rkTX1 rkTX2 rkTX3 rkTX4 rkTX5 rkTY0 rkTY1 rkTY2 rkTY3 rkTY4 rkTY5 rkTP0 rkTP1 rkTZ0 rkTZ1 rkTZ2 rkTZ3 rkTZ4 rkTZ5 rkTQ0 rkTQ1 cN cY
  have HV := Lib.hid hv
  have TX := Lib.hid xTX
  have TY := Lib.hid xTY
  have TP := Lib.hid xTP
  have TZ := Lib.hid xTZ
  have TQ := Lib.hid xTQ
  clear hv xTX xTY xTP xTZ xTQ
  go_wp2_with fail
  go_ret
  exact ⟨rfl, HV.out⟩

set_option maxRecDepth 100000 in
set_option maxHeartbeats 6400000 in
theorem law04_holds_r_geq (t a m k f' t' m' n' k' : Int) (ho : (⟨2, t, a, m, 0, k⟩ : Ent).Ok) (ho2 : (⟨f', t', a, m', n', k'⟩ : Ent).Ok) (hx : whyE ⟨2, t, a, m, 0, k⟩ = 0) (hy : whyE ⟨f', t', a, m', n', k'⟩ = 0) (hr : rightE ⟨2, t, a, m, 0, k⟩) (hr2 : rightE ⟨f', t', a, m', n', k'⟩) (w : World) (hf : Fit3 w) :
    Calls Tryd.prog 7 #[.agg #[.int .i64 2, .int .i64 t, .int .u32 a, .int .u32 m, .int .u32 0, .int .u32 k], .agg #[.int .i64 f', .int .i64 t', .int .u32 a, .int .u32 m', .int .u32 n', .int .u32 k']] w fun e w' => e = .returned (.bool true) ∧ Below w.heap.size w w' := by
  have HF := Lib.hid hf
  have HY0 : Hid (∀ W, Fit3 W → Calls Tryd.prog 8 #[] W fun e w' => e = .returned (.bool true) ∧ Below W.heap.size W w') := yes4
  have HB1 := Lib.hid (fun W (hF : Fit3 W) => bytesE_c ⟨2, t, a, m, 0, k⟩ ho W hF)
  have HB2 := Lib.hid (fun W (hF : Fit3 W) => bytesE_c ⟨f', t', a, m', n', k'⟩ ho2 W hF)
  have hEE := fun W => eqEnt_run ⟨2, t, a, m, 0, k⟩ ⟨f', t', a, m', n', k'⟩ W
  have hEE2 : ∀ W, (binOp .eql 25 (.agg #[.int .i64 2, .int .i64 t, .int .u32 a, .int .u32 m, .int .u32 0, .int .u32 k]) (.agg #[.int .i64 f', .int .i64 t', .int .u32 a, .int .u32 m', .int .u32 n', .int .u32 k'])).run Tryd.prog W = .ok (.bool (decide ((⟨2, t, a, m, 0, k⟩ : Ent) = ⟨f', t', a, m', n', k'⟩))) W := hEE
  have hP1 := fun W => prefix4_any ⟨2, t, a, m, 0, k⟩ ho W
  have hW1 := fun W => why_any ⟨2, t, a, m, 0, k⟩ ho W
  have hst := strE_eq hr ho hr2 ho2
  obtain ⟨-, -, g1, g2, k1, k2, g3, g4⟩ := good_is hx
  dsimp only at g1 g3 g4 k1 k2
  have hO := fun W => of4_any (preA ⟨2, t, a, m, 0, k⟩) (preL ⟨2, t, a, m, 0, k⟩) k (by rw [g1]; exact ho.a0) (by rw [g1]; exact ho.a1) W
  rw [g3, g4] at hO
  rw [g1] at hO
  rw [g1, g2] at hP1
  rw [hx] at hW1
  obtain ⟨pl, hpl⟩ : ∃ pl, preL ⟨2, t, a, m, 0, k⟩ = pl := ⟨_, rfl⟩
  have hsm := pre_same hx hy
  rw [hpl] at hsm
  rw [hpl] at hO hP1
  have HO : Hid (∀ W, Calls Tryd.prog 20 #[.agg #[.int .u32 a, .int .i64 pl], .int .i64 k] W fun e w' => e = .returned (.tuple #[.agg #[.int .i64 2, .int .i64 0, .int .u32 a, .int .u32 m, .int .u32 0, .int .u32 k], .int .i64 0]) ∧ Below W.heap.size W w') := fun W => hO W
  have HP1 : Hid (∀ W, Calls Tryd.prog 15 #[.agg #[.int .i64 2, .int .i64 t, .int .u32 a, .int .u32 m, .int .u32 0, .int .u32 k]] W fun e w' => e = .returned (.tuple #[.agg #[.int .u32 a, .int .i64 pl], .int .i64 0]) ∧ Below W.heap.size W w') := fun W => hP1 W
  have HW1 : Hid (∀ W, Calls Tryd.prog 17 #[.agg #[.int .i64 2, .int .i64 t, .int .u32 a, .int .u32 m, .int .u32 0, .int .u32 k]] W fun e w' => e = .returned (.int .i64 0) ∧ Below W.heap.size W w') := fun W => hW1 W
  have hP2 := fun W => prefix4_any ⟨f', t', a, m', n', k'⟩ ho2 W
  obtain ⟨-, -, d1, d2, -⟩ := good_is hy
  dsimp only at d1
  rw [d1, d2] at hP2
  obtain ⟨ql, hql⟩ : ∃ ql, preL ⟨f', t', a, m', n', k'⟩ = ql := ⟨_, rfl⟩
  rw [hql] at hP2
  rw [hql] at hsm
  have hPQ : ∀ W, (binOp .eql 41 (.agg #[.int .u32 a, .int .i64 pl]) (.agg #[.int .u32 a, .int .i64 ql])).run Tryd.prog W = .ok (.bool (m == m')) W := fun W => by
    have := eqPre_run a pl a ql W
    have e1 : (a == a && pl == ql) = (m == m') := by
      rw [Bool.eq_iff_iff]
      simpa using hsm
    rw [e1] at this
    exact this
  clear hsm
  have HP2 : Hid (∀ W, Calls Tryd.prog 15 #[.agg #[.int .i64 f', .int .i64 t', .int .u32 a, .int .u32 m', .int .u32 n', .int .u32 k']] W fun e w' => e = .returned (.tuple #[.agg #[.int .u32 a, .int .i64 ql], .int .i64 0]) ∧ Below W.heap.size W w') := fun W => hP2 W
  clear hO hP2 g1 g2 g3 g4 d1 d2 hpl hql
  generalize hbb : decide ((⟨2, t, a, m, 0, k⟩ : Ent) = ⟨f', t', a, m', n', k'⟩) = bb at *
  have HRR := Lib.hid hr
  have HRR2 := Lib.hid hr2
  clear hf hEE hP1 hW1 hbb ho ho2 hx hr hr2 hy
  go_enter Tryd.func7, Tryd.ntmps7
  go_wp2_with fail
  have hv := Below.refl w.heap.size w
  have hv := hv.alloc hv.size (.cells #[.int .i64 2, .int .i64 t, .int .u32 a, .int .u32 m, .int .u32 0, .int .u32 k] 25)
  have hv := hv.alloc hv.size (.cells #[.int .i64 f', .int .i64 t', .int .u32 a, .int .u32 m', .int .u32 n', .int .u32 k'] 25)
  have xTX : Blk ((w.alloc (.cells #[.int .i64 2, .int .i64 t, .int .u32 a, .int .u32 m, .int .u32 0, .int .u32 k] 25)).alloc (.cells #[.int .i64 f', .int .i64 t', .int .u32 a, .int .u32 m', .int .u32 n', .int .u32 k'] 25)) (w.heap.size) 25 #[.int .i64 2, .int .i64 t, .int .u32 a, .int .u32 m, .int .u32 0, .int .u32 k] := by
    have := (Blk.new w 25 #[.int .i64 2, .int .i64 t, .int .u32 a, .int .u32 m, .int .u32 0, .int .u32 k]).alloc (.cells #[.int .i64 f', .int .i64 t', .int .u32 a, .int .u32 m', .int .u32 n', .int .u32 k'] 25)
    simpa using this
  have xTY : Blk ((w.alloc (.cells #[.int .i64 2, .int .i64 t, .int .u32 a, .int .u32 m, .int .u32 0, .int .u32 k] 25)).alloc (.cells #[.int .i64 f', .int .i64 t', .int .u32 a, .int .u32 m', .int .u32 n', .int .u32 k'] 25)) (w.heap.size + 1) 25 #[.int .i64 f', .int .i64 t', .int .u32 a, .int .u32 m', .int .u32 n', .int .u32 k'] := by
    have := Blk.new (w.alloc (.cells #[.int .i64 2, .int .i64 t, .int .u32 a, .int .u32 m, .int .u32 0, .int .u32 k] 25)) 25 #[.int .i64 f', .int .i64 t', .int .u32 a, .int .u32 m', .int .u32 n', .int .u32 k']
    simpa using this
  generalize hvv : ((w.alloc (.cells #[.int .i64 2, .int .i64 t, .int .u32 a, .int .u32 m, .int .u32 0, .int .u32 k] 25)).alloc (.cells #[.int .i64 f', .int .i64 t', .int .u32 a, .int .u32 m', .int .u32 n', .int .u32 k'] 25)) = v1 at *
  clear hvv
  have HV := Lib.hid hv
  have TX := Lib.hid xTX
  have TY := Lib.hid xTY
  clear hv xTX xTY
  refine (HB1.out _ (HF.out.below HV.out)).mono ?_
  rintro e w1 ⟨⟨p1, l1, c1, z1, rfl, hy1⟩, hb⟩
  have hv := HV.out.trans (hb.mono HV.out.size)
  have xTX := TX.out.below hb TX.out.lt
  have xTY := TY.out.below hb TY.out.lt
  clear hb HV TX TY
  have HV := Lib.hid hv
  have TX := Lib.hid xTX
  have TY := Lib.hid xTY
  clear hv xTX xTY
  have HY1 := Lib.hid hy1
  clear hy1
  have lTY := TY.out.lt
  have kTY0 := TY.out.cell 0
  have kTY1 := TY.out.cell 1
  have kTY2 := TY.out.cell 2
  have kTY3 := TY.out.cell 3
  have kTY4 := TY.out.cell 4
  have kTY5 := TY.out.cell 5
  simp only [List.getElem?_toArray, List.getElem?_cons_zero, List.getElem?_cons_succ] at kTY0 kTY1 kTY2 kTY3 kTY4 kTY5
  go_wp2_with fail
  refine (HB2.out _ (HF.out.below HV.out)).mono ?_
  rintro e w2 ⟨⟨p2, l2, c2, z2, rfl, hy2⟩, hb⟩
  clear lTY kTY0 kTY1 kTY2 kTY3 kTY4 kTY5
  have hv := HV.out.trans (hb.mono HV.out.size)
  have xTX := TX.out.below hb TX.out.lt
  have xTY := TY.out.below hb TY.out.lt
  have yHY1 := HY1.out.below hb
  clear hb HV TX TY
  have HV := Lib.hid hv
  have TX := Lib.hid xTX
  have TY := Lib.hid xTY
  clear hv xTX xTY
  clear HY1
  have HY1 := Lib.hid yHY1
  clear yHY1
  have HY2 := Lib.hid hy2
  clear hy2
  have HFW := Lib.hid (HF.out.below HV.out)
  obtain ⟨rfl, rfl, hs1⟩ := HY1.out.ok HRR.out
  obtain ⟨rfl, rfl, hs2⟩ := HY2.out.ok HRR2.out
  have eC1 : ∀ d os, Sem.run Tryd.prog (convert 26 9 (.slice p1 20 c1)) (grow (redrawn w2 d) os) = .ok (.string (strOfNums (bytesE ⟨2, t, a, m, 0, k⟩))) (grow (redrawn w2 d) os) := fun d os => by
    have := conv_bytes (hs1.below (below_regrown w2 d os)) c1
    rwa [bytesE_len] at this
  have eC2 : ∀ d os, Sem.run Tryd.prog (convert 26 9 (.slice p2 20 c2)) (grow (redrawn w2 d) os) = .ok (.string (strOfNums (bytesE ⟨f', t', a, m', n', k'⟩))) (grow (redrawn w2 d) os) := fun d os => by
    have := conv_bytes (hs2.below (below_regrown w2 d os)) c2
    rwa [bytesE_len] at this
  generalize strOfNums (bytesE ⟨2, t, a, m, 0, k⟩) = s1 at *
  generalize strOfNums (bytesE ⟨f', t', a, m', n', k'⟩) = s2 at *
  clear hs1 hs2 HY1 HY2 HRR HRR2
  go_wp2_with fail
  have kTX0 := TX.out.cell 0
  have kTX1 := TX.out.cell 1
  have kTX2 := TX.out.cell 2
  have kTX3 := TX.out.cell 3
  have kTX4 := TX.out.cell 4
  have kTX5 := TX.out.cell 5
  have kTY0 := TY.out.cell 0
  have kTY1 := TY.out.cell 1
  have kTY2 := TY.out.cell 2
  have kTY3 := TY.out.cell 3
  have kTY4 := TY.out.cell 4
  have kTY5 := TY.out.cell 5
  simp only [List.getElem?_toArray, List.getElem?_cons_zero, List.getElem?_cons_succ] at kTX0 kTX1 kTX2 kTX3 kTX4 kTX5 kTY0 kTY1 kTY2 kTY3 kTY4 kTY5
  have rkTX0 := cell_regrown kTX0
  have rkTX1 := cell_regrown kTX1
  have rkTX2 := cell_regrown kTX2
  have rkTX3 := cell_regrown kTX3
  have rkTX4 := cell_regrown kTX4
  have rkTX5 := cell_regrown kTX5
  have rkTY0 := cell_regrown kTY0
  have rkTY1 := cell_regrown kTY1
  have rkTY2 := cell_regrown kTY2
  have rkTY3 := cell_regrown kTY3
  have rkTY4 := cell_regrown kTY4
  have rkTY5 := cell_regrown kTY5
  have cN : ∀ (n : Int) d os, Calls Tryd.prog 11 #[.int .i64 n] (grow (redrawn w2 d) os) fun e w'' => e = .returned (.int .i64 n) ∧ ∃ p : Regrown, w'' = grow (redrawn w2 p.d) p.os := fun n d os => Calls.regrown_of ((num4_any n _).mono fun _ _ ⟨he, hw⟩ => ⟨he, by rw [← hw]; exact Below.refl _ _⟩)
  clear kTX0 kTX1 kTX2 kTX3 kTX4 kTX5 kTY0 kTY1 kTY2 kTY3 kTY4 kTY5
  refine wp_region_quiet_below (by kernel_rfl) (by kernel_rfl) ?_
  try simp only [List.append_eq, List.cons_append, List.nil_append]
  repeat (go_big_quiet_step (first | (with_reducible exact cN _ _ _)))
  refine wpQuiet_nil ?_
  intro wq hwq
  obtain ⟨⟨dq, osq⟩, rfl⟩ := hwq
  have hb := below_regrown w2 dq osq
  have hv := HV.out.trans (hb.mono HV.out.size)
  have xTX := TX.out.below hb TX.out.lt
  have xTY := TY.out.below hb TY.out.lt
  generalize grow (redrawn w2 dq) osq = w3 at *
  clear hb HV TX TY rkTX0 rkTX1 rkTX2 rkTX3 rkTX4 rkTX5 rkTY0 rkTY1 rkTY2 rkTY3 rkTY4 rkTY5 cN
  have HV := Lib.hid hv
  have TX := Lib.hid xTX
  have TY := Lib.hid xTY
  clear hv xTX xTY
  have lTX := TX.out.lt
  have kTX0 := TX.out.cell 0
  have kTX1 := TX.out.cell 1
  have kTX2 := TX.out.cell 2
  have kTX3 := TX.out.cell 3
  have kTX4 := TX.out.cell 4
  have kTX5 := TX.out.cell 5
  have lTY := TY.out.lt
  have kTY0 := TY.out.cell 0
  have kTY1 := TY.out.cell 1
  have kTY2 := TY.out.cell 2
  have kTY3 := TY.out.cell 3
  have kTY4 := TY.out.cell 4
  have kTY5 := TY.out.cell 5
  simp only [List.getElem?_toArray, List.getElem?_cons_zero, List.getElem?_cons_succ] at kTX0 kTX1 kTX2 kTX3 kTX4 kTX5 kTY0 kTY1 kTY2 kTY3 kTY4 kTY5
  go_wp2_with fail
  clear eC1 eC2 hst hEE2
  refine (HP1.out _).mono ?_
  rintro e w4 ⟨rfl, hb⟩
  clear lTX lTY kTX0 kTX1 kTX2 kTX3 kTX4 kTX5 kTY0 kTY1 kTY2 kTY3 kTY4 kTY5
  have hv := HV.out.trans (hb.mono HV.out.size)
  have xTX := TX.out.below hb TX.out.lt
  have xTY := TY.out.below hb TY.out.lt
  clear hb HV TX TY
  have HV := Lib.hid hv
  have TX := Lib.hid xTX
  have TY := Lib.hid xTY
  clear hv xTX xTY
  go_wp2_with fail
  have hv := HV.out
  have hv := hv.alloc hv.size (.cells #[.int .u32 a, .int .i64 pl] 41)
  have xTX := (TX.out).alloc (.cells #[.int .u32 a, .int .i64 pl] 41)
  have xTY := (TY.out).alloc (.cells #[.int .u32 a, .int .i64 pl] 41)
  have xTP : Blk (w4.alloc (.cells #[.int .u32 a, .int .i64 pl] 41)) (w4.heap.size) 41 #[.int .u32 a, .int .i64 pl] := by
    have := Blk.new w4 41 #[.int .u32 a, .int .i64 pl]
    simpa using this
  generalize hvv : (w4.alloc (.cells #[.int .u32 a, .int .i64 pl] 41)) = v2 at *
  clear hvv
  generalize w4.heap.size = gTP at *
  clear HV TX TY
  have HV := Lib.hid hv
  have TX := Lib.hid xTX
  have TY := Lib.hid xTY
  have TP := Lib.hid xTP
  clear hv xTX xTY xTP
  have kTX0 := TX.out.cell 0
  have kTX1 := TX.out.cell 1
  have kTX2 := TX.out.cell 2
  have kTX3 := TX.out.cell 3
  have kTX4 := TX.out.cell 4
  have kTX5 := TX.out.cell 5
  simp only [List.getElem?_toArray, List.getElem?_cons_zero, List.getElem?_cons_succ] at kTX0 kTX1 kTX2 kTX3 kTX4 kTX5
  have rkTX0 := cell_regrown kTX0
  have rkTX1 := cell_regrown kTX1
  have rkTX2 := cell_regrown kTX2
  have rkTX3 := cell_regrown kTX3
  have rkTX4 := cell_regrown kTX4
  have rkTX5 := cell_regrown kTX5
  have cN : ∀ (n : Int) d os, Calls Tryd.prog 11 #[.int .i64 n] (grow (redrawn v2 d) os) fun e w'' => e = .returned (.int .i64 n) ∧ ∃ p : Regrown, w'' = grow (redrawn v2 p.d) p.os := fun n d os => Calls.regrown_of ((num4_any n _).mono fun _ _ ⟨he, hw⟩ => ⟨he, by rw [← hw]; exact Below.refl _ _⟩)
  have cW : ∀ d os, Calls Tryd.prog 17 #[.agg #[.int .i64 2, .int .i64 t, .int .u32 a, .int .u32 m, .int .u32 0, .int .u32 k]] (grow (redrawn v2 d) os) fun e w'' => e = .returned (.int .i64 0) ∧ ∃ p : Regrown, w'' = grow (redrawn v2 p.d) p.os := fun d os => Calls.regrown_of (HW1.out _)
  clear kTX0 kTX1 kTX2 kTX3 kTX4 kTX5
  refine wp_region_quiet_below (by kernel_rfl) (by kernel_rfl) ?_
  try simp only [List.append_eq, List.cons_append, List.nil_append]
  repeat (go_big_quiet_step (first | (with_reducible exact cN _ _ _) | (with_reducible exact cW _ _)))
  refine wpQuiet_nil ?_
  intro wq hwq
  obtain ⟨⟨dq, osq⟩, rfl⟩ := hwq
  have hb := below_regrown v2 dq osq
  have hv := HV.out.trans (hb.mono HV.out.size)
  have xTX := TX.out.below hb TX.out.lt
  have xTY := TY.out.below hb TY.out.lt
  have xTP := TP.out.below hb TP.out.lt
  generalize grow (redrawn v2 dq) osq = w5 at *
  clear hb HV TX TY TP rkTX0 rkTX1 rkTX2 rkTX3 rkTX4 rkTX5 cN cW
  have HV := Lib.hid hv
  have TX := Lib.hid xTX
  have TY := Lib.hid xTY
  have TP := Lib.hid xTP
  clear hv xTX xTY xTP
  have lTX := TX.out.lt
  have kTX0 := TX.out.cell 0
  have kTX1 := TX.out.cell 1
  have kTX2 := TX.out.cell 2
  have kTX3 := TX.out.cell 3
  have kTX4 := TX.out.cell 4
  have kTX5 := TX.out.cell 5
  have lTY := TY.out.lt
  have kTY0 := TY.out.cell 0
  have kTY1 := TY.out.cell 1
  have kTY2 := TY.out.cell 2
  have kTY3 := TY.out.cell 3
  have kTY4 := TY.out.cell 4
  have kTY5 := TY.out.cell 5
  have lTP := TP.out.lt
  have kTP0 := TP.out.cell 0
  have kTP1 := TP.out.cell 1
  simp only [List.getElem?_toArray, List.getElem?_cons_zero, List.getElem?_cons_succ] at kTX0 kTX1 kTX2 kTX3 kTX4 kTX5 kTY0 kTY1 kTY2 kTY3 kTY4 kTY5 kTP0 kTP1
  go_wp2_with fail
  refine (num4_any _ _).mono ?_
  rintro e wn6 ⟨rfl, rfl⟩
  go_wp2_with fail
  refine (HO.out _).mono ?_
  rintro e w7 ⟨rfl, hb⟩
  clear lTX lTY lTP kTX0 kTX1 kTX2 kTX3 kTX4 kTX5 kTY0 kTY1 kTY2 kTY3 kTY4 kTY5 kTP0 kTP1
  have hv := HV.out.trans (hb.mono HV.out.size)
  have xTX := TX.out.below hb TX.out.lt
  have xTY := TY.out.below hb TY.out.lt
  have xTP := TP.out.below hb TP.out.lt
  clear hb HV TX TY TP
  have HV := Lib.hid hv
  have TX := Lib.hid xTX
  have TY := Lib.hid xTY
  have TP := Lib.hid xTP
  clear hv xTX xTY xTP
  have lTX := TX.out.lt
  have kTX0 := TX.out.cell 0
  have kTX1 := TX.out.cell 1
  have kTX2 := TX.out.cell 2
  have kTX3 := TX.out.cell 3
  have kTX4 := TX.out.cell 4
  have kTX5 := TX.out.cell 5
  have lTY := TY.out.lt
  have kTY0 := TY.out.cell 0
  have kTY1 := TY.out.cell 1
  have kTY2 := TY.out.cell 2
  have kTY3 := TY.out.cell 3
  have kTY4 := TY.out.cell 4
  have kTY5 := TY.out.cell 5
  simp only [List.getElem?_toArray, List.getElem?_cons_zero, List.getElem?_cons_succ] at kTX0 kTX1 kTX2 kTX3 kTX4 kTX5 kTY0 kTY1 kTY2 kTY3 kTY4 kTY5
  go_wp2_with fail
  clear lTX lTY kTX0 kTX1 kTX2 kTX3 kTX4 kTX5 kTY0 kTY1 kTY2 kTY3 kTY4 kTY5
  have hv := HV.out
  have hv := hv.alloc hv.size (.cells #[.int .i64 2, .int .i64 t, .int .u32 a, .int .u32 m, .int .u32 0, .int .u32 k] 25)
  have xTX := (TX.out).alloc (.cells #[.int .i64 2, .int .i64 t, .int .u32 a, .int .u32 m, .int .u32 0, .int .u32 k] 25)
  have xTY := (TY.out).alloc (.cells #[.int .i64 2, .int .i64 t, .int .u32 a, .int .u32 m, .int .u32 0, .int .u32 k] 25)
  have xTP := (TP.out).alloc (.cells #[.int .i64 2, .int .i64 t, .int .u32 a, .int .u32 m, .int .u32 0, .int .u32 k] 25)
  have xTZ : Blk (w7.alloc (.cells #[.int .i64 2, .int .i64 t, .int .u32 a, .int .u32 m, .int .u32 0, .int .u32 k] 25)) (w7.heap.size) 25 #[.int .i64 2, .int .i64 t, .int .u32 a, .int .u32 m, .int .u32 0, .int .u32 k] := by
    have := Blk.new w7 25 #[.int .i64 2, .int .i64 t, .int .u32 a, .int .u32 m, .int .u32 0, .int .u32 k]
    simpa using this
  generalize hvv : (w7.alloc (.cells #[.int .i64 2, .int .i64 t, .int .u32 a, .int .u32 m, .int .u32 0, .int .u32 k] 25)) = v3 at *
  clear hvv
  generalize w7.heap.size = gTZ at *
  clear HV TX TY TP
  have HV := Lib.hid hv
  have TX := Lib.hid xTX
  have TY := Lib.hid xTY
  have TP := Lib.hid xTP
  have TZ := Lib.hid xTZ
  clear hv xTX xTY xTP xTZ
  refine (HP2.out _).mono ?_
  rintro e w8 ⟨rfl, hb⟩
  have hv := HV.out.trans (hb.mono HV.out.size)
  have xTX := TX.out.below hb TX.out.lt
  have xTY := TY.out.below hb TY.out.lt
  have xTP := TP.out.below hb TP.out.lt
  have xTZ := TZ.out.below hb TZ.out.lt
  clear hb HV TX TY TP TZ
  have HV := Lib.hid hv
  have TX := Lib.hid xTX
  have TY := Lib.hid xTY
  have TP := Lib.hid xTP
  have TZ := Lib.hid xTZ
  clear hv xTX xTY xTP xTZ
  go_wp2_with fail
  have hv := HV.out
  have hv := hv.alloc hv.size (.cells #[.int .u32 a, .int .i64 ql] 41)
  have xTX := (TX.out).alloc (.cells #[.int .u32 a, .int .i64 ql] 41)
  have xTY := (TY.out).alloc (.cells #[.int .u32 a, .int .i64 ql] 41)
  have xTP := (TP.out).alloc (.cells #[.int .u32 a, .int .i64 ql] 41)
  have xTZ := (TZ.out).alloc (.cells #[.int .u32 a, .int .i64 ql] 41)
  have xTQ : Blk (w8.alloc (.cells #[.int .u32 a, .int .i64 ql] 41)) (w8.heap.size) 41 #[.int .u32 a, .int .i64 ql] := by
    have := Blk.new w8 41 #[.int .u32 a, .int .i64 ql]
    simpa using this
  generalize hvv : (w8.alloc (.cells #[.int .u32 a, .int .i64 ql] 41)) = v4 at *
  clear hvv
  generalize w8.heap.size = gTQ at *
  clear HV TX TY TP TZ
  have HV := Lib.hid hv
  have TX := Lib.hid xTX
  have TY := Lib.hid xTY
  have TP := Lib.hid xTP
  have TZ := Lib.hid xTZ
  have TQ := Lib.hid xTQ
  clear hv xTX xTY xTP xTZ xTQ
  have HFV := Lib.hid (HF.out.below HV.out)
  have kTX0 := TX.out.cell 0
  have kTX1 := TX.out.cell 1
  have kTX2 := TX.out.cell 2
  have kTX3 := TX.out.cell 3
  have kTX4 := TX.out.cell 4
  have kTX5 := TX.out.cell 5
  have kTY0 := TY.out.cell 0
  have kTY1 := TY.out.cell 1
  have kTY2 := TY.out.cell 2
  have kTY3 := TY.out.cell 3
  have kTY4 := TY.out.cell 4
  have kTY5 := TY.out.cell 5
  have kTP0 := TP.out.cell 0
  have kTP1 := TP.out.cell 1
  have kTZ0 := TZ.out.cell 0
  have kTZ1 := TZ.out.cell 1
  have kTZ2 := TZ.out.cell 2
  have kTZ3 := TZ.out.cell 3
  have kTZ4 := TZ.out.cell 4
  have kTZ5 := TZ.out.cell 5
  have kTQ0 := TQ.out.cell 0
  have kTQ1 := TQ.out.cell 1
  simp only [List.getElem?_toArray, List.getElem?_cons_zero, List.getElem?_cons_succ] at kTX0 kTX1 kTX2 kTX3 kTX4 kTX5 kTY0 kTY1 kTY2 kTY3 kTY4 kTY5 kTP0 kTP1 kTZ0 kTZ1 kTZ2 kTZ3 kTZ4 kTZ5 kTQ0 kTQ1
  have rkTX0 := cell_regrown kTX0
  have rkTX1 := cell_regrown kTX1
  have rkTX2 := cell_regrown kTX2
  have rkTX3 := cell_regrown kTX3
  have rkTX4 := cell_regrown kTX4
  have rkTX5 := cell_regrown kTX5
  have rkTY0 := cell_regrown kTY0
  have rkTY1 := cell_regrown kTY1
  have rkTY2 := cell_regrown kTY2
  have rkTY3 := cell_regrown kTY3
  have rkTY4 := cell_regrown kTY4
  have rkTY5 := cell_regrown kTY5
  have rkTP0 := cell_regrown kTP0
  have rkTP1 := cell_regrown kTP1
  have rkTZ0 := cell_regrown kTZ0
  have rkTZ1 := cell_regrown kTZ1
  have rkTZ2 := cell_regrown kTZ2
  have rkTZ3 := cell_regrown kTZ3
  have rkTZ4 := cell_regrown kTZ4
  have rkTZ5 := cell_regrown kTZ5
  have rkTQ0 := cell_regrown kTQ0
  have rkTQ1 := cell_regrown kTQ1
  have cN : ∀ (n : Int) d os, Calls Tryd.prog 11 #[.int .i64 n] (grow (redrawn v4 d) os) fun e w'' => e = .returned (.int .i64 n) ∧ ∃ p : Regrown, w'' = grow (redrawn v4 p.d) p.os := fun n d os => Calls.regrown_of ((num4_any n _).mono fun _ _ ⟨he, hw⟩ => ⟨he, by rw [← hw]; exact Below.refl _ _⟩)
  have cY : ∀ d os, Calls Tryd.prog 8 #[] (grow (redrawn v4 d) os) fun e w'' => e = .returned (.bool true) ∧ ∃ p : Regrown, w'' = grow (redrawn v4 p.d) p.os := fun d os => Calls.regrown_of (HY0.out _ (HFV.out.below (below_regrown v4 d os)))
  clear kTX0 kTX1 kTX2 kTX3 kTX4 kTX5 kTY0 kTY1 kTY2 kTY3 kTY4 kTY5 kTP0 kTP1 kTZ0 kTZ1 kTZ2 kTZ3 kTZ4 kTZ5 kTQ0 kTQ1
  refine wp_region_quiet_below (by kernel_rfl) (by kernel_rfl) ?_
  try simp only [List.append_eq, List.cons_append, List.nil_append]
  repeat (go_big_quiet_step (first | (with_reducible exact cN _ _ _) | (with_reducible exact cY _ _)))
  refine wpQuiet_nil ?_
  intro wq hwq
  obtain ⟨⟨dq, osq⟩, rfl⟩ := hwq
  have hb := below_regrown v4 dq osq
  have hv := HV.out.trans (hb.mono HV.out.size)
  have xTX := TX.out.below hb TX.out.lt
  have xTY := TY.out.below hb TY.out.lt
  have xTP := TP.out.below hb TP.out.lt
  have xTZ := TZ.out.below hb TZ.out.lt
  have xTQ := TQ.out.below hb TQ.out.lt
  generalize grow (redrawn v4 dq) osq = w9 at *
  clear hb HV TX TY TP TZ TQ rkTX0 rkTX1 rkTX2 rkTX3 rkTX4 rkTX5 rkTY0 rkTY1 rkTY2 rkTY3 rkTY4 rkTY5 rkTP0 rkTP1 rkTZ0 rkTZ1 rkTZ2 rkTZ3 rkTZ4 rkTZ5 rkTQ0 rkTQ1 cN cY
  have HV := Lib.hid hv
  have TX := Lib.hid xTX
  have TY := Lib.hid xTY
  have TP := Lib.hid xTP
  have TZ := Lib.hid xTZ
  have TQ := Lib.hid xTQ
  clear hv xTX xTY xTP xTZ xTQ
  go_wp2_with fail
  go_ret
  exact ⟨rfl, HV.out⟩

set_option maxRecDepth 100000 in
set_option maxHeartbeats 6400000 in
theorem law04_holds_r_gne (t a m k f' t' a' m' n' k' : Int) (ho : (⟨2, t, a, m, 0, k⟩ : Ent).Ok) (ho2 : (⟨f', t', a', m', n', k'⟩ : Ent).Ok) (hx : whyE ⟨2, t, a, m, 0, k⟩ = 0) (hy : whyE ⟨f', t', a', m', n', k'⟩ = 0) (hne : ¬ a = a') (hr : rightE ⟨2, t, a, m, 0, k⟩) (hr2 : rightE ⟨f', t', a', m', n', k'⟩) (w : World) (hf : Fit3 w) :
    Calls Tryd.prog 7 #[.agg #[.int .i64 2, .int .i64 t, .int .u32 a, .int .u32 m, .int .u32 0, .int .u32 k], .agg #[.int .i64 f', .int .i64 t', .int .u32 a', .int .u32 m', .int .u32 n', .int .u32 k']] w fun e w' => e = .returned (.bool true) ∧ Below w.heap.size w w' := by
  have HF := Lib.hid hf
  have HY0 : Hid (∀ W, Fit3 W → Calls Tryd.prog 8 #[] W fun e w' => e = .returned (.bool true) ∧ Below W.heap.size W w') := yes4
  have HB1 := Lib.hid (fun W (hF : Fit3 W) => bytesE_c ⟨2, t, a, m, 0, k⟩ ho W hF)
  have HB2 := Lib.hid (fun W (hF : Fit3 W) => bytesE_c ⟨f', t', a', m', n', k'⟩ ho2 W hF)
  have hEE := fun W => eqEnt_run ⟨2, t, a, m, 0, k⟩ ⟨f', t', a', m', n', k'⟩ W
  have hEE2 : ∀ W, (binOp .eql 25 (.agg #[.int .i64 2, .int .i64 t, .int .u32 a, .int .u32 m, .int .u32 0, .int .u32 k]) (.agg #[.int .i64 f', .int .i64 t', .int .u32 a', .int .u32 m', .int .u32 n', .int .u32 k'])).run Tryd.prog W = .ok (.bool (decide ((⟨2, t, a, m, 0, k⟩ : Ent) = ⟨f', t', a', m', n', k'⟩))) W := hEE
  have hP1 := fun W => prefix4_any ⟨2, t, a, m, 0, k⟩ ho W
  have hW1 := fun W => why_any ⟨2, t, a, m, 0, k⟩ ho W
  have hst := strE_eq hr ho hr2 ho2
  obtain ⟨-, -, g1, g2, k1, k2, g3, g4⟩ := good_is hx
  dsimp only at g1 g3 g4 k1 k2
  have hO := fun W => of4_any (preA ⟨2, t, a, m, 0, k⟩) (preL ⟨2, t, a, m, 0, k⟩) k (by rw [g1]; exact ho.a0) (by rw [g1]; exact ho.a1) W
  rw [g3, g4] at hO
  rw [g1] at hO
  rw [g1, g2] at hP1
  rw [hx] at hW1
  obtain ⟨pl, hpl⟩ : ∃ pl, preL ⟨2, t, a, m, 0, k⟩ = pl := ⟨_, rfl⟩
  rw [hpl] at hO hP1
  have HO : Hid (∀ W, Calls Tryd.prog 20 #[.agg #[.int .u32 a, .int .i64 pl], .int .i64 k] W fun e w' => e = .returned (.tuple #[.agg #[.int .i64 2, .int .i64 0, .int .u32 a, .int .u32 m, .int .u32 0, .int .u32 k], .int .i64 0]) ∧ Below W.heap.size W w') := fun W => hO W
  have HP1 : Hid (∀ W, Calls Tryd.prog 15 #[.agg #[.int .i64 2, .int .i64 t, .int .u32 a, .int .u32 m, .int .u32 0, .int .u32 k]] W fun e w' => e = .returned (.tuple #[.agg #[.int .u32 a, .int .i64 pl], .int .i64 0]) ∧ Below W.heap.size W w') := fun W => hP1 W
  have HW1 : Hid (∀ W, Calls Tryd.prog 17 #[.agg #[.int .i64 2, .int .i64 t, .int .u32 a, .int .u32 m, .int .u32 0, .int .u32 k]] W fun e w' => e = .returned (.int .i64 0) ∧ Below W.heap.size W w') := fun W => hW1 W
  have hP2 := fun W => prefix4_any ⟨f', t', a', m', n', k'⟩ ho2 W
  obtain ⟨-, -, d1, d2, -⟩ := good_is hy
  dsimp only at d1
  rw [d1, d2] at hP2
  obtain ⟨ql, hql⟩ : ∃ ql, preL ⟨f', t', a', m', n', k'⟩ = ql := ⟨_, rfl⟩
  rw [hql] at hP2
  have hPQ : ∀ W, (binOp .eql 41 (.agg #[.int .u32 a, .int .i64 pl]) (.agg #[.int .u32 a', .int .i64 ql])).run Tryd.prog W = .ok (.bool false) W := fun W => by
    have := eqPre_run a pl a' ql W
    have e1 : (a == a' && pl == ql) = false := by simp [hne]
    rw [e1] at this
    exact this
  have hnb : (a == a') = false := by simpa using hne
  clear hne
  have HP2 : Hid (∀ W, Calls Tryd.prog 15 #[.agg #[.int .i64 f', .int .i64 t', .int .u32 a', .int .u32 m', .int .u32 n', .int .u32 k']] W fun e w' => e = .returned (.tuple #[.agg #[.int .u32 a', .int .i64 ql], .int .i64 0]) ∧ Below W.heap.size W w') := fun W => hP2 W
  clear hO hP2 g1 g2 g3 g4 d1 d2 hpl hql
  generalize hbb : decide ((⟨2, t, a, m, 0, k⟩ : Ent) = ⟨f', t', a', m', n', k'⟩) = bb at *
  have HRR := Lib.hid hr
  have HRR2 := Lib.hid hr2
  clear hf hEE hP1 hW1 hbb ho ho2 hx hr hr2 hy
  go_enter Tryd.func7, Tryd.ntmps7
  go_wp2_with fail
  have hv := Below.refl w.heap.size w
  have hv := hv.alloc hv.size (.cells #[.int .i64 2, .int .i64 t, .int .u32 a, .int .u32 m, .int .u32 0, .int .u32 k] 25)
  have hv := hv.alloc hv.size (.cells #[.int .i64 f', .int .i64 t', .int .u32 a', .int .u32 m', .int .u32 n', .int .u32 k'] 25)
  have xTX : Blk ((w.alloc (.cells #[.int .i64 2, .int .i64 t, .int .u32 a, .int .u32 m, .int .u32 0, .int .u32 k] 25)).alloc (.cells #[.int .i64 f', .int .i64 t', .int .u32 a', .int .u32 m', .int .u32 n', .int .u32 k'] 25)) (w.heap.size) 25 #[.int .i64 2, .int .i64 t, .int .u32 a, .int .u32 m, .int .u32 0, .int .u32 k] := by
    have := (Blk.new w 25 #[.int .i64 2, .int .i64 t, .int .u32 a, .int .u32 m, .int .u32 0, .int .u32 k]).alloc (.cells #[.int .i64 f', .int .i64 t', .int .u32 a', .int .u32 m', .int .u32 n', .int .u32 k'] 25)
    simpa using this
  have xTY : Blk ((w.alloc (.cells #[.int .i64 2, .int .i64 t, .int .u32 a, .int .u32 m, .int .u32 0, .int .u32 k] 25)).alloc (.cells #[.int .i64 f', .int .i64 t', .int .u32 a', .int .u32 m', .int .u32 n', .int .u32 k'] 25)) (w.heap.size + 1) 25 #[.int .i64 f', .int .i64 t', .int .u32 a', .int .u32 m', .int .u32 n', .int .u32 k'] := by
    have := Blk.new (w.alloc (.cells #[.int .i64 2, .int .i64 t, .int .u32 a, .int .u32 m, .int .u32 0, .int .u32 k] 25)) 25 #[.int .i64 f', .int .i64 t', .int .u32 a', .int .u32 m', .int .u32 n', .int .u32 k']
    simpa using this
  generalize hvv : ((w.alloc (.cells #[.int .i64 2, .int .i64 t, .int .u32 a, .int .u32 m, .int .u32 0, .int .u32 k] 25)).alloc (.cells #[.int .i64 f', .int .i64 t', .int .u32 a', .int .u32 m', .int .u32 n', .int .u32 k'] 25)) = v1 at *
  clear hvv
  have HV := Lib.hid hv
  have TX := Lib.hid xTX
  have TY := Lib.hid xTY
  clear hv xTX xTY
  refine (HB1.out _ (HF.out.below HV.out)).mono ?_
  rintro e w1 ⟨⟨p1, l1, c1, z1, rfl, hy1⟩, hb⟩
  have hv := HV.out.trans (hb.mono HV.out.size)
  have xTX := TX.out.below hb TX.out.lt
  have xTY := TY.out.below hb TY.out.lt
  clear hb HV TX TY
  have HV := Lib.hid hv
  have TX := Lib.hid xTX
  have TY := Lib.hid xTY
  clear hv xTX xTY
  have HY1 := Lib.hid hy1
  clear hy1
  have lTY := TY.out.lt
  have kTY0 := TY.out.cell 0
  have kTY1 := TY.out.cell 1
  have kTY2 := TY.out.cell 2
  have kTY3 := TY.out.cell 3
  have kTY4 := TY.out.cell 4
  have kTY5 := TY.out.cell 5
  simp only [List.getElem?_toArray, List.getElem?_cons_zero, List.getElem?_cons_succ] at kTY0 kTY1 kTY2 kTY3 kTY4 kTY5
  go_wp2_with fail
  refine (HB2.out _ (HF.out.below HV.out)).mono ?_
  rintro e w2 ⟨⟨p2, l2, c2, z2, rfl, hy2⟩, hb⟩
  clear lTY kTY0 kTY1 kTY2 kTY3 kTY4 kTY5
  have hv := HV.out.trans (hb.mono HV.out.size)
  have xTX := TX.out.below hb TX.out.lt
  have xTY := TY.out.below hb TY.out.lt
  have yHY1 := HY1.out.below hb
  clear hb HV TX TY
  have HV := Lib.hid hv
  have TX := Lib.hid xTX
  have TY := Lib.hid xTY
  clear hv xTX xTY
  clear HY1
  have HY1 := Lib.hid yHY1
  clear yHY1
  have HY2 := Lib.hid hy2
  clear hy2
  have HFW := Lib.hid (HF.out.below HV.out)
  obtain ⟨rfl, rfl, hs1⟩ := HY1.out.ok HRR.out
  obtain ⟨rfl, rfl, hs2⟩ := HY2.out.ok HRR2.out
  have eC1 : ∀ d os, Sem.run Tryd.prog (convert 26 9 (.slice p1 20 c1)) (grow (redrawn w2 d) os) = .ok (.string (strOfNums (bytesE ⟨2, t, a, m, 0, k⟩))) (grow (redrawn w2 d) os) := fun d os => by
    have := conv_bytes (hs1.below (below_regrown w2 d os)) c1
    rwa [bytesE_len] at this
  have eC2 : ∀ d os, Sem.run Tryd.prog (convert 26 9 (.slice p2 20 c2)) (grow (redrawn w2 d) os) = .ok (.string (strOfNums (bytesE ⟨f', t', a', m', n', k'⟩))) (grow (redrawn w2 d) os) := fun d os => by
    have := conv_bytes (hs2.below (below_regrown w2 d os)) c2
    rwa [bytesE_len] at this
  generalize strOfNums (bytesE ⟨2, t, a, m, 0, k⟩) = s1 at *
  generalize strOfNums (bytesE ⟨f', t', a', m', n', k'⟩) = s2 at *
  clear hs1 hs2 HY1 HY2 HRR HRR2
  go_wp2_with fail
  have kTX0 := TX.out.cell 0
  have kTX1 := TX.out.cell 1
  have kTX2 := TX.out.cell 2
  have kTX3 := TX.out.cell 3
  have kTX4 := TX.out.cell 4
  have kTX5 := TX.out.cell 5
  have kTY0 := TY.out.cell 0
  have kTY1 := TY.out.cell 1
  have kTY2 := TY.out.cell 2
  have kTY3 := TY.out.cell 3
  have kTY4 := TY.out.cell 4
  have kTY5 := TY.out.cell 5
  simp only [List.getElem?_toArray, List.getElem?_cons_zero, List.getElem?_cons_succ] at kTX0 kTX1 kTX2 kTX3 kTX4 kTX5 kTY0 kTY1 kTY2 kTY3 kTY4 kTY5
  have rkTX0 := cell_regrown kTX0
  have rkTX1 := cell_regrown kTX1
  have rkTX2 := cell_regrown kTX2
  have rkTX3 := cell_regrown kTX3
  have rkTX4 := cell_regrown kTX4
  have rkTX5 := cell_regrown kTX5
  have rkTY0 := cell_regrown kTY0
  have rkTY1 := cell_regrown kTY1
  have rkTY2 := cell_regrown kTY2
  have rkTY3 := cell_regrown kTY3
  have rkTY4 := cell_regrown kTY4
  have rkTY5 := cell_regrown kTY5
  have cN : ∀ (n : Int) d os, Calls Tryd.prog 11 #[.int .i64 n] (grow (redrawn w2 d) os) fun e w'' => e = .returned (.int .i64 n) ∧ ∃ p : Regrown, w'' = grow (redrawn w2 p.d) p.os := fun n d os => Calls.regrown_of ((num4_any n _).mono fun _ _ ⟨he, hw⟩ => ⟨he, by rw [← hw]; exact Below.refl _ _⟩)
  clear kTX0 kTX1 kTX2 kTX3 kTX4 kTX5 kTY0 kTY1 kTY2 kTY3 kTY4 kTY5
  refine wp_region_quiet_below (by kernel_rfl) (by kernel_rfl) ?_
  try simp only [List.append_eq, List.cons_append, List.nil_append]
  repeat (go_big_quiet_step (first | (with_reducible exact cN _ _ _)))
  refine wpQuiet_nil ?_
  intro wq hwq
  obtain ⟨⟨dq, osq⟩, rfl⟩ := hwq
  have hb := below_regrown w2 dq osq
  have hv := HV.out.trans (hb.mono HV.out.size)
  have xTX := TX.out.below hb TX.out.lt
  have xTY := TY.out.below hb TY.out.lt
  generalize grow (redrawn w2 dq) osq = w3 at *
  clear hb HV TX TY rkTX0 rkTX1 rkTX2 rkTX3 rkTX4 rkTX5 rkTY0 rkTY1 rkTY2 rkTY3 rkTY4 rkTY5 cN
  have HV := Lib.hid hv
  have TX := Lib.hid xTX
  have TY := Lib.hid xTY
  clear hv xTX xTY
  have lTX := TX.out.lt
  have kTX0 := TX.out.cell 0
  have kTX1 := TX.out.cell 1
  have kTX2 := TX.out.cell 2
  have kTX3 := TX.out.cell 3
  have kTX4 := TX.out.cell 4
  have kTX5 := TX.out.cell 5
  have lTY := TY.out.lt
  have kTY0 := TY.out.cell 0
  have kTY1 := TY.out.cell 1
  have kTY2 := TY.out.cell 2
  have kTY3 := TY.out.cell 3
  have kTY4 := TY.out.cell 4
  have kTY5 := TY.out.cell 5
  simp only [List.getElem?_toArray, List.getElem?_cons_zero, List.getElem?_cons_succ] at kTX0 kTX1 kTX2 kTX3 kTX4 kTX5 kTY0 kTY1 kTY2 kTY3 kTY4 kTY5
  go_wp2_with fail
  clear eC1 eC2 hst hEE2
  refine (HP1.out _).mono ?_
  rintro e w4 ⟨rfl, hb⟩
  clear lTX lTY kTX0 kTX1 kTX2 kTX3 kTX4 kTX5 kTY0 kTY1 kTY2 kTY3 kTY4 kTY5
  have hv := HV.out.trans (hb.mono HV.out.size)
  have xTX := TX.out.below hb TX.out.lt
  have xTY := TY.out.below hb TY.out.lt
  clear hb HV TX TY
  have HV := Lib.hid hv
  have TX := Lib.hid xTX
  have TY := Lib.hid xTY
  clear hv xTX xTY
  go_wp2_with fail
  have hv := HV.out
  have hv := hv.alloc hv.size (.cells #[.int .u32 a, .int .i64 pl] 41)
  have xTX := (TX.out).alloc (.cells #[.int .u32 a, .int .i64 pl] 41)
  have xTY := (TY.out).alloc (.cells #[.int .u32 a, .int .i64 pl] 41)
  have xTP : Blk (w4.alloc (.cells #[.int .u32 a, .int .i64 pl] 41)) (w4.heap.size) 41 #[.int .u32 a, .int .i64 pl] := by
    have := Blk.new w4 41 #[.int .u32 a, .int .i64 pl]
    simpa using this
  generalize hvv : (w4.alloc (.cells #[.int .u32 a, .int .i64 pl] 41)) = v2 at *
  clear hvv
  generalize w4.heap.size = gTP at *
  clear HV TX TY
  have HV := Lib.hid hv
  have TX := Lib.hid xTX
  have TY := Lib.hid xTY
  have TP := Lib.hid xTP
  clear hv xTX xTY xTP
  have kTX0 := TX.out.cell 0
  have kTX1 := TX.out.cell 1
  have kTX2 := TX.out.cell 2
  have kTX3 := TX.out.cell 3
  have kTX4 := TX.out.cell 4
  have kTX5 := TX.out.cell 5
  simp only [List.getElem?_toArray, List.getElem?_cons_zero, List.getElem?_cons_succ] at kTX0 kTX1 kTX2 kTX3 kTX4 kTX5
  have rkTX0 := cell_regrown kTX0
  have rkTX1 := cell_regrown kTX1
  have rkTX2 := cell_regrown kTX2
  have rkTX3 := cell_regrown kTX3
  have rkTX4 := cell_regrown kTX4
  have rkTX5 := cell_regrown kTX5
  have cN : ∀ (n : Int) d os, Calls Tryd.prog 11 #[.int .i64 n] (grow (redrawn v2 d) os) fun e w'' => e = .returned (.int .i64 n) ∧ ∃ p : Regrown, w'' = grow (redrawn v2 p.d) p.os := fun n d os => Calls.regrown_of ((num4_any n _).mono fun _ _ ⟨he, hw⟩ => ⟨he, by rw [← hw]; exact Below.refl _ _⟩)
  have cW : ∀ d os, Calls Tryd.prog 17 #[.agg #[.int .i64 2, .int .i64 t, .int .u32 a, .int .u32 m, .int .u32 0, .int .u32 k]] (grow (redrawn v2 d) os) fun e w'' => e = .returned (.int .i64 0) ∧ ∃ p : Regrown, w'' = grow (redrawn v2 p.d) p.os := fun d os => Calls.regrown_of (HW1.out _)
  clear kTX0 kTX1 kTX2 kTX3 kTX4 kTX5
  refine wp_region_quiet_below (by kernel_rfl) (by kernel_rfl) ?_
  try simp only [List.append_eq, List.cons_append, List.nil_append]
  repeat (go_big_quiet_step (first | (with_reducible exact cN _ _ _) | (with_reducible exact cW _ _)))
  refine wpQuiet_nil ?_
  intro wq hwq
  obtain ⟨⟨dq, osq⟩, rfl⟩ := hwq
  have hb := below_regrown v2 dq osq
  have hv := HV.out.trans (hb.mono HV.out.size)
  have xTX := TX.out.below hb TX.out.lt
  have xTY := TY.out.below hb TY.out.lt
  have xTP := TP.out.below hb TP.out.lt
  generalize grow (redrawn v2 dq) osq = w5 at *
  clear hb HV TX TY TP rkTX0 rkTX1 rkTX2 rkTX3 rkTX4 rkTX5 cN cW
  have HV := Lib.hid hv
  have TX := Lib.hid xTX
  have TY := Lib.hid xTY
  have TP := Lib.hid xTP
  clear hv xTX xTY xTP
  have lTX := TX.out.lt
  have kTX0 := TX.out.cell 0
  have kTX1 := TX.out.cell 1
  have kTX2 := TX.out.cell 2
  have kTX3 := TX.out.cell 3
  have kTX4 := TX.out.cell 4
  have kTX5 := TX.out.cell 5
  have lTY := TY.out.lt
  have kTY0 := TY.out.cell 0
  have kTY1 := TY.out.cell 1
  have kTY2 := TY.out.cell 2
  have kTY3 := TY.out.cell 3
  have kTY4 := TY.out.cell 4
  have kTY5 := TY.out.cell 5
  have lTP := TP.out.lt
  have kTP0 := TP.out.cell 0
  have kTP1 := TP.out.cell 1
  simp only [List.getElem?_toArray, List.getElem?_cons_zero, List.getElem?_cons_succ] at kTX0 kTX1 kTX2 kTX3 kTX4 kTX5 kTY0 kTY1 kTY2 kTY3 kTY4 kTY5 kTP0 kTP1
  go_wp2_with fail
  refine (num4_any _ _).mono ?_
  rintro e wn6 ⟨rfl, rfl⟩
  go_wp2_with fail
  refine (HO.out _).mono ?_
  rintro e w7 ⟨rfl, hb⟩
  clear lTX lTY lTP kTX0 kTX1 kTX2 kTX3 kTX4 kTX5 kTY0 kTY1 kTY2 kTY3 kTY4 kTY5 kTP0 kTP1
  have hv := HV.out.trans (hb.mono HV.out.size)
  have xTX := TX.out.below hb TX.out.lt
  have xTY := TY.out.below hb TY.out.lt
  have xTP := TP.out.below hb TP.out.lt
  clear hb HV TX TY TP
  have HV := Lib.hid hv
  have TX := Lib.hid xTX
  have TY := Lib.hid xTY
  have TP := Lib.hid xTP
  clear hv xTX xTY xTP
  have lTX := TX.out.lt
  have kTX0 := TX.out.cell 0
  have kTX1 := TX.out.cell 1
  have kTX2 := TX.out.cell 2
  have kTX3 := TX.out.cell 3
  have kTX4 := TX.out.cell 4
  have kTX5 := TX.out.cell 5
  have lTY := TY.out.lt
  have kTY0 := TY.out.cell 0
  have kTY1 := TY.out.cell 1
  have kTY2 := TY.out.cell 2
  have kTY3 := TY.out.cell 3
  have kTY4 := TY.out.cell 4
  have kTY5 := TY.out.cell 5
  simp only [List.getElem?_toArray, List.getElem?_cons_zero, List.getElem?_cons_succ] at kTX0 kTX1 kTX2 kTX3 kTX4 kTX5 kTY0 kTY1 kTY2 kTY3 kTY4 kTY5
  go_wp2_with fail
  clear lTX lTY kTX0 kTX1 kTX2 kTX3 kTX4 kTX5 kTY0 kTY1 kTY2 kTY3 kTY4 kTY5
  have hv := HV.out
  have hv := hv.alloc hv.size (.cells #[.int .i64 2, .int .i64 t, .int .u32 a, .int .u32 m, .int .u32 0, .int .u32 k] 25)
  have xTX := (TX.out).alloc (.cells #[.int .i64 2, .int .i64 t, .int .u32 a, .int .u32 m, .int .u32 0, .int .u32 k] 25)
  have xTY := (TY.out).alloc (.cells #[.int .i64 2, .int .i64 t, .int .u32 a, .int .u32 m, .int .u32 0, .int .u32 k] 25)
  have xTP := (TP.out).alloc (.cells #[.int .i64 2, .int .i64 t, .int .u32 a, .int .u32 m, .int .u32 0, .int .u32 k] 25)
  have xTZ : Blk (w7.alloc (.cells #[.int .i64 2, .int .i64 t, .int .u32 a, .int .u32 m, .int .u32 0, .int .u32 k] 25)) (w7.heap.size) 25 #[.int .i64 2, .int .i64 t, .int .u32 a, .int .u32 m, .int .u32 0, .int .u32 k] := by
    have := Blk.new w7 25 #[.int .i64 2, .int .i64 t, .int .u32 a, .int .u32 m, .int .u32 0, .int .u32 k]
    simpa using this
  generalize hvv : (w7.alloc (.cells #[.int .i64 2, .int .i64 t, .int .u32 a, .int .u32 m, .int .u32 0, .int .u32 k] 25)) = v3 at *
  clear hvv
  generalize w7.heap.size = gTZ at *
  clear HV TX TY TP
  have HV := Lib.hid hv
  have TX := Lib.hid xTX
  have TY := Lib.hid xTY
  have TP := Lib.hid xTP
  have TZ := Lib.hid xTZ
  clear hv xTX xTY xTP xTZ
  refine (HP2.out _).mono ?_
  rintro e w8 ⟨rfl, hb⟩
  have hv := HV.out.trans (hb.mono HV.out.size)
  have xTX := TX.out.below hb TX.out.lt
  have xTY := TY.out.below hb TY.out.lt
  have xTP := TP.out.below hb TP.out.lt
  have xTZ := TZ.out.below hb TZ.out.lt
  clear hb HV TX TY TP TZ
  have HV := Lib.hid hv
  have TX := Lib.hid xTX
  have TY := Lib.hid xTY
  have TP := Lib.hid xTP
  have TZ := Lib.hid xTZ
  clear hv xTX xTY xTP xTZ
  go_wp2_with fail
  have hv := HV.out
  have hv := hv.alloc hv.size (.cells #[.int .u32 a', .int .i64 ql] 41)
  have xTX := (TX.out).alloc (.cells #[.int .u32 a', .int .i64 ql] 41)
  have xTY := (TY.out).alloc (.cells #[.int .u32 a', .int .i64 ql] 41)
  have xTP := (TP.out).alloc (.cells #[.int .u32 a', .int .i64 ql] 41)
  have xTZ := (TZ.out).alloc (.cells #[.int .u32 a', .int .i64 ql] 41)
  have xTQ : Blk (w8.alloc (.cells #[.int .u32 a', .int .i64 ql] 41)) (w8.heap.size) 41 #[.int .u32 a', .int .i64 ql] := by
    have := Blk.new w8 41 #[.int .u32 a', .int .i64 ql]
    simpa using this
  generalize hvv : (w8.alloc (.cells #[.int .u32 a', .int .i64 ql] 41)) = v4 at *
  clear hvv
  generalize w8.heap.size = gTQ at *
  clear HV TX TY TP TZ
  have HV := Lib.hid hv
  have TX := Lib.hid xTX
  have TY := Lib.hid xTY
  have TP := Lib.hid xTP
  have TZ := Lib.hid xTZ
  have TQ := Lib.hid xTQ
  clear hv xTX xTY xTP xTZ xTQ
  have HFV := Lib.hid (HF.out.below HV.out)
  have kTX0 := TX.out.cell 0
  have kTX1 := TX.out.cell 1
  have kTX2 := TX.out.cell 2
  have kTX3 := TX.out.cell 3
  have kTX4 := TX.out.cell 4
  have kTX5 := TX.out.cell 5
  have kTY0 := TY.out.cell 0
  have kTY1 := TY.out.cell 1
  have kTY2 := TY.out.cell 2
  have kTY3 := TY.out.cell 3
  have kTY4 := TY.out.cell 4
  have kTY5 := TY.out.cell 5
  have kTP0 := TP.out.cell 0
  have kTP1 := TP.out.cell 1
  have kTZ0 := TZ.out.cell 0
  have kTZ1 := TZ.out.cell 1
  have kTZ2 := TZ.out.cell 2
  have kTZ3 := TZ.out.cell 3
  have kTZ4 := TZ.out.cell 4
  have kTZ5 := TZ.out.cell 5
  have kTQ0 := TQ.out.cell 0
  have kTQ1 := TQ.out.cell 1
  simp only [List.getElem?_toArray, List.getElem?_cons_zero, List.getElem?_cons_succ] at kTX0 kTX1 kTX2 kTX3 kTX4 kTX5 kTY0 kTY1 kTY2 kTY3 kTY4 kTY5 kTP0 kTP1 kTZ0 kTZ1 kTZ2 kTZ3 kTZ4 kTZ5 kTQ0 kTQ1
  have rkTX0 := cell_regrown kTX0
  have rkTX1 := cell_regrown kTX1
  have rkTX2 := cell_regrown kTX2
  have rkTX3 := cell_regrown kTX3
  have rkTX4 := cell_regrown kTX4
  have rkTX5 := cell_regrown kTX5
  have rkTY0 := cell_regrown kTY0
  have rkTY1 := cell_regrown kTY1
  have rkTY2 := cell_regrown kTY2
  have rkTY3 := cell_regrown kTY3
  have rkTY4 := cell_regrown kTY4
  have rkTY5 := cell_regrown kTY5
  have rkTP0 := cell_regrown kTP0
  have rkTP1 := cell_regrown kTP1
  have rkTZ0 := cell_regrown kTZ0
  have rkTZ1 := cell_regrown kTZ1
  have rkTZ2 := cell_regrown kTZ2
  have rkTZ3 := cell_regrown kTZ3
  have rkTZ4 := cell_regrown kTZ4
  have rkTZ5 := cell_regrown kTZ5
  have rkTQ0 := cell_regrown kTQ0
  have rkTQ1 := cell_regrown kTQ1
  have cN : ∀ (n : Int) d os, Calls Tryd.prog 11 #[.int .i64 n] (grow (redrawn v4 d) os) fun e w'' => e = .returned (.int .i64 n) ∧ ∃ p : Regrown, w'' = grow (redrawn v4 p.d) p.os := fun n d os => Calls.regrown_of ((num4_any n _).mono fun _ _ ⟨he, hw⟩ => ⟨he, by rw [← hw]; exact Below.refl _ _⟩)
  have cY : ∀ d os, Calls Tryd.prog 8 #[] (grow (redrawn v4 d) os) fun e w'' => e = .returned (.bool true) ∧ ∃ p : Regrown, w'' = grow (redrawn v4 p.d) p.os := fun d os => Calls.regrown_of (HY0.out _ (HFV.out.below (below_regrown v4 d os)))
  clear kTX0 kTX1 kTX2 kTX3 kTX4 kTX5 kTY0 kTY1 kTY2 kTY3 kTY4 kTY5 kTP0 kTP1 kTZ0 kTZ1 kTZ2 kTZ3 kTZ4 kTZ5 kTQ0 kTQ1
  refine wp_region_quiet_below (by kernel_rfl) (by kernel_rfl) ?_
  try simp only [List.append_eq, List.cons_append, List.nil_append]
  repeat (go_big_quiet_step (first | (with_reducible exact cN _ _ _) | (with_reducible exact cY _ _)))
  refine wpQuiet_nil ?_
  intro wq hwq
  obtain ⟨⟨dq, osq⟩, rfl⟩ := hwq
  have hb := below_regrown v4 dq osq
  have hv := HV.out.trans (hb.mono HV.out.size)
  have xTX := TX.out.below hb TX.out.lt
  have xTY := TY.out.below hb TY.out.lt
  have xTP := TP.out.below hb TP.out.lt
  have xTZ := TZ.out.below hb TZ.out.lt
  have xTQ := TQ.out.below hb TQ.out.lt
  generalize grow (redrawn v4 dq) osq = w9 at *
  clear hb HV TX TY TP TZ TQ rkTX0 rkTX1 rkTX2 rkTX3 rkTX4 rkTX5 rkTY0 rkTY1 rkTY2 rkTY3 rkTY4 rkTY5 rkTP0 rkTP1 rkTZ0 rkTZ1 rkTZ2 rkTZ3 rkTZ4 rkTZ5 rkTQ0 rkTQ1 cN cY
  have HV := Lib.hid hv
  have TX := Lib.hid xTX
  have TY := Lib.hid xTY
  have TP := Lib.hid xTP
  have TZ := Lib.hid xTZ
  have TQ := Lib.hid xTQ
  clear hv xTX xTY xTP xTZ xTQ
  go_wp2_with fail
  go_ret
  exact ⟨rfl, HV.out⟩

set_option maxRecDepth 100000 in
set_option maxHeartbeats 6400000 in
theorem law04_holds_n_b (f t a m n k f' t' a' m' n' k' : Int) (ho : (⟨f, t, a, m, n, k⟩ : Ent).Ok) (ho2 : (⟨f', t', a', m', n', k'⟩ : Ent).Ok) (hx : ¬ whyE ⟨f, t, a, m, n, k⟩ = 0) (hr : ¬ (rightE ⟨f, t, a, m, n, k⟩ ∧ rightE ⟨f', t', a', m', n', k'⟩)) (w : World) (hf : Fit3 w) :
    Calls Tryd.prog 7 #[.agg #[.int .i64 f, .int .i64 t, .int .u32 a, .int .u32 m, .int .u32 n, .int .u32 k], .agg #[.int .i64 f', .int .i64 t', .int .u32 a', .int .u32 m', .int .u32 n', .int .u32 k']] w fun e w' => e = .returned (.bool true) ∧ Below w.heap.size w w' := by
  have HF := Lib.hid hf
  have HY0 : Hid (∀ W, Fit3 W → Calls Tryd.prog 8 #[] W fun e w' => e = .returned (.bool true) ∧ Below W.heap.size W w') := yes4
  have HB1 := Lib.hid (fun W (hF : Fit3 W) => bytesE_c ⟨f, t, a, m, n, k⟩ ho W hF)
  have HB2 := Lib.hid (fun W (hF : Fit3 W) => bytesE_c ⟨f', t', a', m', n', k'⟩ ho2 W hF)
  have hEE := fun W => eqEnt_run ⟨f, t, a, m, n, k⟩ ⟨f', t', a', m', n', k'⟩ W
  have hEE2 : ∀ W, (binOp .eql 25 (.agg #[.int .i64 f, .int .i64 t, .int .u32 a, .int .u32 m, .int .u32 n, .int .u32 k]) (.agg #[.int .i64 f', .int .i64 t', .int .u32 a', .int .u32 m', .int .u32 n', .int .u32 k'])).run Tryd.prog W = .ok (.bool (decide ((⟨f, t, a, m, n, k⟩ : Ent) = ⟨f', t', a', m', n', k'⟩))) W := hEE
  have hP1 := fun W => prefix4_any ⟨f, t, a, m, n, k⟩ ho W
  have hW1 := fun W => why_any ⟨f, t, a, m, n, k⟩ ho W
  obtain ⟨d1, d2, d3⟩ := bad_is hx
  rw [d1, d2, d3] at hP1
  have hrb : (whyE ⟨f, t, a, m, n, k⟩ == 0) = false := by simpa using hx
  generalize whyE ⟨f, t, a, m, n, k⟩ = r at *
  have HP1 : Hid (∀ W, Calls Tryd.prog 15 #[.agg #[.int .i64 f, .int .i64 t, .int .u32 a, .int .u32 m, .int .u32 n, .int .u32 k]] W fun e w' => e = .returned (.tuple #[.agg #[.int .u32 0, .int .i64 0], .int .i64 140]) ∧ Below W.heap.size W w') := fun W => hP1 W
  have HW1 : Hid (∀ W, Calls Tryd.prog 17 #[.agg #[.int .i64 f, .int .i64 t, .int .u32 a, .int .u32 m, .int .u32 n, .int .u32 k]] W fun e w' => e = .returned (.int .i64 r) ∧ Below W.heap.size W w') := fun W => hW1 W
  clear d1 d2 d3
  generalize hbb : decide ((⟨f, t, a, m, n, k⟩ : Ent) = ⟨f', t', a', m', n', k'⟩) = bb at *
  have HRR := Lib.hid hr
  clear hf hEE hP1 hW1 hbb ho ho2 hx hr
  go_enter Tryd.func7, Tryd.ntmps7
  go_wp2_with fail
  have hv := Below.refl w.heap.size w
  have hv := hv.alloc hv.size (.cells #[.int .i64 f, .int .i64 t, .int .u32 a, .int .u32 m, .int .u32 n, .int .u32 k] 25)
  have hv := hv.alloc hv.size (.cells #[.int .i64 f', .int .i64 t', .int .u32 a', .int .u32 m', .int .u32 n', .int .u32 k'] 25)
  have xTX : Blk ((w.alloc (.cells #[.int .i64 f, .int .i64 t, .int .u32 a, .int .u32 m, .int .u32 n, .int .u32 k] 25)).alloc (.cells #[.int .i64 f', .int .i64 t', .int .u32 a', .int .u32 m', .int .u32 n', .int .u32 k'] 25)) (w.heap.size) 25 #[.int .i64 f, .int .i64 t, .int .u32 a, .int .u32 m, .int .u32 n, .int .u32 k] := by
    have := (Blk.new w 25 #[.int .i64 f, .int .i64 t, .int .u32 a, .int .u32 m, .int .u32 n, .int .u32 k]).alloc (.cells #[.int .i64 f', .int .i64 t', .int .u32 a', .int .u32 m', .int .u32 n', .int .u32 k'] 25)
    simpa using this
  have xTY : Blk ((w.alloc (.cells #[.int .i64 f, .int .i64 t, .int .u32 a, .int .u32 m, .int .u32 n, .int .u32 k] 25)).alloc (.cells #[.int .i64 f', .int .i64 t', .int .u32 a', .int .u32 m', .int .u32 n', .int .u32 k'] 25)) (w.heap.size + 1) 25 #[.int .i64 f', .int .i64 t', .int .u32 a', .int .u32 m', .int .u32 n', .int .u32 k'] := by
    have := Blk.new (w.alloc (.cells #[.int .i64 f, .int .i64 t, .int .u32 a, .int .u32 m, .int .u32 n, .int .u32 k] 25)) 25 #[.int .i64 f', .int .i64 t', .int .u32 a', .int .u32 m', .int .u32 n', .int .u32 k']
    simpa using this
  generalize hvv : ((w.alloc (.cells #[.int .i64 f, .int .i64 t, .int .u32 a, .int .u32 m, .int .u32 n, .int .u32 k] 25)).alloc (.cells #[.int .i64 f', .int .i64 t', .int .u32 a', .int .u32 m', .int .u32 n', .int .u32 k'] 25)) = v1 at *
  clear hvv
  have HV := Lib.hid hv
  have TX := Lib.hid xTX
  have TY := Lib.hid xTY
  clear hv xTX xTY
  refine (HB1.out _ (HF.out.below HV.out)).mono ?_
  rintro e w1 ⟨⟨p1, l1, c1, z1, rfl, hy1⟩, hb⟩
  have hv := HV.out.trans (hb.mono HV.out.size)
  have xTX := TX.out.below hb TX.out.lt
  have xTY := TY.out.below hb TY.out.lt
  clear hb HV TX TY
  have HV := Lib.hid hv
  have TX := Lib.hid xTX
  have TY := Lib.hid xTY
  clear hv xTX xTY
  have HY1 := Lib.hid hy1
  clear hy1
  have lTY := TY.out.lt
  have kTY0 := TY.out.cell 0
  have kTY1 := TY.out.cell 1
  have kTY2 := TY.out.cell 2
  have kTY3 := TY.out.cell 3
  have kTY4 := TY.out.cell 4
  have kTY5 := TY.out.cell 5
  simp only [List.getElem?_toArray, List.getElem?_cons_zero, List.getElem?_cons_succ] at kTY0 kTY1 kTY2 kTY3 kTY4 kTY5
  go_wp2_with fail
  refine (HB2.out _ (HF.out.below HV.out)).mono ?_
  rintro e w2 ⟨⟨p2, l2, c2, z2, rfl, hy2⟩, hb⟩
  clear lTY kTY0 kTY1 kTY2 kTY3 kTY4 kTY5
  have hv := HV.out.trans (hb.mono HV.out.size)
  have xTX := TX.out.below hb TX.out.lt
  have xTY := TY.out.below hb TY.out.lt
  have yHY1 := HY1.out.below hb
  clear hb HV TX TY
  have HV := Lib.hid hv
  have TX := Lib.hid xTX
  have TY := Lib.hid xTY
  clear hv xTX xTY
  clear HY1
  have HY1 := Lib.hid yHY1
  clear yHY1
  have HY2 := Lib.hid hy2
  clear hy2
  have HFW := Lib.hid (HF.out.below HV.out)
  have hz : z1 + z2 ≠ 0 ∧ IntKind.i64.wrap (z1 + z2) = z1 + z2 := by
    have a1 : z1 = 0 ∨ z1 = 2 := by
      by_cases h : rightE ⟨f, t, a, m, n, k⟩
      · exact .inl (HY1.out.ok h).1
      · exact .inr (HY1.out.no h)
    have a2 : z2 = 0 ∨ z2 = 2 := by
      by_cases h : rightE ⟨f', t', a', m', n', k'⟩
      · exact .inl (HY2.out.ok h).1
      · exact .inr (HY2.out.no h)
    have a3 : ¬ (z1 = 0 ∧ z2 = 0) := fun h => HRR.out ⟨Classical.byContradiction fun hn => by
      have := HY1.out.no hn
      omega, Classical.byContradiction fun hn => by
      have := HY2.out.no hn
      omega⟩
    exact ⟨by omega, by rw [IntKind.wrap_i64]; omega⟩
  obtain ⟨hz0, hzw⟩ := hz
  have hzb : (z1 + z2 == 0) = false := by simpa using hz0
  clear HY1 HY2 HRR hz0
  go_wp2_with fail
  have kTX0 := TX.out.cell 0
  have kTX1 := TX.out.cell 1
  have kTX2 := TX.out.cell 2
  have kTX3 := TX.out.cell 3
  have kTX4 := TX.out.cell 4
  have kTX5 := TX.out.cell 5
  have kTY0 := TY.out.cell 0
  have kTY1 := TY.out.cell 1
  have kTY2 := TY.out.cell 2
  have kTY3 := TY.out.cell 3
  have kTY4 := TY.out.cell 4
  have kTY5 := TY.out.cell 5
  simp only [List.getElem?_toArray, List.getElem?_cons_zero, List.getElem?_cons_succ] at kTX0 kTX1 kTX2 kTX3 kTX4 kTX5 kTY0 kTY1 kTY2 kTY3 kTY4 kTY5
  have rkTX0 := cell_regrown kTX0
  have rkTX1 := cell_regrown kTX1
  have rkTX2 := cell_regrown kTX2
  have rkTX3 := cell_regrown kTX3
  have rkTX4 := cell_regrown kTX4
  have rkTX5 := cell_regrown kTX5
  have rkTY0 := cell_regrown kTY0
  have rkTY1 := cell_regrown kTY1
  have rkTY2 := cell_regrown kTY2
  have rkTY3 := cell_regrown kTY3
  have rkTY4 := cell_regrown kTY4
  have rkTY5 := cell_regrown kTY5
  have cN : ∀ (n : Int) d os, Calls Tryd.prog 11 #[.int .i64 n] (grow (redrawn w2 d) os) fun e w'' => e = .returned (.int .i64 n) ∧ ∃ p : Regrown, w'' = grow (redrawn w2 p.d) p.os := fun n d os => Calls.regrown_of ((num4_any n _).mono fun _ _ ⟨he, hw⟩ => ⟨he, by rw [← hw]; exact Below.refl _ _⟩)
  clear kTX0 kTX1 kTX2 kTX3 kTX4 kTX5 kTY0 kTY1 kTY2 kTY3 kTY4 kTY5
  refine wp_region_quiet_below (by kernel_rfl) (by kernel_rfl) ?_
  try simp only [List.append_eq, List.cons_append, List.nil_append]
  repeat (go_big_quiet_step (first | (with_reducible exact cN _ _ _)))
  refine wpQuiet_nil ?_
  intro wq hwq
  obtain ⟨⟨dq, osq⟩, rfl⟩ := hwq
  have hb := below_regrown w2 dq osq
  have hv := HV.out.trans (hb.mono HV.out.size)
  have xTX := TX.out.below hb TX.out.lt
  have xTY := TY.out.below hb TY.out.lt
  generalize grow (redrawn w2 dq) osq = w3 at *
  clear hb HV TX TY rkTX0 rkTX1 rkTX2 rkTX3 rkTX4 rkTX5 rkTY0 rkTY1 rkTY2 rkTY3 rkTY4 rkTY5 cN
  have HV := Lib.hid hv
  have TX := Lib.hid xTX
  have TY := Lib.hid xTY
  clear hv xTX xTY
  have lTX := TX.out.lt
  have kTX0 := TX.out.cell 0
  have kTX1 := TX.out.cell 1
  have kTX2 := TX.out.cell 2
  have kTX3 := TX.out.cell 3
  have kTX4 := TX.out.cell 4
  have kTX5 := TX.out.cell 5
  have lTY := TY.out.lt
  have kTY0 := TY.out.cell 0
  have kTY1 := TY.out.cell 1
  have kTY2 := TY.out.cell 2
  have kTY3 := TY.out.cell 3
  have kTY4 := TY.out.cell 4
  have kTY5 := TY.out.cell 5
  simp only [List.getElem?_toArray, List.getElem?_cons_zero, List.getElem?_cons_succ] at kTX0 kTX1 kTX2 kTX3 kTX4 kTX5 kTY0 kTY1 kTY2 kTY3 kTY4 kTY5
  go_wp2_with fail
  clear hzb hzw hEE2
  refine (HP1.out _).mono ?_
  rintro e w4 ⟨rfl, hb⟩
  clear lTX lTY kTX0 kTX1 kTX2 kTX3 kTX4 kTX5 kTY0 kTY1 kTY2 kTY3 kTY4 kTY5
  have hv := HV.out.trans (hb.mono HV.out.size)
  have xTX := TX.out.below hb TX.out.lt
  have xTY := TY.out.below hb TY.out.lt
  clear hb HV TX TY
  have HV := Lib.hid hv
  have TX := Lib.hid xTX
  have TY := Lib.hid xTY
  clear hv xTX xTY
  go_wp2_with fail
  have hv := HV.out
  have hv := hv.alloc hv.size (.cells #[.int .u32 0, .int .i64 0] 41)
  have xTX := (TX.out).alloc (.cells #[.int .u32 0, .int .i64 0] 41)
  have xTY := (TY.out).alloc (.cells #[.int .u32 0, .int .i64 0] 41)
  have xTP : Blk (w4.alloc (.cells #[.int .u32 0, .int .i64 0] 41)) (w4.heap.size) 41 #[.int .u32 0, .int .i64 0] := by
    have := Blk.new w4 41 #[.int .u32 0, .int .i64 0]
    simpa using this
  generalize hvv : (w4.alloc (.cells #[.int .u32 0, .int .i64 0] 41)) = v2 at *
  clear hvv
  generalize w4.heap.size = gTP at *
  clear HV TX TY
  have HV := Lib.hid hv
  have TX := Lib.hid xTX
  have TY := Lib.hid xTY
  have TP := Lib.hid xTP
  clear hv xTX xTY xTP
  have kTX0 := TX.out.cell 0
  have kTX1 := TX.out.cell 1
  have kTX2 := TX.out.cell 2
  have kTX3 := TX.out.cell 3
  have kTX4 := TX.out.cell 4
  have kTX5 := TX.out.cell 5
  simp only [List.getElem?_toArray, List.getElem?_cons_zero, List.getElem?_cons_succ] at kTX0 kTX1 kTX2 kTX3 kTX4 kTX5
  have rkTX0 := cell_regrown kTX0
  have rkTX1 := cell_regrown kTX1
  have rkTX2 := cell_regrown kTX2
  have rkTX3 := cell_regrown kTX3
  have rkTX4 := cell_regrown kTX4
  have rkTX5 := cell_regrown kTX5
  have cN : ∀ (n : Int) d os, Calls Tryd.prog 11 #[.int .i64 n] (grow (redrawn v2 d) os) fun e w'' => e = .returned (.int .i64 n) ∧ ∃ p : Regrown, w'' = grow (redrawn v2 p.d) p.os := fun n d os => Calls.regrown_of ((num4_any n _).mono fun _ _ ⟨he, hw⟩ => ⟨he, by rw [← hw]; exact Below.refl _ _⟩)
  have cW : ∀ d os, Calls Tryd.prog 17 #[.agg #[.int .i64 f, .int .i64 t, .int .u32 a, .int .u32 m, .int .u32 n, .int .u32 k]] (grow (redrawn v2 d) os) fun e w'' => e = .returned (.int .i64 r) ∧ ∃ p : Regrown, w'' = grow (redrawn v2 p.d) p.os := fun d os => Calls.regrown_of (HW1.out _)
  clear kTX0 kTX1 kTX2 kTX3 kTX4 kTX5
  refine wp_region_quiet_below (by kernel_rfl) (by kernel_rfl) ?_
  try simp only [List.append_eq, List.cons_append, List.nil_append]
  repeat (go_big_quiet_step (first | (with_reducible exact cN _ _ _) | (with_reducible exact cW _ _)))
  refine wpQuiet_nil ?_
  intro wq hwq
  obtain ⟨⟨dq, osq⟩, rfl⟩ := hwq
  have hb := below_regrown v2 dq osq
  have hv := HV.out.trans (hb.mono HV.out.size)
  have xTX := TX.out.below hb TX.out.lt
  have xTY := TY.out.below hb TY.out.lt
  have xTP := TP.out.below hb TP.out.lt
  generalize grow (redrawn v2 dq) osq = w5 at *
  clear hb HV TX TY TP rkTX0 rkTX1 rkTX2 rkTX3 rkTX4 rkTX5 cN cW
  have HV := Lib.hid hv
  have TX := Lib.hid xTX
  have TY := Lib.hid xTY
  have TP := Lib.hid xTP
  clear hv xTX xTY xTP
  have lTX := TX.out.lt
  have kTX0 := TX.out.cell 0
  have kTX1 := TX.out.cell 1
  have kTX2 := TX.out.cell 2
  have kTX3 := TX.out.cell 3
  have kTX4 := TX.out.cell 4
  have kTX5 := TX.out.cell 5
  have lTY := TY.out.lt
  have kTY0 := TY.out.cell 0
  have kTY1 := TY.out.cell 1
  have kTY2 := TY.out.cell 2
  have kTY3 := TY.out.cell 3
  have kTY4 := TY.out.cell 4
  have kTY5 := TY.out.cell 5
  have lTP := TP.out.lt
  have kTP0 := TP.out.cell 0
  have kTP1 := TP.out.cell 1
  simp only [List.getElem?_toArray, List.getElem?_cons_zero, List.getElem?_cons_succ] at kTX0 kTX1 kTX2 kTX3 kTX4 kTX5 kTY0 kTY1 kTY2 kTY3 kTY4 kTY5 kTP0 kTP1
  go_wp2_with fail
  refine (num4_any _ _).mono ?_
  rintro e wn6 ⟨rfl, rfl⟩
  go_wp2_with fail
  refine (HY0.out _ (HF.out.below HV.out)).mono ?_
  rintro e w7 ⟨rfl, hb⟩
  clear lTX lTY lTP kTX0 kTX1 kTX2 kTX3 kTX4 kTX5 kTY0 kTY1 kTY2 kTY3 kTY4 kTY5 kTP0 kTP1
  have hv := HV.out.trans (hb.mono HV.out.size)
  have xTX := TX.out.below hb TX.out.lt
  have xTY := TY.out.below hb TY.out.lt
  have xTP := TP.out.below hb TP.out.lt
  clear hb HV TX TY TP
  have HV := Lib.hid hv
  have TX := Lib.hid xTX
  have TY := Lib.hid xTY
  have TP := Lib.hid xTP
  clear hv xTX xTY xTP
  go_wp2_with fail
  go_ret
  exact ⟨rfl, HV.out⟩

set_option maxRecDepth 100000 in
set_option maxHeartbeats 6400000 in
theorem law04_holds_n_gbad (t a m k f' t' a' m' n' k' : Int) (ho : (⟨2, t, a, m, 0, k⟩ : Ent).Ok) (ho2 : (⟨f', t', a', m', n', k'⟩ : Ent).Ok) (hx : whyE ⟨2, t, a, m, 0, k⟩ = 0) (hy : ¬ whyE ⟨f', t', a', m', n', k'⟩ = 0) (hr : ¬ (rightE ⟨2, t, a, m, 0, k⟩ ∧ rightE ⟨f', t', a', m', n', k'⟩)) (w : World) (hf : Fit3 w) :
    Calls Tryd.prog 7 #[.agg #[.int .i64 2, .int .i64 t, .int .u32 a, .int .u32 m, .int .u32 0, .int .u32 k], .agg #[.int .i64 f', .int .i64 t', .int .u32 a', .int .u32 m', .int .u32 n', .int .u32 k']] w fun e w' => e = .returned (.bool true) ∧ Below w.heap.size w w' := by
  have HF := Lib.hid hf
  have HY0 : Hid (∀ W, Fit3 W → Calls Tryd.prog 8 #[] W fun e w' => e = .returned (.bool true) ∧ Below W.heap.size W w') := yes4
  have HB1 := Lib.hid (fun W (hF : Fit3 W) => bytesE_c ⟨2, t, a, m, 0, k⟩ ho W hF)
  have HB2 := Lib.hid (fun W (hF : Fit3 W) => bytesE_c ⟨f', t', a', m', n', k'⟩ ho2 W hF)
  have hEE := fun W => eqEnt_run ⟨2, t, a, m, 0, k⟩ ⟨f', t', a', m', n', k'⟩ W
  have hEE2 : ∀ W, (binOp .eql 25 (.agg #[.int .i64 2, .int .i64 t, .int .u32 a, .int .u32 m, .int .u32 0, .int .u32 k]) (.agg #[.int .i64 f', .int .i64 t', .int .u32 a', .int .u32 m', .int .u32 n', .int .u32 k'])).run Tryd.prog W = .ok (.bool (decide ((⟨2, t, a, m, 0, k⟩ : Ent) = ⟨f', t', a', m', n', k'⟩))) W := hEE
  have hP1 := fun W => prefix4_any ⟨2, t, a, m, 0, k⟩ ho W
  have hW1 := fun W => why_any ⟨2, t, a, m, 0, k⟩ ho W
  obtain ⟨-, -, g1, g2, k1, k2, g3, g4⟩ := good_is hx
  dsimp only at g1 g3 g4 k1 k2
  have hO := fun W => of4_any (preA ⟨2, t, a, m, 0, k⟩) (preL ⟨2, t, a, m, 0, k⟩) k (by rw [g1]; exact ho.a0) (by rw [g1]; exact ho.a1) W
  rw [g3, g4] at hO
  rw [g1] at hO
  rw [g1, g2] at hP1
  rw [hx] at hW1
  obtain ⟨pl, hpl⟩ : ∃ pl, preL ⟨2, t, a, m, 0, k⟩ = pl := ⟨_, rfl⟩
  rw [hpl] at hO hP1
  have HO : Hid (∀ W, Calls Tryd.prog 20 #[.agg #[.int .u32 a, .int .i64 pl], .int .i64 k] W fun e w' => e = .returned (.tuple #[.agg #[.int .i64 2, .int .i64 0, .int .u32 a, .int .u32 m, .int .u32 0, .int .u32 k], .int .i64 0]) ∧ Below W.heap.size W w') := fun W => hO W
  have HP1 : Hid (∀ W, Calls Tryd.prog 15 #[.agg #[.int .i64 2, .int .i64 t, .int .u32 a, .int .u32 m, .int .u32 0, .int .u32 k]] W fun e w' => e = .returned (.tuple #[.agg #[.int .u32 a, .int .i64 pl], .int .i64 0]) ∧ Below W.heap.size W w') := fun W => hP1 W
  have HW1 : Hid (∀ W, Calls Tryd.prog 17 #[.agg #[.int .i64 2, .int .i64 t, .int .u32 a, .int .u32 m, .int .u32 0, .int .u32 k]] W fun e w' => e = .returned (.int .i64 0) ∧ Below W.heap.size W w') := fun W => hW1 W
  have hP2 := fun W => prefix4_any ⟨f', t', a', m', n', k'⟩ ho2 W
  obtain ⟨d1, d2, d3⟩ := bad_is hy
  rw [d1, d2, d3] at hP2
  have HP2 : Hid (∀ W, Calls Tryd.prog 15 #[.agg #[.int .i64 f', .int .i64 t', .int .u32 a', .int .u32 m', .int .u32 n', .int .u32 k']] W fun e w' => e = .returned (.tuple #[.agg #[.int .u32 0, .int .i64 0], .int .i64 140]) ∧ Below W.heap.size W w') := fun W => hP2 W
  clear hO hP2 g1 g2 g3 g4 d1 d2 hpl d3
  generalize hbb : decide ((⟨2, t, a, m, 0, k⟩ : Ent) = ⟨f', t', a', m', n', k'⟩) = bb at *
  have HRR := Lib.hid hr
  clear hf hEE hP1 hW1 hbb ho ho2 hx hr hy
  go_enter Tryd.func7, Tryd.ntmps7
  go_wp2_with fail
  have hv := Below.refl w.heap.size w
  have hv := hv.alloc hv.size (.cells #[.int .i64 2, .int .i64 t, .int .u32 a, .int .u32 m, .int .u32 0, .int .u32 k] 25)
  have hv := hv.alloc hv.size (.cells #[.int .i64 f', .int .i64 t', .int .u32 a', .int .u32 m', .int .u32 n', .int .u32 k'] 25)
  have xTX : Blk ((w.alloc (.cells #[.int .i64 2, .int .i64 t, .int .u32 a, .int .u32 m, .int .u32 0, .int .u32 k] 25)).alloc (.cells #[.int .i64 f', .int .i64 t', .int .u32 a', .int .u32 m', .int .u32 n', .int .u32 k'] 25)) (w.heap.size) 25 #[.int .i64 2, .int .i64 t, .int .u32 a, .int .u32 m, .int .u32 0, .int .u32 k] := by
    have := (Blk.new w 25 #[.int .i64 2, .int .i64 t, .int .u32 a, .int .u32 m, .int .u32 0, .int .u32 k]).alloc (.cells #[.int .i64 f', .int .i64 t', .int .u32 a', .int .u32 m', .int .u32 n', .int .u32 k'] 25)
    simpa using this
  have xTY : Blk ((w.alloc (.cells #[.int .i64 2, .int .i64 t, .int .u32 a, .int .u32 m, .int .u32 0, .int .u32 k] 25)).alloc (.cells #[.int .i64 f', .int .i64 t', .int .u32 a', .int .u32 m', .int .u32 n', .int .u32 k'] 25)) (w.heap.size + 1) 25 #[.int .i64 f', .int .i64 t', .int .u32 a', .int .u32 m', .int .u32 n', .int .u32 k'] := by
    have := Blk.new (w.alloc (.cells #[.int .i64 2, .int .i64 t, .int .u32 a, .int .u32 m, .int .u32 0, .int .u32 k] 25)) 25 #[.int .i64 f', .int .i64 t', .int .u32 a', .int .u32 m', .int .u32 n', .int .u32 k']
    simpa using this
  generalize hvv : ((w.alloc (.cells #[.int .i64 2, .int .i64 t, .int .u32 a, .int .u32 m, .int .u32 0, .int .u32 k] 25)).alloc (.cells #[.int .i64 f', .int .i64 t', .int .u32 a', .int .u32 m', .int .u32 n', .int .u32 k'] 25)) = v1 at *
  clear hvv
  have HV := Lib.hid hv
  have TX := Lib.hid xTX
  have TY := Lib.hid xTY
  clear hv xTX xTY
  refine (HB1.out _ (HF.out.below HV.out)).mono ?_
  rintro e w1 ⟨⟨p1, l1, c1, z1, rfl, hy1⟩, hb⟩
  have hv := HV.out.trans (hb.mono HV.out.size)
  have xTX := TX.out.below hb TX.out.lt
  have xTY := TY.out.below hb TY.out.lt
  clear hb HV TX TY
  have HV := Lib.hid hv
  have TX := Lib.hid xTX
  have TY := Lib.hid xTY
  clear hv xTX xTY
  have HY1 := Lib.hid hy1
  clear hy1
  have lTY := TY.out.lt
  have kTY0 := TY.out.cell 0
  have kTY1 := TY.out.cell 1
  have kTY2 := TY.out.cell 2
  have kTY3 := TY.out.cell 3
  have kTY4 := TY.out.cell 4
  have kTY5 := TY.out.cell 5
  simp only [List.getElem?_toArray, List.getElem?_cons_zero, List.getElem?_cons_succ] at kTY0 kTY1 kTY2 kTY3 kTY4 kTY5
  go_wp2_with fail
  refine (HB2.out _ (HF.out.below HV.out)).mono ?_
  rintro e w2 ⟨⟨p2, l2, c2, z2, rfl, hy2⟩, hb⟩
  clear lTY kTY0 kTY1 kTY2 kTY3 kTY4 kTY5
  have hv := HV.out.trans (hb.mono HV.out.size)
  have xTX := TX.out.below hb TX.out.lt
  have xTY := TY.out.below hb TY.out.lt
  have yHY1 := HY1.out.below hb
  clear hb HV TX TY
  have HV := Lib.hid hv
  have TX := Lib.hid xTX
  have TY := Lib.hid xTY
  clear hv xTX xTY
  clear HY1
  have HY1 := Lib.hid yHY1
  clear yHY1
  have HY2 := Lib.hid hy2
  clear hy2
  have HFW := Lib.hid (HF.out.below HV.out)
  have hz : z1 + z2 ≠ 0 ∧ IntKind.i64.wrap (z1 + z2) = z1 + z2 := by
    have a1 : z1 = 0 ∨ z1 = 2 := by
      by_cases h : rightE ⟨2, t, a, m, 0, k⟩
      · exact .inl (HY1.out.ok h).1
      · exact .inr (HY1.out.no h)
    have a2 : z2 = 0 ∨ z2 = 2 := by
      by_cases h : rightE ⟨f', t', a', m', n', k'⟩
      · exact .inl (HY2.out.ok h).1
      · exact .inr (HY2.out.no h)
    have a3 : ¬ (z1 = 0 ∧ z2 = 0) := fun h => HRR.out ⟨Classical.byContradiction fun hn => by
      have := HY1.out.no hn
      omega, Classical.byContradiction fun hn => by
      have := HY2.out.no hn
      omega⟩
    exact ⟨by omega, by rw [IntKind.wrap_i64]; omega⟩
  obtain ⟨hz0, hzw⟩ := hz
  have hzb : (z1 + z2 == 0) = false := by simpa using hz0
  clear HY1 HY2 HRR hz0
  go_wp2_with fail
  have kTX0 := TX.out.cell 0
  have kTX1 := TX.out.cell 1
  have kTX2 := TX.out.cell 2
  have kTX3 := TX.out.cell 3
  have kTX4 := TX.out.cell 4
  have kTX5 := TX.out.cell 5
  have kTY0 := TY.out.cell 0
  have kTY1 := TY.out.cell 1
  have kTY2 := TY.out.cell 2
  have kTY3 := TY.out.cell 3
  have kTY4 := TY.out.cell 4
  have kTY5 := TY.out.cell 5
  simp only [List.getElem?_toArray, List.getElem?_cons_zero, List.getElem?_cons_succ] at kTX0 kTX1 kTX2 kTX3 kTX4 kTX5 kTY0 kTY1 kTY2 kTY3 kTY4 kTY5
  have rkTX0 := cell_regrown kTX0
  have rkTX1 := cell_regrown kTX1
  have rkTX2 := cell_regrown kTX2
  have rkTX3 := cell_regrown kTX3
  have rkTX4 := cell_regrown kTX4
  have rkTX5 := cell_regrown kTX5
  have rkTY0 := cell_regrown kTY0
  have rkTY1 := cell_regrown kTY1
  have rkTY2 := cell_regrown kTY2
  have rkTY3 := cell_regrown kTY3
  have rkTY4 := cell_regrown kTY4
  have rkTY5 := cell_regrown kTY5
  have cN : ∀ (n : Int) d os, Calls Tryd.prog 11 #[.int .i64 n] (grow (redrawn w2 d) os) fun e w'' => e = .returned (.int .i64 n) ∧ ∃ p : Regrown, w'' = grow (redrawn w2 p.d) p.os := fun n d os => Calls.regrown_of ((num4_any n _).mono fun _ _ ⟨he, hw⟩ => ⟨he, by rw [← hw]; exact Below.refl _ _⟩)
  clear kTX0 kTX1 kTX2 kTX3 kTX4 kTX5 kTY0 kTY1 kTY2 kTY3 kTY4 kTY5
  refine wp_region_quiet_below (by kernel_rfl) (by kernel_rfl) ?_
  try simp only [List.append_eq, List.cons_append, List.nil_append]
  repeat (go_big_quiet_step (first | (with_reducible exact cN _ _ _)))
  refine wpQuiet_nil ?_
  intro wq hwq
  obtain ⟨⟨dq, osq⟩, rfl⟩ := hwq
  have hb := below_regrown w2 dq osq
  have hv := HV.out.trans (hb.mono HV.out.size)
  have xTX := TX.out.below hb TX.out.lt
  have xTY := TY.out.below hb TY.out.lt
  generalize grow (redrawn w2 dq) osq = w3 at *
  clear hb HV TX TY rkTX0 rkTX1 rkTX2 rkTX3 rkTX4 rkTX5 rkTY0 rkTY1 rkTY2 rkTY3 rkTY4 rkTY5 cN
  have HV := Lib.hid hv
  have TX := Lib.hid xTX
  have TY := Lib.hid xTY
  clear hv xTX xTY
  have lTX := TX.out.lt
  have kTX0 := TX.out.cell 0
  have kTX1 := TX.out.cell 1
  have kTX2 := TX.out.cell 2
  have kTX3 := TX.out.cell 3
  have kTX4 := TX.out.cell 4
  have kTX5 := TX.out.cell 5
  have lTY := TY.out.lt
  have kTY0 := TY.out.cell 0
  have kTY1 := TY.out.cell 1
  have kTY2 := TY.out.cell 2
  have kTY3 := TY.out.cell 3
  have kTY4 := TY.out.cell 4
  have kTY5 := TY.out.cell 5
  simp only [List.getElem?_toArray, List.getElem?_cons_zero, List.getElem?_cons_succ] at kTX0 kTX1 kTX2 kTX3 kTX4 kTX5 kTY0 kTY1 kTY2 kTY3 kTY4 kTY5
  go_wp2_with fail
  clear hzb hzw hEE2
  refine (HP1.out _).mono ?_
  rintro e w4 ⟨rfl, hb⟩
  clear lTX lTY kTX0 kTX1 kTX2 kTX3 kTX4 kTX5 kTY0 kTY1 kTY2 kTY3 kTY4 kTY5
  have hv := HV.out.trans (hb.mono HV.out.size)
  have xTX := TX.out.below hb TX.out.lt
  have xTY := TY.out.below hb TY.out.lt
  clear hb HV TX TY
  have HV := Lib.hid hv
  have TX := Lib.hid xTX
  have TY := Lib.hid xTY
  clear hv xTX xTY
  go_wp2_with fail
  have hv := HV.out
  have hv := hv.alloc hv.size (.cells #[.int .u32 a, .int .i64 pl] 41)
  have xTX := (TX.out).alloc (.cells #[.int .u32 a, .int .i64 pl] 41)
  have xTY := (TY.out).alloc (.cells #[.int .u32 a, .int .i64 pl] 41)
  have xTP : Blk (w4.alloc (.cells #[.int .u32 a, .int .i64 pl] 41)) (w4.heap.size) 41 #[.int .u32 a, .int .i64 pl] := by
    have := Blk.new w4 41 #[.int .u32 a, .int .i64 pl]
    simpa using this
  generalize hvv : (w4.alloc (.cells #[.int .u32 a, .int .i64 pl] 41)) = v2 at *
  clear hvv
  generalize w4.heap.size = gTP at *
  clear HV TX TY
  have HV := Lib.hid hv
  have TX := Lib.hid xTX
  have TY := Lib.hid xTY
  have TP := Lib.hid xTP
  clear hv xTX xTY xTP
  have kTX0 := TX.out.cell 0
  have kTX1 := TX.out.cell 1
  have kTX2 := TX.out.cell 2
  have kTX3 := TX.out.cell 3
  have kTX4 := TX.out.cell 4
  have kTX5 := TX.out.cell 5
  simp only [List.getElem?_toArray, List.getElem?_cons_zero, List.getElem?_cons_succ] at kTX0 kTX1 kTX2 kTX3 kTX4 kTX5
  have rkTX0 := cell_regrown kTX0
  have rkTX1 := cell_regrown kTX1
  have rkTX2 := cell_regrown kTX2
  have rkTX3 := cell_regrown kTX3
  have rkTX4 := cell_regrown kTX4
  have rkTX5 := cell_regrown kTX5
  have cN : ∀ (n : Int) d os, Calls Tryd.prog 11 #[.int .i64 n] (grow (redrawn v2 d) os) fun e w'' => e = .returned (.int .i64 n) ∧ ∃ p : Regrown, w'' = grow (redrawn v2 p.d) p.os := fun n d os => Calls.regrown_of ((num4_any n _).mono fun _ _ ⟨he, hw⟩ => ⟨he, by rw [← hw]; exact Below.refl _ _⟩)
  have cW : ∀ d os, Calls Tryd.prog 17 #[.agg #[.int .i64 2, .int .i64 t, .int .u32 a, .int .u32 m, .int .u32 0, .int .u32 k]] (grow (redrawn v2 d) os) fun e w'' => e = .returned (.int .i64 0) ∧ ∃ p : Regrown, w'' = grow (redrawn v2 p.d) p.os := fun d os => Calls.regrown_of (HW1.out _)
  clear kTX0 kTX1 kTX2 kTX3 kTX4 kTX5
  refine wp_region_quiet_below (by kernel_rfl) (by kernel_rfl) ?_
  try simp only [List.append_eq, List.cons_append, List.nil_append]
  repeat (go_big_quiet_step (first | (with_reducible exact cN _ _ _) | (with_reducible exact cW _ _)))
  refine wpQuiet_nil ?_
  intro wq hwq
  obtain ⟨⟨dq, osq⟩, rfl⟩ := hwq
  have hb := below_regrown v2 dq osq
  have hv := HV.out.trans (hb.mono HV.out.size)
  have xTX := TX.out.below hb TX.out.lt
  have xTY := TY.out.below hb TY.out.lt
  have xTP := TP.out.below hb TP.out.lt
  generalize grow (redrawn v2 dq) osq = w5 at *
  clear hb HV TX TY TP rkTX0 rkTX1 rkTX2 rkTX3 rkTX4 rkTX5 cN cW
  have HV := Lib.hid hv
  have TX := Lib.hid xTX
  have TY := Lib.hid xTY
  have TP := Lib.hid xTP
  clear hv xTX xTY xTP
  have lTX := TX.out.lt
  have kTX0 := TX.out.cell 0
  have kTX1 := TX.out.cell 1
  have kTX2 := TX.out.cell 2
  have kTX3 := TX.out.cell 3
  have kTX4 := TX.out.cell 4
  have kTX5 := TX.out.cell 5
  have lTY := TY.out.lt
  have kTY0 := TY.out.cell 0
  have kTY1 := TY.out.cell 1
  have kTY2 := TY.out.cell 2
  have kTY3 := TY.out.cell 3
  have kTY4 := TY.out.cell 4
  have kTY5 := TY.out.cell 5
  have lTP := TP.out.lt
  have kTP0 := TP.out.cell 0
  have kTP1 := TP.out.cell 1
  simp only [List.getElem?_toArray, List.getElem?_cons_zero, List.getElem?_cons_succ] at kTX0 kTX1 kTX2 kTX3 kTX4 kTX5 kTY0 kTY1 kTY2 kTY3 kTY4 kTY5 kTP0 kTP1
  go_wp2_with fail
  refine (num4_any _ _).mono ?_
  rintro e wn6 ⟨rfl, rfl⟩
  go_wp2_with fail
  refine (HO.out _).mono ?_
  rintro e w7 ⟨rfl, hb⟩
  clear lTX lTY lTP kTX0 kTX1 kTX2 kTX3 kTX4 kTX5 kTY0 kTY1 kTY2 kTY3 kTY4 kTY5 kTP0 kTP1
  have hv := HV.out.trans (hb.mono HV.out.size)
  have xTX := TX.out.below hb TX.out.lt
  have xTY := TY.out.below hb TY.out.lt
  have xTP := TP.out.below hb TP.out.lt
  clear hb HV TX TY TP
  have HV := Lib.hid hv
  have TX := Lib.hid xTX
  have TY := Lib.hid xTY
  have TP := Lib.hid xTP
  clear hv xTX xTY xTP
  have lTX := TX.out.lt
  have kTX0 := TX.out.cell 0
  have kTX1 := TX.out.cell 1
  have kTX2 := TX.out.cell 2
  have kTX3 := TX.out.cell 3
  have kTX4 := TX.out.cell 4
  have kTX5 := TX.out.cell 5
  have lTY := TY.out.lt
  have kTY0 := TY.out.cell 0
  have kTY1 := TY.out.cell 1
  have kTY2 := TY.out.cell 2
  have kTY3 := TY.out.cell 3
  have kTY4 := TY.out.cell 4
  have kTY5 := TY.out.cell 5
  simp only [List.getElem?_toArray, List.getElem?_cons_zero, List.getElem?_cons_succ] at kTX0 kTX1 kTX2 kTX3 kTX4 kTX5 kTY0 kTY1 kTY2 kTY3 kTY4 kTY5
  go_wp2_with fail
  clear lTX lTY kTX0 kTX1 kTX2 kTX3 kTX4 kTX5 kTY0 kTY1 kTY2 kTY3 kTY4 kTY5
  have hv := HV.out
  have hv := hv.alloc hv.size (.cells #[.int .i64 2, .int .i64 t, .int .u32 a, .int .u32 m, .int .u32 0, .int .u32 k] 25)
  have xTX := (TX.out).alloc (.cells #[.int .i64 2, .int .i64 t, .int .u32 a, .int .u32 m, .int .u32 0, .int .u32 k] 25)
  have xTY := (TY.out).alloc (.cells #[.int .i64 2, .int .i64 t, .int .u32 a, .int .u32 m, .int .u32 0, .int .u32 k] 25)
  have xTP := (TP.out).alloc (.cells #[.int .i64 2, .int .i64 t, .int .u32 a, .int .u32 m, .int .u32 0, .int .u32 k] 25)
  have xTZ : Blk (w7.alloc (.cells #[.int .i64 2, .int .i64 t, .int .u32 a, .int .u32 m, .int .u32 0, .int .u32 k] 25)) (w7.heap.size) 25 #[.int .i64 2, .int .i64 t, .int .u32 a, .int .u32 m, .int .u32 0, .int .u32 k] := by
    have := Blk.new w7 25 #[.int .i64 2, .int .i64 t, .int .u32 a, .int .u32 m, .int .u32 0, .int .u32 k]
    simpa using this
  generalize hvv : (w7.alloc (.cells #[.int .i64 2, .int .i64 t, .int .u32 a, .int .u32 m, .int .u32 0, .int .u32 k] 25)) = v3 at *
  clear hvv
  generalize w7.heap.size = gTZ at *
  clear HV TX TY TP
  have HV := Lib.hid hv
  have TX := Lib.hid xTX
  have TY := Lib.hid xTY
  have TP := Lib.hid xTP
  have TZ := Lib.hid xTZ
  clear hv xTX xTY xTP xTZ
  refine (HP2.out _).mono ?_
  rintro e w8 ⟨rfl, hb⟩
  have hv := HV.out.trans (hb.mono HV.out.size)
  have xTX := TX.out.below hb TX.out.lt
  have xTY := TY.out.below hb TY.out.lt
  have xTP := TP.out.below hb TP.out.lt
  have xTZ := TZ.out.below hb TZ.out.lt
  clear hb HV TX TY TP TZ
  have HV := Lib.hid hv
  have TX := Lib.hid xTX
  have TY := Lib.hid xTY
  have TP := Lib.hid xTP
  have TZ := Lib.hid xTZ
  clear hv xTX xTY xTP xTZ
  go_wp2_with fail
  have hv := HV.out
  have hv := hv.alloc hv.size (.cells #[.int .u32 0, .int .i64 0] 41)
  have xTX := (TX.out).alloc (.cells #[.int .u32 0, .int .i64 0] 41)
  have xTY := (TY.out).alloc (.cells #[.int .u32 0, .int .i64 0] 41)
  have xTP := (TP.out).alloc (.cells #[.int .u32 0, .int .i64 0] 41)
  have xTZ := (TZ.out).alloc (.cells #[.int .u32 0, .int .i64 0] 41)
  have xTQ : Blk (w8.alloc (.cells #[.int .u32 0, .int .i64 0] 41)) (w8.heap.size) 41 #[.int .u32 0, .int .i64 0] := by
    have := Blk.new w8 41 #[.int .u32 0, .int .i64 0]
    simpa using this
  generalize hvv : (w8.alloc (.cells #[.int .u32 0, .int .i64 0] 41)) = v4 at *
  clear hvv
  generalize w8.heap.size = gTQ at *
  clear HV TX TY TP TZ
  have HV := Lib.hid hv
  have TX := Lib.hid xTX
  have TY := Lib.hid xTY
  have TP := Lib.hid xTP
  have TZ := Lib.hid xTZ
  have TQ := Lib.hid xTQ
  clear hv xTX xTY xTP xTZ xTQ
  have HFV := Lib.hid (HF.out.below HV.out)
  have kTX0 := TX.out.cell 0
  have kTX1 := TX.out.cell 1
  have kTX2 := TX.out.cell 2
  have kTX3 := TX.out.cell 3
  have kTX4 := TX.out.cell 4
  have kTX5 := TX.out.cell 5
  have kTY0 := TY.out.cell 0
  have kTY1 := TY.out.cell 1
  have kTY2 := TY.out.cell 2
  have kTY3 := TY.out.cell 3
  have kTY4 := TY.out.cell 4
  have kTY5 := TY.out.cell 5
  have kTP0 := TP.out.cell 0
  have kTP1 := TP.out.cell 1
  have kTZ0 := TZ.out.cell 0
  have kTZ1 := TZ.out.cell 1
  have kTZ2 := TZ.out.cell 2
  have kTZ3 := TZ.out.cell 3
  have kTZ4 := TZ.out.cell 4
  have kTZ5 := TZ.out.cell 5
  have kTQ0 := TQ.out.cell 0
  have kTQ1 := TQ.out.cell 1
  simp only [List.getElem?_toArray, List.getElem?_cons_zero, List.getElem?_cons_succ] at kTX0 kTX1 kTX2 kTX3 kTX4 kTX5 kTY0 kTY1 kTY2 kTY3 kTY4 kTY5 kTP0 kTP1 kTZ0 kTZ1 kTZ2 kTZ3 kTZ4 kTZ5 kTQ0 kTQ1
  have rkTX0 := cell_regrown kTX0
  have rkTX1 := cell_regrown kTX1
  have rkTX2 := cell_regrown kTX2
  have rkTX3 := cell_regrown kTX3
  have rkTX4 := cell_regrown kTX4
  have rkTX5 := cell_regrown kTX5
  have rkTY0 := cell_regrown kTY0
  have rkTY1 := cell_regrown kTY1
  have rkTY2 := cell_regrown kTY2
  have rkTY3 := cell_regrown kTY3
  have rkTY4 := cell_regrown kTY4
  have rkTY5 := cell_regrown kTY5
  have rkTP0 := cell_regrown kTP0
  have rkTP1 := cell_regrown kTP1
  have rkTZ0 := cell_regrown kTZ0
  have rkTZ1 := cell_regrown kTZ1
  have rkTZ2 := cell_regrown kTZ2
  have rkTZ3 := cell_regrown kTZ3
  have rkTZ4 := cell_regrown kTZ4
  have rkTZ5 := cell_regrown kTZ5
  have rkTQ0 := cell_regrown kTQ0
  have rkTQ1 := cell_regrown kTQ1
  have cN : ∀ (n : Int) d os, Calls Tryd.prog 11 #[.int .i64 n] (grow (redrawn v4 d) os) fun e w'' => e = .returned (.int .i64 n) ∧ ∃ p : Regrown, w'' = grow (redrawn v4 p.d) p.os := fun n d os => Calls.regrown_of ((num4_any n _).mono fun _ _ ⟨he, hw⟩ => ⟨he, by rw [← hw]; exact Below.refl _ _⟩)
  have cY : ∀ d os, Calls Tryd.prog 8 #[] (grow (redrawn v4 d) os) fun e w'' => e = .returned (.bool true) ∧ ∃ p : Regrown, w'' = grow (redrawn v4 p.d) p.os := fun d os => Calls.regrown_of (HY0.out _ (HFV.out.below (below_regrown v4 d os)))
  clear kTX0 kTX1 kTX2 kTX3 kTX4 kTX5 kTY0 kTY1 kTY2 kTY3 kTY4 kTY5 kTP0 kTP1 kTZ0 kTZ1 kTZ2 kTZ3 kTZ4 kTZ5 kTQ0 kTQ1
  refine wp_region_quiet_below (by kernel_rfl) (by kernel_rfl) ?_
  try simp only [List.append_eq, List.cons_append, List.nil_append]
  repeat (go_big_quiet_step (first | (with_reducible exact cN _ _ _) | (with_reducible exact cY _ _)))
  refine wpQuiet_nil ?_
  intro wq hwq
  obtain ⟨⟨dq, osq⟩, rfl⟩ := hwq
  have hb := below_regrown v4 dq osq
  have hv := HV.out.trans (hb.mono HV.out.size)
  have xTX := TX.out.below hb TX.out.lt
  have xTY := TY.out.below hb TY.out.lt
  have xTP := TP.out.below hb TP.out.lt
  have xTZ := TZ.out.below hb TZ.out.lt
  have xTQ := TQ.out.below hb TQ.out.lt
  generalize grow (redrawn v4 dq) osq = w9 at *
  clear hb HV TX TY TP TZ TQ rkTX0 rkTX1 rkTX2 rkTX3 rkTX4 rkTX5 rkTY0 rkTY1 rkTY2 rkTY3 rkTY4 rkTY5 rkTP0 rkTP1 rkTZ0 rkTZ1 rkTZ2 rkTZ3 rkTZ4 rkTZ5 rkTQ0 rkTQ1 cN cY
  have HV := Lib.hid hv
  have TX := Lib.hid xTX
  have TY := Lib.hid xTY
  have TP := Lib.hid xTP
  have TZ := Lib.hid xTZ
  have TQ := Lib.hid xTQ
  clear hv xTX xTY xTP xTZ xTQ
  go_wp2_with fail
  go_ret
  exact ⟨rfl, HV.out⟩

set_option maxRecDepth 100000 in
set_option maxHeartbeats 6400000 in
theorem law04_holds_n_geq (t a m k f' t' m' n' k' : Int) (ho : (⟨2, t, a, m, 0, k⟩ : Ent).Ok) (ho2 : (⟨f', t', a, m', n', k'⟩ : Ent).Ok) (hx : whyE ⟨2, t, a, m, 0, k⟩ = 0) (hy : whyE ⟨f', t', a, m', n', k'⟩ = 0) (hr : ¬ (rightE ⟨2, t, a, m, 0, k⟩ ∧ rightE ⟨f', t', a, m', n', k'⟩)) (w : World) (hf : Fit3 w) :
    Calls Tryd.prog 7 #[.agg #[.int .i64 2, .int .i64 t, .int .u32 a, .int .u32 m, .int .u32 0, .int .u32 k], .agg #[.int .i64 f', .int .i64 t', .int .u32 a, .int .u32 m', .int .u32 n', .int .u32 k']] w fun e w' => e = .returned (.bool true) ∧ Below w.heap.size w w' := by
  have HF := Lib.hid hf
  have HY0 : Hid (∀ W, Fit3 W → Calls Tryd.prog 8 #[] W fun e w' => e = .returned (.bool true) ∧ Below W.heap.size W w') := yes4
  have HB1 := Lib.hid (fun W (hF : Fit3 W) => bytesE_c ⟨2, t, a, m, 0, k⟩ ho W hF)
  have HB2 := Lib.hid (fun W (hF : Fit3 W) => bytesE_c ⟨f', t', a, m', n', k'⟩ ho2 W hF)
  have hEE := fun W => eqEnt_run ⟨2, t, a, m, 0, k⟩ ⟨f', t', a, m', n', k'⟩ W
  have hEE2 : ∀ W, (binOp .eql 25 (.agg #[.int .i64 2, .int .i64 t, .int .u32 a, .int .u32 m, .int .u32 0, .int .u32 k]) (.agg #[.int .i64 f', .int .i64 t', .int .u32 a, .int .u32 m', .int .u32 n', .int .u32 k'])).run Tryd.prog W = .ok (.bool (decide ((⟨2, t, a, m, 0, k⟩ : Ent) = ⟨f', t', a, m', n', k'⟩))) W := hEE
  have hP1 := fun W => prefix4_any ⟨2, t, a, m, 0, k⟩ ho W
  have hW1 := fun W => why_any ⟨2, t, a, m, 0, k⟩ ho W
  obtain ⟨-, -, g1, g2, k1, k2, g3, g4⟩ := good_is hx
  dsimp only at g1 g3 g4 k1 k2
  have hO := fun W => of4_any (preA ⟨2, t, a, m, 0, k⟩) (preL ⟨2, t, a, m, 0, k⟩) k (by rw [g1]; exact ho.a0) (by rw [g1]; exact ho.a1) W
  rw [g3, g4] at hO
  rw [g1] at hO
  rw [g1, g2] at hP1
  rw [hx] at hW1
  obtain ⟨pl, hpl⟩ : ∃ pl, preL ⟨2, t, a, m, 0, k⟩ = pl := ⟨_, rfl⟩
  have hsm := pre_same hx hy
  rw [hpl] at hsm
  rw [hpl] at hO hP1
  have HO : Hid (∀ W, Calls Tryd.prog 20 #[.agg #[.int .u32 a, .int .i64 pl], .int .i64 k] W fun e w' => e = .returned (.tuple #[.agg #[.int .i64 2, .int .i64 0, .int .u32 a, .int .u32 m, .int .u32 0, .int .u32 k], .int .i64 0]) ∧ Below W.heap.size W w') := fun W => hO W
  have HP1 : Hid (∀ W, Calls Tryd.prog 15 #[.agg #[.int .i64 2, .int .i64 t, .int .u32 a, .int .u32 m, .int .u32 0, .int .u32 k]] W fun e w' => e = .returned (.tuple #[.agg #[.int .u32 a, .int .i64 pl], .int .i64 0]) ∧ Below W.heap.size W w') := fun W => hP1 W
  have HW1 : Hid (∀ W, Calls Tryd.prog 17 #[.agg #[.int .i64 2, .int .i64 t, .int .u32 a, .int .u32 m, .int .u32 0, .int .u32 k]] W fun e w' => e = .returned (.int .i64 0) ∧ Below W.heap.size W w') := fun W => hW1 W
  have hP2 := fun W => prefix4_any ⟨f', t', a, m', n', k'⟩ ho2 W
  obtain ⟨-, -, d1, d2, -⟩ := good_is hy
  dsimp only at d1
  rw [d1, d2] at hP2
  obtain ⟨ql, hql⟩ : ∃ ql, preL ⟨f', t', a, m', n', k'⟩ = ql := ⟨_, rfl⟩
  rw [hql] at hP2
  rw [hql] at hsm
  have hPQ : ∀ W, (binOp .eql 41 (.agg #[.int .u32 a, .int .i64 pl]) (.agg #[.int .u32 a, .int .i64 ql])).run Tryd.prog W = .ok (.bool (m == m')) W := fun W => by
    have := eqPre_run a pl a ql W
    have e1 : (a == a && pl == ql) = (m == m') := by
      rw [Bool.eq_iff_iff]
      simpa using hsm
    rw [e1] at this
    exact this
  clear hsm
  have HP2 : Hid (∀ W, Calls Tryd.prog 15 #[.agg #[.int .i64 f', .int .i64 t', .int .u32 a, .int .u32 m', .int .u32 n', .int .u32 k']] W fun e w' => e = .returned (.tuple #[.agg #[.int .u32 a, .int .i64 ql], .int .i64 0]) ∧ Below W.heap.size W w') := fun W => hP2 W
  clear hO hP2 g1 g2 g3 g4 d1 d2 hpl hql
  generalize hbb : decide ((⟨2, t, a, m, 0, k⟩ : Ent) = ⟨f', t', a, m', n', k'⟩) = bb at *
  have HRR := Lib.hid hr
  clear hf hEE hP1 hW1 hbb ho ho2 hx hr hy
  go_enter Tryd.func7, Tryd.ntmps7
  go_wp2_with fail
  have hv := Below.refl w.heap.size w
  have hv := hv.alloc hv.size (.cells #[.int .i64 2, .int .i64 t, .int .u32 a, .int .u32 m, .int .u32 0, .int .u32 k] 25)
  have hv := hv.alloc hv.size (.cells #[.int .i64 f', .int .i64 t', .int .u32 a, .int .u32 m', .int .u32 n', .int .u32 k'] 25)
  have xTX : Blk ((w.alloc (.cells #[.int .i64 2, .int .i64 t, .int .u32 a, .int .u32 m, .int .u32 0, .int .u32 k] 25)).alloc (.cells #[.int .i64 f', .int .i64 t', .int .u32 a, .int .u32 m', .int .u32 n', .int .u32 k'] 25)) (w.heap.size) 25 #[.int .i64 2, .int .i64 t, .int .u32 a, .int .u32 m, .int .u32 0, .int .u32 k] := by
    have := (Blk.new w 25 #[.int .i64 2, .int .i64 t, .int .u32 a, .int .u32 m, .int .u32 0, .int .u32 k]).alloc (.cells #[.int .i64 f', .int .i64 t', .int .u32 a, .int .u32 m', .int .u32 n', .int .u32 k'] 25)
    simpa using this
  have xTY : Blk ((w.alloc (.cells #[.int .i64 2, .int .i64 t, .int .u32 a, .int .u32 m, .int .u32 0, .int .u32 k] 25)).alloc (.cells #[.int .i64 f', .int .i64 t', .int .u32 a, .int .u32 m', .int .u32 n', .int .u32 k'] 25)) (w.heap.size + 1) 25 #[.int .i64 f', .int .i64 t', .int .u32 a, .int .u32 m', .int .u32 n', .int .u32 k'] := by
    have := Blk.new (w.alloc (.cells #[.int .i64 2, .int .i64 t, .int .u32 a, .int .u32 m, .int .u32 0, .int .u32 k] 25)) 25 #[.int .i64 f', .int .i64 t', .int .u32 a, .int .u32 m', .int .u32 n', .int .u32 k']
    simpa using this
  generalize hvv : ((w.alloc (.cells #[.int .i64 2, .int .i64 t, .int .u32 a, .int .u32 m, .int .u32 0, .int .u32 k] 25)).alloc (.cells #[.int .i64 f', .int .i64 t', .int .u32 a, .int .u32 m', .int .u32 n', .int .u32 k'] 25)) = v1 at *
  clear hvv
  have HV := Lib.hid hv
  have TX := Lib.hid xTX
  have TY := Lib.hid xTY
  clear hv xTX xTY
  refine (HB1.out _ (HF.out.below HV.out)).mono ?_
  rintro e w1 ⟨⟨p1, l1, c1, z1, rfl, hy1⟩, hb⟩
  have hv := HV.out.trans (hb.mono HV.out.size)
  have xTX := TX.out.below hb TX.out.lt
  have xTY := TY.out.below hb TY.out.lt
  clear hb HV TX TY
  have HV := Lib.hid hv
  have TX := Lib.hid xTX
  have TY := Lib.hid xTY
  clear hv xTX xTY
  have HY1 := Lib.hid hy1
  clear hy1
  have lTY := TY.out.lt
  have kTY0 := TY.out.cell 0
  have kTY1 := TY.out.cell 1
  have kTY2 := TY.out.cell 2
  have kTY3 := TY.out.cell 3
  have kTY4 := TY.out.cell 4
  have kTY5 := TY.out.cell 5
  simp only [List.getElem?_toArray, List.getElem?_cons_zero, List.getElem?_cons_succ] at kTY0 kTY1 kTY2 kTY3 kTY4 kTY5
  go_wp2_with fail
  refine (HB2.out _ (HF.out.below HV.out)).mono ?_
  rintro e w2 ⟨⟨p2, l2, c2, z2, rfl, hy2⟩, hb⟩
  clear lTY kTY0 kTY1 kTY2 kTY3 kTY4 kTY5
  have hv := HV.out.trans (hb.mono HV.out.size)
  have xTX := TX.out.below hb TX.out.lt
  have xTY := TY.out.below hb TY.out.lt
  have yHY1 := HY1.out.below hb
  clear hb HV TX TY
  have HV := Lib.hid hv
  have TX := Lib.hid xTX
  have TY := Lib.hid xTY
  clear hv xTX xTY
  clear HY1
  have HY1 := Lib.hid yHY1
  clear yHY1
  have HY2 := Lib.hid hy2
  clear hy2
  have HFW := Lib.hid (HF.out.below HV.out)
  have hz : z1 + z2 ≠ 0 ∧ IntKind.i64.wrap (z1 + z2) = z1 + z2 := by
    have a1 : z1 = 0 ∨ z1 = 2 := by
      by_cases h : rightE ⟨2, t, a, m, 0, k⟩
      · exact .inl (HY1.out.ok h).1
      · exact .inr (HY1.out.no h)
    have a2 : z2 = 0 ∨ z2 = 2 := by
      by_cases h : rightE ⟨f', t', a, m', n', k'⟩
      · exact .inl (HY2.out.ok h).1
      · exact .inr (HY2.out.no h)
    have a3 : ¬ (z1 = 0 ∧ z2 = 0) := fun h => HRR.out ⟨Classical.byContradiction fun hn => by
      have := HY1.out.no hn
      omega, Classical.byContradiction fun hn => by
      have := HY2.out.no hn
      omega⟩
    exact ⟨by omega, by rw [IntKind.wrap_i64]; omega⟩
  obtain ⟨hz0, hzw⟩ := hz
  have hzb : (z1 + z2 == 0) = false := by simpa using hz0
  clear HY1 HY2 HRR hz0
  go_wp2_with fail
  have kTX0 := TX.out.cell 0
  have kTX1 := TX.out.cell 1
  have kTX2 := TX.out.cell 2
  have kTX3 := TX.out.cell 3
  have kTX4 := TX.out.cell 4
  have kTX5 := TX.out.cell 5
  have kTY0 := TY.out.cell 0
  have kTY1 := TY.out.cell 1
  have kTY2 := TY.out.cell 2
  have kTY3 := TY.out.cell 3
  have kTY4 := TY.out.cell 4
  have kTY5 := TY.out.cell 5
  simp only [List.getElem?_toArray, List.getElem?_cons_zero, List.getElem?_cons_succ] at kTX0 kTX1 kTX2 kTX3 kTX4 kTX5 kTY0 kTY1 kTY2 kTY3 kTY4 kTY5
  have rkTX0 := cell_regrown kTX0
  have rkTX1 := cell_regrown kTX1
  have rkTX2 := cell_regrown kTX2
  have rkTX3 := cell_regrown kTX3
  have rkTX4 := cell_regrown kTX4
  have rkTX5 := cell_regrown kTX5
  have rkTY0 := cell_regrown kTY0
  have rkTY1 := cell_regrown kTY1
  have rkTY2 := cell_regrown kTY2
  have rkTY3 := cell_regrown kTY3
  have rkTY4 := cell_regrown kTY4
  have rkTY5 := cell_regrown kTY5
  have cN : ∀ (n : Int) d os, Calls Tryd.prog 11 #[.int .i64 n] (grow (redrawn w2 d) os) fun e w'' => e = .returned (.int .i64 n) ∧ ∃ p : Regrown, w'' = grow (redrawn w2 p.d) p.os := fun n d os => Calls.regrown_of ((num4_any n _).mono fun _ _ ⟨he, hw⟩ => ⟨he, by rw [← hw]; exact Below.refl _ _⟩)
  clear kTX0 kTX1 kTX2 kTX3 kTX4 kTX5 kTY0 kTY1 kTY2 kTY3 kTY4 kTY5
  refine wp_region_quiet_below (by kernel_rfl) (by kernel_rfl) ?_
  try simp only [List.append_eq, List.cons_append, List.nil_append]
  repeat (go_big_quiet_step (first | (with_reducible exact cN _ _ _)))
  refine wpQuiet_nil ?_
  intro wq hwq
  obtain ⟨⟨dq, osq⟩, rfl⟩ := hwq
  have hb := below_regrown w2 dq osq
  have hv := HV.out.trans (hb.mono HV.out.size)
  have xTX := TX.out.below hb TX.out.lt
  have xTY := TY.out.below hb TY.out.lt
  generalize grow (redrawn w2 dq) osq = w3 at *
  clear hb HV TX TY rkTX0 rkTX1 rkTX2 rkTX3 rkTX4 rkTX5 rkTY0 rkTY1 rkTY2 rkTY3 rkTY4 rkTY5 cN
  have HV := Lib.hid hv
  have TX := Lib.hid xTX
  have TY := Lib.hid xTY
  clear hv xTX xTY
  have lTX := TX.out.lt
  have kTX0 := TX.out.cell 0
  have kTX1 := TX.out.cell 1
  have kTX2 := TX.out.cell 2
  have kTX3 := TX.out.cell 3
  have kTX4 := TX.out.cell 4
  have kTX5 := TX.out.cell 5
  have lTY := TY.out.lt
  have kTY0 := TY.out.cell 0
  have kTY1 := TY.out.cell 1
  have kTY2 := TY.out.cell 2
  have kTY3 := TY.out.cell 3
  have kTY4 := TY.out.cell 4
  have kTY5 := TY.out.cell 5
  simp only [List.getElem?_toArray, List.getElem?_cons_zero, List.getElem?_cons_succ] at kTX0 kTX1 kTX2 kTX3 kTX4 kTX5 kTY0 kTY1 kTY2 kTY3 kTY4 kTY5
  go_wp2_with fail
  clear hzb hzw hEE2
  refine (HP1.out _).mono ?_
  rintro e w4 ⟨rfl, hb⟩
  clear lTX lTY kTX0 kTX1 kTX2 kTX3 kTX4 kTX5 kTY0 kTY1 kTY2 kTY3 kTY4 kTY5
  have hv := HV.out.trans (hb.mono HV.out.size)
  have xTX := TX.out.below hb TX.out.lt
  have xTY := TY.out.below hb TY.out.lt
  clear hb HV TX TY
  have HV := Lib.hid hv
  have TX := Lib.hid xTX
  have TY := Lib.hid xTY
  clear hv xTX xTY
  go_wp2_with fail
  have hv := HV.out
  have hv := hv.alloc hv.size (.cells #[.int .u32 a, .int .i64 pl] 41)
  have xTX := (TX.out).alloc (.cells #[.int .u32 a, .int .i64 pl] 41)
  have xTY := (TY.out).alloc (.cells #[.int .u32 a, .int .i64 pl] 41)
  have xTP : Blk (w4.alloc (.cells #[.int .u32 a, .int .i64 pl] 41)) (w4.heap.size) 41 #[.int .u32 a, .int .i64 pl] := by
    have := Blk.new w4 41 #[.int .u32 a, .int .i64 pl]
    simpa using this
  generalize hvv : (w4.alloc (.cells #[.int .u32 a, .int .i64 pl] 41)) = v2 at *
  clear hvv
  generalize w4.heap.size = gTP at *
  clear HV TX TY
  have HV := Lib.hid hv
  have TX := Lib.hid xTX
  have TY := Lib.hid xTY
  have TP := Lib.hid xTP
  clear hv xTX xTY xTP
  have kTX0 := TX.out.cell 0
  have kTX1 := TX.out.cell 1
  have kTX2 := TX.out.cell 2
  have kTX3 := TX.out.cell 3
  have kTX4 := TX.out.cell 4
  have kTX5 := TX.out.cell 5
  simp only [List.getElem?_toArray, List.getElem?_cons_zero, List.getElem?_cons_succ] at kTX0 kTX1 kTX2 kTX3 kTX4 kTX5
  have rkTX0 := cell_regrown kTX0
  have rkTX1 := cell_regrown kTX1
  have rkTX2 := cell_regrown kTX2
  have rkTX3 := cell_regrown kTX3
  have rkTX4 := cell_regrown kTX4
  have rkTX5 := cell_regrown kTX5
  have cN : ∀ (n : Int) d os, Calls Tryd.prog 11 #[.int .i64 n] (grow (redrawn v2 d) os) fun e w'' => e = .returned (.int .i64 n) ∧ ∃ p : Regrown, w'' = grow (redrawn v2 p.d) p.os := fun n d os => Calls.regrown_of ((num4_any n _).mono fun _ _ ⟨he, hw⟩ => ⟨he, by rw [← hw]; exact Below.refl _ _⟩)
  have cW : ∀ d os, Calls Tryd.prog 17 #[.agg #[.int .i64 2, .int .i64 t, .int .u32 a, .int .u32 m, .int .u32 0, .int .u32 k]] (grow (redrawn v2 d) os) fun e w'' => e = .returned (.int .i64 0) ∧ ∃ p : Regrown, w'' = grow (redrawn v2 p.d) p.os := fun d os => Calls.regrown_of (HW1.out _)
  clear kTX0 kTX1 kTX2 kTX3 kTX4 kTX5
  refine wp_region_quiet_below (by kernel_rfl) (by kernel_rfl) ?_
  try simp only [List.append_eq, List.cons_append, List.nil_append]
  repeat (go_big_quiet_step (first | (with_reducible exact cN _ _ _) | (with_reducible exact cW _ _)))
  refine wpQuiet_nil ?_
  intro wq hwq
  obtain ⟨⟨dq, osq⟩, rfl⟩ := hwq
  have hb := below_regrown v2 dq osq
  have hv := HV.out.trans (hb.mono HV.out.size)
  have xTX := TX.out.below hb TX.out.lt
  have xTY := TY.out.below hb TY.out.lt
  have xTP := TP.out.below hb TP.out.lt
  generalize grow (redrawn v2 dq) osq = w5 at *
  clear hb HV TX TY TP rkTX0 rkTX1 rkTX2 rkTX3 rkTX4 rkTX5 cN cW
  have HV := Lib.hid hv
  have TX := Lib.hid xTX
  have TY := Lib.hid xTY
  have TP := Lib.hid xTP
  clear hv xTX xTY xTP
  have lTX := TX.out.lt
  have kTX0 := TX.out.cell 0
  have kTX1 := TX.out.cell 1
  have kTX2 := TX.out.cell 2
  have kTX3 := TX.out.cell 3
  have kTX4 := TX.out.cell 4
  have kTX5 := TX.out.cell 5
  have lTY := TY.out.lt
  have kTY0 := TY.out.cell 0
  have kTY1 := TY.out.cell 1
  have kTY2 := TY.out.cell 2
  have kTY3 := TY.out.cell 3
  have kTY4 := TY.out.cell 4
  have kTY5 := TY.out.cell 5
  have lTP := TP.out.lt
  have kTP0 := TP.out.cell 0
  have kTP1 := TP.out.cell 1
  simp only [List.getElem?_toArray, List.getElem?_cons_zero, List.getElem?_cons_succ] at kTX0 kTX1 kTX2 kTX3 kTX4 kTX5 kTY0 kTY1 kTY2 kTY3 kTY4 kTY5 kTP0 kTP1
  go_wp2_with fail
  refine (num4_any _ _).mono ?_
  rintro e wn6 ⟨rfl, rfl⟩
  go_wp2_with fail
  refine (HO.out _).mono ?_
  rintro e w7 ⟨rfl, hb⟩
  clear lTX lTY lTP kTX0 kTX1 kTX2 kTX3 kTX4 kTX5 kTY0 kTY1 kTY2 kTY3 kTY4 kTY5 kTP0 kTP1
  have hv := HV.out.trans (hb.mono HV.out.size)
  have xTX := TX.out.below hb TX.out.lt
  have xTY := TY.out.below hb TY.out.lt
  have xTP := TP.out.below hb TP.out.lt
  clear hb HV TX TY TP
  have HV := Lib.hid hv
  have TX := Lib.hid xTX
  have TY := Lib.hid xTY
  have TP := Lib.hid xTP
  clear hv xTX xTY xTP
  have lTX := TX.out.lt
  have kTX0 := TX.out.cell 0
  have kTX1 := TX.out.cell 1
  have kTX2 := TX.out.cell 2
  have kTX3 := TX.out.cell 3
  have kTX4 := TX.out.cell 4
  have kTX5 := TX.out.cell 5
  have lTY := TY.out.lt
  have kTY0 := TY.out.cell 0
  have kTY1 := TY.out.cell 1
  have kTY2 := TY.out.cell 2
  have kTY3 := TY.out.cell 3
  have kTY4 := TY.out.cell 4
  have kTY5 := TY.out.cell 5
  simp only [List.getElem?_toArray, List.getElem?_cons_zero, List.getElem?_cons_succ] at kTX0 kTX1 kTX2 kTX3 kTX4 kTX5 kTY0 kTY1 kTY2 kTY3 kTY4 kTY5
  go_wp2_with fail
  clear lTX lTY kTX0 kTX1 kTX2 kTX3 kTX4 kTX5 kTY0 kTY1 kTY2 kTY3 kTY4 kTY5
  have hv := HV.out
  have hv := hv.alloc hv.size (.cells #[.int .i64 2, .int .i64 t, .int .u32 a, .int .u32 m, .int .u32 0, .int .u32 k] 25)
  have xTX := (TX.out).alloc (.cells #[.int .i64 2, .int .i64 t, .int .u32 a, .int .u32 m, .int .u32 0, .int .u32 k] 25)
  have xTY := (TY.out).alloc (.cells #[.int .i64 2, .int .i64 t, .int .u32 a, .int .u32 m, .int .u32 0, .int .u32 k] 25)
  have xTP := (TP.out).alloc (.cells #[.int .i64 2, .int .i64 t, .int .u32 a, .int .u32 m, .int .u32 0, .int .u32 k] 25)
  have xTZ : Blk (w7.alloc (.cells #[.int .i64 2, .int .i64 t, .int .u32 a, .int .u32 m, .int .u32 0, .int .u32 k] 25)) (w7.heap.size) 25 #[.int .i64 2, .int .i64 t, .int .u32 a, .int .u32 m, .int .u32 0, .int .u32 k] := by
    have := Blk.new w7 25 #[.int .i64 2, .int .i64 t, .int .u32 a, .int .u32 m, .int .u32 0, .int .u32 k]
    simpa using this
  generalize hvv : (w7.alloc (.cells #[.int .i64 2, .int .i64 t, .int .u32 a, .int .u32 m, .int .u32 0, .int .u32 k] 25)) = v3 at *
  clear hvv
  generalize w7.heap.size = gTZ at *
  clear HV TX TY TP
  have HV := Lib.hid hv
  have TX := Lib.hid xTX
  have TY := Lib.hid xTY
  have TP := Lib.hid xTP
  have TZ := Lib.hid xTZ
  clear hv xTX xTY xTP xTZ
  refine (HP2.out _).mono ?_
  rintro e w8 ⟨rfl, hb⟩
  have hv := HV.out.trans (hb.mono HV.out.size)
  have xTX := TX.out.below hb TX.out.lt
  have xTY := TY.out.below hb TY.out.lt
  have xTP := TP.out.below hb TP.out.lt
  have xTZ := TZ.out.below hb TZ.out.lt
  clear hb HV TX TY TP TZ
  have HV := Lib.hid hv
  have TX := Lib.hid xTX
  have TY := Lib.hid xTY
  have TP := Lib.hid xTP
  have TZ := Lib.hid xTZ
  clear hv xTX xTY xTP xTZ
  go_wp2_with fail
  have hv := HV.out
  have hv := hv.alloc hv.size (.cells #[.int .u32 a, .int .i64 ql] 41)
  have xTX := (TX.out).alloc (.cells #[.int .u32 a, .int .i64 ql] 41)
  have xTY := (TY.out).alloc (.cells #[.int .u32 a, .int .i64 ql] 41)
  have xTP := (TP.out).alloc (.cells #[.int .u32 a, .int .i64 ql] 41)
  have xTZ := (TZ.out).alloc (.cells #[.int .u32 a, .int .i64 ql] 41)
  have xTQ : Blk (w8.alloc (.cells #[.int .u32 a, .int .i64 ql] 41)) (w8.heap.size) 41 #[.int .u32 a, .int .i64 ql] := by
    have := Blk.new w8 41 #[.int .u32 a, .int .i64 ql]
    simpa using this
  generalize hvv : (w8.alloc (.cells #[.int .u32 a, .int .i64 ql] 41)) = v4 at *
  clear hvv
  generalize w8.heap.size = gTQ at *
  clear HV TX TY TP TZ
  have HV := Lib.hid hv
  have TX := Lib.hid xTX
  have TY := Lib.hid xTY
  have TP := Lib.hid xTP
  have TZ := Lib.hid xTZ
  have TQ := Lib.hid xTQ
  clear hv xTX xTY xTP xTZ xTQ
  have HFV := Lib.hid (HF.out.below HV.out)
  have kTX0 := TX.out.cell 0
  have kTX1 := TX.out.cell 1
  have kTX2 := TX.out.cell 2
  have kTX3 := TX.out.cell 3
  have kTX4 := TX.out.cell 4
  have kTX5 := TX.out.cell 5
  have kTY0 := TY.out.cell 0
  have kTY1 := TY.out.cell 1
  have kTY2 := TY.out.cell 2
  have kTY3 := TY.out.cell 3
  have kTY4 := TY.out.cell 4
  have kTY5 := TY.out.cell 5
  have kTP0 := TP.out.cell 0
  have kTP1 := TP.out.cell 1
  have kTZ0 := TZ.out.cell 0
  have kTZ1 := TZ.out.cell 1
  have kTZ2 := TZ.out.cell 2
  have kTZ3 := TZ.out.cell 3
  have kTZ4 := TZ.out.cell 4
  have kTZ5 := TZ.out.cell 5
  have kTQ0 := TQ.out.cell 0
  have kTQ1 := TQ.out.cell 1
  simp only [List.getElem?_toArray, List.getElem?_cons_zero, List.getElem?_cons_succ] at kTX0 kTX1 kTX2 kTX3 kTX4 kTX5 kTY0 kTY1 kTY2 kTY3 kTY4 kTY5 kTP0 kTP1 kTZ0 kTZ1 kTZ2 kTZ3 kTZ4 kTZ5 kTQ0 kTQ1
  have rkTX0 := cell_regrown kTX0
  have rkTX1 := cell_regrown kTX1
  have rkTX2 := cell_regrown kTX2
  have rkTX3 := cell_regrown kTX3
  have rkTX4 := cell_regrown kTX4
  have rkTX5 := cell_regrown kTX5
  have rkTY0 := cell_regrown kTY0
  have rkTY1 := cell_regrown kTY1
  have rkTY2 := cell_regrown kTY2
  have rkTY3 := cell_regrown kTY3
  have rkTY4 := cell_regrown kTY4
  have rkTY5 := cell_regrown kTY5
  have rkTP0 := cell_regrown kTP0
  have rkTP1 := cell_regrown kTP1
  have rkTZ0 := cell_regrown kTZ0
  have rkTZ1 := cell_regrown kTZ1
  have rkTZ2 := cell_regrown kTZ2
  have rkTZ3 := cell_regrown kTZ3
  have rkTZ4 := cell_regrown kTZ4
  have rkTZ5 := cell_regrown kTZ5
  have rkTQ0 := cell_regrown kTQ0
  have rkTQ1 := cell_regrown kTQ1
  have cN : ∀ (n : Int) d os, Calls Tryd.prog 11 #[.int .i64 n] (grow (redrawn v4 d) os) fun e w'' => e = .returned (.int .i64 n) ∧ ∃ p : Regrown, w'' = grow (redrawn v4 p.d) p.os := fun n d os => Calls.regrown_of ((num4_any n _).mono fun _ _ ⟨he, hw⟩ => ⟨he, by rw [← hw]; exact Below.refl _ _⟩)
  have cY : ∀ d os, Calls Tryd.prog 8 #[] (grow (redrawn v4 d) os) fun e w'' => e = .returned (.bool true) ∧ ∃ p : Regrown, w'' = grow (redrawn v4 p.d) p.os := fun d os => Calls.regrown_of (HY0.out _ (HFV.out.below (below_regrown v4 d os)))
  clear kTX0 kTX1 kTX2 kTX3 kTX4 kTX5 kTY0 kTY1 kTY2 kTY3 kTY4 kTY5 kTP0 kTP1 kTZ0 kTZ1 kTZ2 kTZ3 kTZ4 kTZ5 kTQ0 kTQ1
  refine wp_region_quiet_below (by kernel_rfl) (by kernel_rfl) ?_
  try simp only [List.append_eq, List.cons_append, List.nil_append]
  repeat (go_big_quiet_step (first | (with_reducible exact cN _ _ _) | (with_reducible exact cY _ _)))
  refine wpQuiet_nil ?_
  intro wq hwq
  obtain ⟨⟨dq, osq⟩, rfl⟩ := hwq
  have hb := below_regrown v4 dq osq
  have hv := HV.out.trans (hb.mono HV.out.size)
  have xTX := TX.out.below hb TX.out.lt
  have xTY := TY.out.below hb TY.out.lt
  have xTP := TP.out.below hb TP.out.lt
  have xTZ := TZ.out.below hb TZ.out.lt
  have xTQ := TQ.out.below hb TQ.out.lt
  generalize grow (redrawn v4 dq) osq = w9 at *
  clear hb HV TX TY TP TZ TQ rkTX0 rkTX1 rkTX2 rkTX3 rkTX4 rkTX5 rkTY0 rkTY1 rkTY2 rkTY3 rkTY4 rkTY5 rkTP0 rkTP1 rkTZ0 rkTZ1 rkTZ2 rkTZ3 rkTZ4 rkTZ5 rkTQ0 rkTQ1 cN cY
  have HV := Lib.hid hv
  have TX := Lib.hid xTX
  have TY := Lib.hid xTY
  have TP := Lib.hid xTP
  have TZ := Lib.hid xTZ
  have TQ := Lib.hid xTQ
  clear hv xTX xTY xTP xTZ xTQ
  go_wp2_with fail
  go_ret
  exact ⟨rfl, HV.out⟩

set_option maxRecDepth 100000 in
set_option maxHeartbeats 6400000 in
theorem law04_holds_n_gne (t a m k f' t' a' m' n' k' : Int) (ho : (⟨2, t, a, m, 0, k⟩ : Ent).Ok) (ho2 : (⟨f', t', a', m', n', k'⟩ : Ent).Ok) (hx : whyE ⟨2, t, a, m, 0, k⟩ = 0) (hy : whyE ⟨f', t', a', m', n', k'⟩ = 0) (hne : ¬ a = a') (hr : ¬ (rightE ⟨2, t, a, m, 0, k⟩ ∧ rightE ⟨f', t', a', m', n', k'⟩)) (w : World) (hf : Fit3 w) :
    Calls Tryd.prog 7 #[.agg #[.int .i64 2, .int .i64 t, .int .u32 a, .int .u32 m, .int .u32 0, .int .u32 k], .agg #[.int .i64 f', .int .i64 t', .int .u32 a', .int .u32 m', .int .u32 n', .int .u32 k']] w fun e w' => e = .returned (.bool true) ∧ Below w.heap.size w w' := by
  have HF := Lib.hid hf
  have HY0 : Hid (∀ W, Fit3 W → Calls Tryd.prog 8 #[] W fun e w' => e = .returned (.bool true) ∧ Below W.heap.size W w') := yes4
  have HB1 := Lib.hid (fun W (hF : Fit3 W) => bytesE_c ⟨2, t, a, m, 0, k⟩ ho W hF)
  have HB2 := Lib.hid (fun W (hF : Fit3 W) => bytesE_c ⟨f', t', a', m', n', k'⟩ ho2 W hF)
  have hEE := fun W => eqEnt_run ⟨2, t, a, m, 0, k⟩ ⟨f', t', a', m', n', k'⟩ W
  have hEE2 : ∀ W, (binOp .eql 25 (.agg #[.int .i64 2, .int .i64 t, .int .u32 a, .int .u32 m, .int .u32 0, .int .u32 k]) (.agg #[.int .i64 f', .int .i64 t', .int .u32 a', .int .u32 m', .int .u32 n', .int .u32 k'])).run Tryd.prog W = .ok (.bool (decide ((⟨2, t, a, m, 0, k⟩ : Ent) = ⟨f', t', a', m', n', k'⟩))) W := hEE
  have hP1 := fun W => prefix4_any ⟨2, t, a, m, 0, k⟩ ho W
  have hW1 := fun W => why_any ⟨2, t, a, m, 0, k⟩ ho W
  obtain ⟨-, -, g1, g2, k1, k2, g3, g4⟩ := good_is hx
  dsimp only at g1 g3 g4 k1 k2
  have hO := fun W => of4_any (preA ⟨2, t, a, m, 0, k⟩) (preL ⟨2, t, a, m, 0, k⟩) k (by rw [g1]; exact ho.a0) (by rw [g1]; exact ho.a1) W
  rw [g3, g4] at hO
  rw [g1] at hO
  rw [g1, g2] at hP1
  rw [hx] at hW1
  obtain ⟨pl, hpl⟩ : ∃ pl, preL ⟨2, t, a, m, 0, k⟩ = pl := ⟨_, rfl⟩
  rw [hpl] at hO hP1
  have HO : Hid (∀ W, Calls Tryd.prog 20 #[.agg #[.int .u32 a, .int .i64 pl], .int .i64 k] W fun e w' => e = .returned (.tuple #[.agg #[.int .i64 2, .int .i64 0, .int .u32 a, .int .u32 m, .int .u32 0, .int .u32 k], .int .i64 0]) ∧ Below W.heap.size W w') := fun W => hO W
  have HP1 : Hid (∀ W, Calls Tryd.prog 15 #[.agg #[.int .i64 2, .int .i64 t, .int .u32 a, .int .u32 m, .int .u32 0, .int .u32 k]] W fun e w' => e = .returned (.tuple #[.agg #[.int .u32 a, .int .i64 pl], .int .i64 0]) ∧ Below W.heap.size W w') := fun W => hP1 W
  have HW1 : Hid (∀ W, Calls Tryd.prog 17 #[.agg #[.int .i64 2, .int .i64 t, .int .u32 a, .int .u32 m, .int .u32 0, .int .u32 k]] W fun e w' => e = .returned (.int .i64 0) ∧ Below W.heap.size W w') := fun W => hW1 W
  have hP2 := fun W => prefix4_any ⟨f', t', a', m', n', k'⟩ ho2 W
  obtain ⟨-, -, d1, d2, -⟩ := good_is hy
  dsimp only at d1
  rw [d1, d2] at hP2
  obtain ⟨ql, hql⟩ : ∃ ql, preL ⟨f', t', a', m', n', k'⟩ = ql := ⟨_, rfl⟩
  rw [hql] at hP2
  have hPQ : ∀ W, (binOp .eql 41 (.agg #[.int .u32 a, .int .i64 pl]) (.agg #[.int .u32 a', .int .i64 ql])).run Tryd.prog W = .ok (.bool false) W := fun W => by
    have := eqPre_run a pl a' ql W
    have e1 : (a == a' && pl == ql) = false := by simp [hne]
    rw [e1] at this
    exact this
  have hnb : (a == a') = false := by simpa using hne
  clear hne
  have HP2 : Hid (∀ W, Calls Tryd.prog 15 #[.agg #[.int .i64 f', .int .i64 t', .int .u32 a', .int .u32 m', .int .u32 n', .int .u32 k']] W fun e w' => e = .returned (.tuple #[.agg #[.int .u32 a', .int .i64 ql], .int .i64 0]) ∧ Below W.heap.size W w') := fun W => hP2 W
  clear hO hP2 g1 g2 g3 g4 d1 d2 hpl hql
  generalize hbb : decide ((⟨2, t, a, m, 0, k⟩ : Ent) = ⟨f', t', a', m', n', k'⟩) = bb at *
  have HRR := Lib.hid hr
  clear hf hEE hP1 hW1 hbb ho ho2 hx hr hy
  go_enter Tryd.func7, Tryd.ntmps7
  go_wp2_with fail
  have hv := Below.refl w.heap.size w
  have hv := hv.alloc hv.size (.cells #[.int .i64 2, .int .i64 t, .int .u32 a, .int .u32 m, .int .u32 0, .int .u32 k] 25)
  have hv := hv.alloc hv.size (.cells #[.int .i64 f', .int .i64 t', .int .u32 a', .int .u32 m', .int .u32 n', .int .u32 k'] 25)
  have xTX : Blk ((w.alloc (.cells #[.int .i64 2, .int .i64 t, .int .u32 a, .int .u32 m, .int .u32 0, .int .u32 k] 25)).alloc (.cells #[.int .i64 f', .int .i64 t', .int .u32 a', .int .u32 m', .int .u32 n', .int .u32 k'] 25)) (w.heap.size) 25 #[.int .i64 2, .int .i64 t, .int .u32 a, .int .u32 m, .int .u32 0, .int .u32 k] := by
    have := (Blk.new w 25 #[.int .i64 2, .int .i64 t, .int .u32 a, .int .u32 m, .int .u32 0, .int .u32 k]).alloc (.cells #[.int .i64 f', .int .i64 t', .int .u32 a', .int .u32 m', .int .u32 n', .int .u32 k'] 25)
    simpa using this
  have xTY : Blk ((w.alloc (.cells #[.int .i64 2, .int .i64 t, .int .u32 a, .int .u32 m, .int .u32 0, .int .u32 k] 25)).alloc (.cells #[.int .i64 f', .int .i64 t', .int .u32 a', .int .u32 m', .int .u32 n', .int .u32 k'] 25)) (w.heap.size + 1) 25 #[.int .i64 f', .int .i64 t', .int .u32 a', .int .u32 m', .int .u32 n', .int .u32 k'] := by
    have := Blk.new (w.alloc (.cells #[.int .i64 2, .int .i64 t, .int .u32 a, .int .u32 m, .int .u32 0, .int .u32 k] 25)) 25 #[.int .i64 f', .int .i64 t', .int .u32 a', .int .u32 m', .int .u32 n', .int .u32 k']
    simpa using this
  generalize hvv : ((w.alloc (.cells #[.int .i64 2, .int .i64 t, .int .u32 a, .int .u32 m, .int .u32 0, .int .u32 k] 25)).alloc (.cells #[.int .i64 f', .int .i64 t', .int .u32 a', .int .u32 m', .int .u32 n', .int .u32 k'] 25)) = v1 at *
  clear hvv
  have HV := Lib.hid hv
  have TX := Lib.hid xTX
  have TY := Lib.hid xTY
  clear hv xTX xTY
  refine (HB1.out _ (HF.out.below HV.out)).mono ?_
  rintro e w1 ⟨⟨p1, l1, c1, z1, rfl, hy1⟩, hb⟩
  have hv := HV.out.trans (hb.mono HV.out.size)
  have xTX := TX.out.below hb TX.out.lt
  have xTY := TY.out.below hb TY.out.lt
  clear hb HV TX TY
  have HV := Lib.hid hv
  have TX := Lib.hid xTX
  have TY := Lib.hid xTY
  clear hv xTX xTY
  have HY1 := Lib.hid hy1
  clear hy1
  have lTY := TY.out.lt
  have kTY0 := TY.out.cell 0
  have kTY1 := TY.out.cell 1
  have kTY2 := TY.out.cell 2
  have kTY3 := TY.out.cell 3
  have kTY4 := TY.out.cell 4
  have kTY5 := TY.out.cell 5
  simp only [List.getElem?_toArray, List.getElem?_cons_zero, List.getElem?_cons_succ] at kTY0 kTY1 kTY2 kTY3 kTY4 kTY5
  go_wp2_with fail
  refine (HB2.out _ (HF.out.below HV.out)).mono ?_
  rintro e w2 ⟨⟨p2, l2, c2, z2, rfl, hy2⟩, hb⟩
  clear lTY kTY0 kTY1 kTY2 kTY3 kTY4 kTY5
  have hv := HV.out.trans (hb.mono HV.out.size)
  have xTX := TX.out.below hb TX.out.lt
  have xTY := TY.out.below hb TY.out.lt
  have yHY1 := HY1.out.below hb
  clear hb HV TX TY
  have HV := Lib.hid hv
  have TX := Lib.hid xTX
  have TY := Lib.hid xTY
  clear hv xTX xTY
  clear HY1
  have HY1 := Lib.hid yHY1
  clear yHY1
  have HY2 := Lib.hid hy2
  clear hy2
  have HFW := Lib.hid (HF.out.below HV.out)
  have hz : z1 + z2 ≠ 0 ∧ IntKind.i64.wrap (z1 + z2) = z1 + z2 := by
    have a1 : z1 = 0 ∨ z1 = 2 := by
      by_cases h : rightE ⟨2, t, a, m, 0, k⟩
      · exact .inl (HY1.out.ok h).1
      · exact .inr (HY1.out.no h)
    have a2 : z2 = 0 ∨ z2 = 2 := by
      by_cases h : rightE ⟨f', t', a', m', n', k'⟩
      · exact .inl (HY2.out.ok h).1
      · exact .inr (HY2.out.no h)
    have a3 : ¬ (z1 = 0 ∧ z2 = 0) := fun h => HRR.out ⟨Classical.byContradiction fun hn => by
      have := HY1.out.no hn
      omega, Classical.byContradiction fun hn => by
      have := HY2.out.no hn
      omega⟩
    exact ⟨by omega, by rw [IntKind.wrap_i64]; omega⟩
  obtain ⟨hz0, hzw⟩ := hz
  have hzb : (z1 + z2 == 0) = false := by simpa using hz0
  clear HY1 HY2 HRR hz0
  go_wp2_with fail
  have kTX0 := TX.out.cell 0
  have kTX1 := TX.out.cell 1
  have kTX2 := TX.out.cell 2
  have kTX3 := TX.out.cell 3
  have kTX4 := TX.out.cell 4
  have kTX5 := TX.out.cell 5
  have kTY0 := TY.out.cell 0
  have kTY1 := TY.out.cell 1
  have kTY2 := TY.out.cell 2
  have kTY3 := TY.out.cell 3
  have kTY4 := TY.out.cell 4
  have kTY5 := TY.out.cell 5
  simp only [List.getElem?_toArray, List.getElem?_cons_zero, List.getElem?_cons_succ] at kTX0 kTX1 kTX2 kTX3 kTX4 kTX5 kTY0 kTY1 kTY2 kTY3 kTY4 kTY5
  have rkTX0 := cell_regrown kTX0
  have rkTX1 := cell_regrown kTX1
  have rkTX2 := cell_regrown kTX2
  have rkTX3 := cell_regrown kTX3
  have rkTX4 := cell_regrown kTX4
  have rkTX5 := cell_regrown kTX5
  have rkTY0 := cell_regrown kTY0
  have rkTY1 := cell_regrown kTY1
  have rkTY2 := cell_regrown kTY2
  have rkTY3 := cell_regrown kTY3
  have rkTY4 := cell_regrown kTY4
  have rkTY5 := cell_regrown kTY5
  have cN : ∀ (n : Int) d os, Calls Tryd.prog 11 #[.int .i64 n] (grow (redrawn w2 d) os) fun e w'' => e = .returned (.int .i64 n) ∧ ∃ p : Regrown, w'' = grow (redrawn w2 p.d) p.os := fun n d os => Calls.regrown_of ((num4_any n _).mono fun _ _ ⟨he, hw⟩ => ⟨he, by rw [← hw]; exact Below.refl _ _⟩)
  clear kTX0 kTX1 kTX2 kTX3 kTX4 kTX5 kTY0 kTY1 kTY2 kTY3 kTY4 kTY5
  refine wp_region_quiet_below (by kernel_rfl) (by kernel_rfl) ?_
  try simp only [List.append_eq, List.cons_append, List.nil_append]
  repeat (go_big_quiet_step (first | (with_reducible exact cN _ _ _)))
  refine wpQuiet_nil ?_
  intro wq hwq
  obtain ⟨⟨dq, osq⟩, rfl⟩ := hwq
  have hb := below_regrown w2 dq osq
  have hv := HV.out.trans (hb.mono HV.out.size)
  have xTX := TX.out.below hb TX.out.lt
  have xTY := TY.out.below hb TY.out.lt
  generalize grow (redrawn w2 dq) osq = w3 at *
  clear hb HV TX TY rkTX0 rkTX1 rkTX2 rkTX3 rkTX4 rkTX5 rkTY0 rkTY1 rkTY2 rkTY3 rkTY4 rkTY5 cN
  have HV := Lib.hid hv
  have TX := Lib.hid xTX
  have TY := Lib.hid xTY
  clear hv xTX xTY
  have lTX := TX.out.lt
  have kTX0 := TX.out.cell 0
  have kTX1 := TX.out.cell 1
  have kTX2 := TX.out.cell 2
  have kTX3 := TX.out.cell 3
  have kTX4 := TX.out.cell 4
  have kTX5 := TX.out.cell 5
  have lTY := TY.out.lt
  have kTY0 := TY.out.cell 0
  have kTY1 := TY.out.cell 1
  have kTY2 := TY.out.cell 2
  have kTY3 := TY.out.cell 3
  have kTY4 := TY.out.cell 4
  have kTY5 := TY.out.cell 5
  simp only [List.getElem?_toArray, List.getElem?_cons_zero, List.getElem?_cons_succ] at kTX0 kTX1 kTX2 kTX3 kTX4 kTX5 kTY0 kTY1 kTY2 kTY3 kTY4 kTY5
  go_wp2_with fail
  clear hzb hzw hEE2
  refine (HP1.out _).mono ?_
  rintro e w4 ⟨rfl, hb⟩
  clear lTX lTY kTX0 kTX1 kTX2 kTX3 kTX4 kTX5 kTY0 kTY1 kTY2 kTY3 kTY4 kTY5
  have hv := HV.out.trans (hb.mono HV.out.size)
  have xTX := TX.out.below hb TX.out.lt
  have xTY := TY.out.below hb TY.out.lt
  clear hb HV TX TY
  have HV := Lib.hid hv
  have TX := Lib.hid xTX
  have TY := Lib.hid xTY
  clear hv xTX xTY
  go_wp2_with fail
  have hv := HV.out
  have hv := hv.alloc hv.size (.cells #[.int .u32 a, .int .i64 pl] 41)
  have xTX := (TX.out).alloc (.cells #[.int .u32 a, .int .i64 pl] 41)
  have xTY := (TY.out).alloc (.cells #[.int .u32 a, .int .i64 pl] 41)
  have xTP : Blk (w4.alloc (.cells #[.int .u32 a, .int .i64 pl] 41)) (w4.heap.size) 41 #[.int .u32 a, .int .i64 pl] := by
    have := Blk.new w4 41 #[.int .u32 a, .int .i64 pl]
    simpa using this
  generalize hvv : (w4.alloc (.cells #[.int .u32 a, .int .i64 pl] 41)) = v2 at *
  clear hvv
  generalize w4.heap.size = gTP at *
  clear HV TX TY
  have HV := Lib.hid hv
  have TX := Lib.hid xTX
  have TY := Lib.hid xTY
  have TP := Lib.hid xTP
  clear hv xTX xTY xTP
  have kTX0 := TX.out.cell 0
  have kTX1 := TX.out.cell 1
  have kTX2 := TX.out.cell 2
  have kTX3 := TX.out.cell 3
  have kTX4 := TX.out.cell 4
  have kTX5 := TX.out.cell 5
  simp only [List.getElem?_toArray, List.getElem?_cons_zero, List.getElem?_cons_succ] at kTX0 kTX1 kTX2 kTX3 kTX4 kTX5
  have rkTX0 := cell_regrown kTX0
  have rkTX1 := cell_regrown kTX1
  have rkTX2 := cell_regrown kTX2
  have rkTX3 := cell_regrown kTX3
  have rkTX4 := cell_regrown kTX4
  have rkTX5 := cell_regrown kTX5
  have cN : ∀ (n : Int) d os, Calls Tryd.prog 11 #[.int .i64 n] (grow (redrawn v2 d) os) fun e w'' => e = .returned (.int .i64 n) ∧ ∃ p : Regrown, w'' = grow (redrawn v2 p.d) p.os := fun n d os => Calls.regrown_of ((num4_any n _).mono fun _ _ ⟨he, hw⟩ => ⟨he, by rw [← hw]; exact Below.refl _ _⟩)
  have cW : ∀ d os, Calls Tryd.prog 17 #[.agg #[.int .i64 2, .int .i64 t, .int .u32 a, .int .u32 m, .int .u32 0, .int .u32 k]] (grow (redrawn v2 d) os) fun e w'' => e = .returned (.int .i64 0) ∧ ∃ p : Regrown, w'' = grow (redrawn v2 p.d) p.os := fun d os => Calls.regrown_of (HW1.out _)
  clear kTX0 kTX1 kTX2 kTX3 kTX4 kTX5
  refine wp_region_quiet_below (by kernel_rfl) (by kernel_rfl) ?_
  try simp only [List.append_eq, List.cons_append, List.nil_append]
  repeat (go_big_quiet_step (first | (with_reducible exact cN _ _ _) | (with_reducible exact cW _ _)))
  refine wpQuiet_nil ?_
  intro wq hwq
  obtain ⟨⟨dq, osq⟩, rfl⟩ := hwq
  have hb := below_regrown v2 dq osq
  have hv := HV.out.trans (hb.mono HV.out.size)
  have xTX := TX.out.below hb TX.out.lt
  have xTY := TY.out.below hb TY.out.lt
  have xTP := TP.out.below hb TP.out.lt
  generalize grow (redrawn v2 dq) osq = w5 at *
  clear hb HV TX TY TP rkTX0 rkTX1 rkTX2 rkTX3 rkTX4 rkTX5 cN cW
  have HV := Lib.hid hv
  have TX := Lib.hid xTX
  have TY := Lib.hid xTY
  have TP := Lib.hid xTP
  clear hv xTX xTY xTP
  have lTX := TX.out.lt
  have kTX0 := TX.out.cell 0
  have kTX1 := TX.out.cell 1
  have kTX2 := TX.out.cell 2
  have kTX3 := TX.out.cell 3
  have kTX4 := TX.out.cell 4
  have kTX5 := TX.out.cell 5
  have lTY := TY.out.lt
  have kTY0 := TY.out.cell 0
  have kTY1 := TY.out.cell 1
  have kTY2 := TY.out.cell 2
  have kTY3 := TY.out.cell 3
  have kTY4 := TY.out.cell 4
  have kTY5 := TY.out.cell 5
  have lTP := TP.out.lt
  have kTP0 := TP.out.cell 0
  have kTP1 := TP.out.cell 1
  simp only [List.getElem?_toArray, List.getElem?_cons_zero, List.getElem?_cons_succ] at kTX0 kTX1 kTX2 kTX3 kTX4 kTX5 kTY0 kTY1 kTY2 kTY3 kTY4 kTY5 kTP0 kTP1
  go_wp2_with fail
  refine (num4_any _ _).mono ?_
  rintro e wn6 ⟨rfl, rfl⟩
  go_wp2_with fail
  refine (HO.out _).mono ?_
  rintro e w7 ⟨rfl, hb⟩
  clear lTX lTY lTP kTX0 kTX1 kTX2 kTX3 kTX4 kTX5 kTY0 kTY1 kTY2 kTY3 kTY4 kTY5 kTP0 kTP1
  have hv := HV.out.trans (hb.mono HV.out.size)
  have xTX := TX.out.below hb TX.out.lt
  have xTY := TY.out.below hb TY.out.lt
  have xTP := TP.out.below hb TP.out.lt
  clear hb HV TX TY TP
  have HV := Lib.hid hv
  have TX := Lib.hid xTX
  have TY := Lib.hid xTY
  have TP := Lib.hid xTP
  clear hv xTX xTY xTP
  have lTX := TX.out.lt
  have kTX0 := TX.out.cell 0
  have kTX1 := TX.out.cell 1
  have kTX2 := TX.out.cell 2
  have kTX3 := TX.out.cell 3
  have kTX4 := TX.out.cell 4
  have kTX5 := TX.out.cell 5
  have lTY := TY.out.lt
  have kTY0 := TY.out.cell 0
  have kTY1 := TY.out.cell 1
  have kTY2 := TY.out.cell 2
  have kTY3 := TY.out.cell 3
  have kTY4 := TY.out.cell 4
  have kTY5 := TY.out.cell 5
  simp only [List.getElem?_toArray, List.getElem?_cons_zero, List.getElem?_cons_succ] at kTX0 kTX1 kTX2 kTX3 kTX4 kTX5 kTY0 kTY1 kTY2 kTY3 kTY4 kTY5
  go_wp2_with fail
  clear lTX lTY kTX0 kTX1 kTX2 kTX3 kTX4 kTX5 kTY0 kTY1 kTY2 kTY3 kTY4 kTY5
  have hv := HV.out
  have hv := hv.alloc hv.size (.cells #[.int .i64 2, .int .i64 t, .int .u32 a, .int .u32 m, .int .u32 0, .int .u32 k] 25)
  have xTX := (TX.out).alloc (.cells #[.int .i64 2, .int .i64 t, .int .u32 a, .int .u32 m, .int .u32 0, .int .u32 k] 25)
  have xTY := (TY.out).alloc (.cells #[.int .i64 2, .int .i64 t, .int .u32 a, .int .u32 m, .int .u32 0, .int .u32 k] 25)
  have xTP := (TP.out).alloc (.cells #[.int .i64 2, .int .i64 t, .int .u32 a, .int .u32 m, .int .u32 0, .int .u32 k] 25)
  have xTZ : Blk (w7.alloc (.cells #[.int .i64 2, .int .i64 t, .int .u32 a, .int .u32 m, .int .u32 0, .int .u32 k] 25)) (w7.heap.size) 25 #[.int .i64 2, .int .i64 t, .int .u32 a, .int .u32 m, .int .u32 0, .int .u32 k] := by
    have := Blk.new w7 25 #[.int .i64 2, .int .i64 t, .int .u32 a, .int .u32 m, .int .u32 0, .int .u32 k]
    simpa using this
  generalize hvv : (w7.alloc (.cells #[.int .i64 2, .int .i64 t, .int .u32 a, .int .u32 m, .int .u32 0, .int .u32 k] 25)) = v3 at *
  clear hvv
  generalize w7.heap.size = gTZ at *
  clear HV TX TY TP
  have HV := Lib.hid hv
  have TX := Lib.hid xTX
  have TY := Lib.hid xTY
  have TP := Lib.hid xTP
  have TZ := Lib.hid xTZ
  clear hv xTX xTY xTP xTZ
  refine (HP2.out _).mono ?_
  rintro e w8 ⟨rfl, hb⟩
  have hv := HV.out.trans (hb.mono HV.out.size)
  have xTX := TX.out.below hb TX.out.lt
  have xTY := TY.out.below hb TY.out.lt
  have xTP := TP.out.below hb TP.out.lt
  have xTZ := TZ.out.below hb TZ.out.lt
  clear hb HV TX TY TP TZ
  have HV := Lib.hid hv
  have TX := Lib.hid xTX
  have TY := Lib.hid xTY
  have TP := Lib.hid xTP
  have TZ := Lib.hid xTZ
  clear hv xTX xTY xTP xTZ
  go_wp2_with fail
  have hv := HV.out
  have hv := hv.alloc hv.size (.cells #[.int .u32 a', .int .i64 ql] 41)
  have xTX := (TX.out).alloc (.cells #[.int .u32 a', .int .i64 ql] 41)
  have xTY := (TY.out).alloc (.cells #[.int .u32 a', .int .i64 ql] 41)
  have xTP := (TP.out).alloc (.cells #[.int .u32 a', .int .i64 ql] 41)
  have xTZ := (TZ.out).alloc (.cells #[.int .u32 a', .int .i64 ql] 41)
  have xTQ : Blk (w8.alloc (.cells #[.int .u32 a', .int .i64 ql] 41)) (w8.heap.size) 41 #[.int .u32 a', .int .i64 ql] := by
    have := Blk.new w8 41 #[.int .u32 a', .int .i64 ql]
    simpa using this
  generalize hvv : (w8.alloc (.cells #[.int .u32 a', .int .i64 ql] 41)) = v4 at *
  clear hvv
  generalize w8.heap.size = gTQ at *
  clear HV TX TY TP TZ
  have HV := Lib.hid hv
  have TX := Lib.hid xTX
  have TY := Lib.hid xTY
  have TP := Lib.hid xTP
  have TZ := Lib.hid xTZ
  have TQ := Lib.hid xTQ
  clear hv xTX xTY xTP xTZ xTQ
  have HFV := Lib.hid (HF.out.below HV.out)
  have kTX0 := TX.out.cell 0
  have kTX1 := TX.out.cell 1
  have kTX2 := TX.out.cell 2
  have kTX3 := TX.out.cell 3
  have kTX4 := TX.out.cell 4
  have kTX5 := TX.out.cell 5
  have kTY0 := TY.out.cell 0
  have kTY1 := TY.out.cell 1
  have kTY2 := TY.out.cell 2
  have kTY3 := TY.out.cell 3
  have kTY4 := TY.out.cell 4
  have kTY5 := TY.out.cell 5
  have kTP0 := TP.out.cell 0
  have kTP1 := TP.out.cell 1
  have kTZ0 := TZ.out.cell 0
  have kTZ1 := TZ.out.cell 1
  have kTZ2 := TZ.out.cell 2
  have kTZ3 := TZ.out.cell 3
  have kTZ4 := TZ.out.cell 4
  have kTZ5 := TZ.out.cell 5
  have kTQ0 := TQ.out.cell 0
  have kTQ1 := TQ.out.cell 1
  simp only [List.getElem?_toArray, List.getElem?_cons_zero, List.getElem?_cons_succ] at kTX0 kTX1 kTX2 kTX3 kTX4 kTX5 kTY0 kTY1 kTY2 kTY3 kTY4 kTY5 kTP0 kTP1 kTZ0 kTZ1 kTZ2 kTZ3 kTZ4 kTZ5 kTQ0 kTQ1
  have rkTX0 := cell_regrown kTX0
  have rkTX1 := cell_regrown kTX1
  have rkTX2 := cell_regrown kTX2
  have rkTX3 := cell_regrown kTX3
  have rkTX4 := cell_regrown kTX4
  have rkTX5 := cell_regrown kTX5
  have rkTY0 := cell_regrown kTY0
  have rkTY1 := cell_regrown kTY1
  have rkTY2 := cell_regrown kTY2
  have rkTY3 := cell_regrown kTY3
  have rkTY4 := cell_regrown kTY4
  have rkTY5 := cell_regrown kTY5
  have rkTP0 := cell_regrown kTP0
  have rkTP1 := cell_regrown kTP1
  have rkTZ0 := cell_regrown kTZ0
  have rkTZ1 := cell_regrown kTZ1
  have rkTZ2 := cell_regrown kTZ2
  have rkTZ3 := cell_regrown kTZ3
  have rkTZ4 := cell_regrown kTZ4
  have rkTZ5 := cell_regrown kTZ5
  have rkTQ0 := cell_regrown kTQ0
  have rkTQ1 := cell_regrown kTQ1
  have cN : ∀ (n : Int) d os, Calls Tryd.prog 11 #[.int .i64 n] (grow (redrawn v4 d) os) fun e w'' => e = .returned (.int .i64 n) ∧ ∃ p : Regrown, w'' = grow (redrawn v4 p.d) p.os := fun n d os => Calls.regrown_of ((num4_any n _).mono fun _ _ ⟨he, hw⟩ => ⟨he, by rw [← hw]; exact Below.refl _ _⟩)
  have cY : ∀ d os, Calls Tryd.prog 8 #[] (grow (redrawn v4 d) os) fun e w'' => e = .returned (.bool true) ∧ ∃ p : Regrown, w'' = grow (redrawn v4 p.d) p.os := fun d os => Calls.regrown_of (HY0.out _ (HFV.out.below (below_regrown v4 d os)))
  clear kTX0 kTX1 kTX2 kTX3 kTX4 kTX5 kTY0 kTY1 kTY2 kTY3 kTY4 kTY5 kTP0 kTP1 kTZ0 kTZ1 kTZ2 kTZ3 kTZ4 kTZ5 kTQ0 kTQ1
  refine wp_region_quiet_below (by kernel_rfl) (by kernel_rfl) ?_
  try simp only [List.append_eq, List.cons_append, List.nil_append]
  repeat (go_big_quiet_step (first | (with_reducible exact cN _ _ _) | (with_reducible exact cY _ _)))
  refine wpQuiet_nil ?_
  intro wq hwq
  obtain ⟨⟨dq, osq⟩, rfl⟩ := hwq
  have hb := below_regrown v4 dq osq
  have hv := HV.out.trans (hb.mono HV.out.size)
  have xTX := TX.out.below hb TX.out.lt
  have xTY := TY.out.below hb TY.out.lt
  have xTP := TP.out.below hb TP.out.lt
  have xTZ := TZ.out.below hb TZ.out.lt
  have xTQ := TQ.out.below hb TQ.out.lt
  generalize grow (redrawn v4 dq) osq = w9 at *
  clear hb HV TX TY TP TZ TQ rkTX0 rkTX1 rkTX2 rkTX3 rkTX4 rkTX5 rkTY0 rkTY1 rkTY2 rkTY3 rkTY4 rkTY5 rkTP0 rkTP1 rkTZ0 rkTZ1 rkTZ2 rkTZ3 rkTZ4 rkTZ5 rkTQ0 rkTQ1 cN cY
  have HV := Lib.hid hv
  have TX := Lib.hid xTX
  have TY := Lib.hid xTY
  have TP := Lib.hid xTP
  have TZ := Lib.hid xTZ
  have TQ := Lib.hid xTQ
  clear hv xTX xTY xTP xTZ xTQ
  go_wp2_with fail
  go_ret
  exact ⟨rfl, HV.out⟩

theorem law04_holds (e g : Ent) (ho : e.Ok) (ho2 : g.Ok) (w : World) (hf : Fit3 w) :
    Calls Tryd.prog 7 #[entV e, entV g] w fun e w' => e = .returned (.bool true) ∧ Below w.heap.size w w' := by
  obtain ⟨f, t, a, m, n, k⟩ := e
  obtain ⟨f', t', a', m', n', k'⟩ := g
  by_cases hx : whyE ⟨f, t, a, m, n, k⟩ = 0
  · obtain ⟨q1, q2, -⟩ := good_is hx
    dsimp only at q1 q2
    subst q1 q2
    by_cases hy : whyE ⟨f', t', a', m', n', k'⟩ = 0
    · by_cases hne : a = a'
      · subst hne
        by_cases hr : rightE ⟨2, t, a, m, 0, k⟩ ∧ rightE ⟨f', t', a, m', n', k'⟩
        · exact law04_holds_r_geq t a m k f' t' m' n' k' ho ho2 hx hy hr.1 hr.2 w hf
        · exact law04_holds_n_geq t a m k f' t' m' n' k' ho ho2 hx hy hr w hf
      · by_cases hr : rightE ⟨2, t, a, m, 0, k⟩ ∧ rightE ⟨f', t', a', m', n', k'⟩
        · exact law04_holds_r_gne t a m k f' t' a' m' n' k' ho ho2 hx hy hne hr.1 hr.2 w hf
        · exact law04_holds_n_gne t a m k f' t' a' m' n' k' ho ho2 hx hy hne hr w hf
    · by_cases hr : rightE ⟨2, t, a, m, 0, k⟩ ∧ rightE ⟨f', t', a', m', n', k'⟩
      · exact law04_holds_r_gbad t a m k f' t' a' m' n' k' ho ho2 hx hy hr.1 hr.2 w hf
      · exact law04_holds_n_gbad t a m k f' t' a' m' n' k' ho ho2 hx hy hr w hf
  · by_cases hr : rightE ⟨f, t, a, m, n, k⟩ ∧ rightE ⟨f', t', a', m', n', k'⟩
    · exact law04_holds_r_b f t a m n k f' t' a' m' n' k' ho ho2 hx hr.1 hr.2 w hf
    · exact law04_holds_n_b f t a m n k f' t' a' m' n' k' ho ho2 hx hr w hf
end Go.Proofs.YtfbfdjcdjogefaaDoor
