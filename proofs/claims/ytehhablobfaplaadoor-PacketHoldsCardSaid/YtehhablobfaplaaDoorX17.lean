/- The walk of PacketEncodes (laid by tools/gen/x17.py). -/
import Derived.Test.YtehhablobfaplaaDoorX16
import Derived.Test.YtehhablobfaplaaDoorW8
namespace Go.Proofs.YtehhablobfaplaaDoor
open Go Go.RowKit Go.Shelf Go.Sort
attribute [local go_sem] Oper.semAt_some
attribute [local irreducible] wpQuiet

theorem refEnc_yes (c : Int) (A : Option Addr) (ca : Nat) (l : List Ent) (hn : l.length ≤ 1000) (ho : OkL l) (w : World) (hA : EntS w A l) (h0 : encNo ⟨c, l⟩ = 0) :
    Calls Tryd.prog 10 #[datV c A l.length ca] w fun e w' => (∃ v, e = .returned (.tuple #[v, .int .i64 0]) ∧ OwnB w.heap.size w' v (bytesD ⟨c, l⟩)) ∧ Below w.heap.size w w' :=
  (refEncode5_of (fun e ho hr W => refBytes4_any e ho hr W) c A ca l hn ho w hA).mono fun e w' ⟨h, hb⟩ => by
    unfold EncY at h
    rw [if_pos h0] at h
    exact ⟨h, hb⟩
theorem refEnc_no (c : Int) (A : Option Addr) (ca : Nat) (l : List Ent) (hn : l.length ≤ 1000) (ho : OkL l) (w : World) (hA : EntS w A l) (h0 : ¬ encNo ⟨c, l⟩ = 0) :
    Calls Tryd.prog 10 #[datV c A l.length ca] w fun e w' => e = .returned (.tuple #[.slice none 0 0, .int .i64 (encNo ⟨c, l⟩)]) ∧ Below w.heap.size w w' :=
  (refEncode5_of (fun e ho hr W => refBytes4_any e ho hr W) c A ca l hn ho w hA).mono fun e w' ⟨h, hb⟩ => by
    unfold EncY at h
    rw [if_neg h0] at h
    exact ⟨h, hb⟩
/-- A datagram's bytes are read back. -/
theorem decBack (c : Int) (l : List Ent) (h0 : encNo ⟨c, l⟩ = 0) (ho : OkL l) (p : Option Addr) (cc : Nat) (w : World) (hy : ByS w p (bytesD ⟨c, l⟩)) (hc : (bytesD ⟨c, l⟩).length ≤ cc) (hf : Fit3 w) :
    Calls Tryd.prog 14 #[.slice p (bytesD ⟨c, l⟩).length cc] w fun e w' => (∃ A k, e = .returned (.tuple #[.agg #[.int .i64 c, .slice A l.length k], .int .i64 0]) ∧ EntS w' A l) ∧ Below w.heap.size w w' := by
  obtain ⟨h1, h2, _⟩ := encNo_zero.1 h0
  dsimp only at h1 h2
  refine (decode5_any p cc _ (bytesD_is h1) (by rw [bytesD_len]; dsimp only; omega) hc w hy hf).mono ?_
  rintro e w' ⟨⟨v, rfl, h⟩, hb⟩
  rw [dec_enc h0 ho] at h ⊢
  rw [chk_bytesD h0]
  obtain ⟨A, k, rfl, _, hA⟩ := ownE_ents h
  exact ⟨⟨A, k, rfl, hA⟩, hb⟩
theorem refSame_self (c : Int) (A B : Option Addr) (ca cb : Nat) (l : List Ent) (hl : l.length ≤ 1000000) (w : World) (hA : EntS w A l) (hB : EntS w B l) :
    Calls Tryd.prog 15 #[datV c A l.length ca, datV c B l.length cb] w fun e w' => e = .returned (.bool true) ∧ Below w.heap.size w w' :=
  (refSame5_any c c A B ca cb l l hl hl w hA hB).mono fun e w' ⟨h, hb⟩ => ⟨by simpa using h, hb⟩


set_option maxRecDepth 1000000 in
set_option maxHeartbeats 6400000 in
theorem law05_enc_big (c : Int) (A : Option Addr) (ca : Nat) (l : List Ent) (ho : OkL l) (hl : 40 < l.length) (w : World) (hA : EntS w A l) (hf : Fit3 w) :
    Calls Tryd.prog 3 #[datV c A l.length ca] w fun e w' => e = .returned (.bool true) ∧ Below w.heap.size w w' := by
  have HF := Lib.hid hf
  have HA := Lib.hid hA
  have HO := Lib.hid ho
  have HY0 : Hid (∀ W, Fit3 W → Calls Tryd.prog 8 #[] W fun e w' => e = .returned (.bool true) ∧ Below W.heap.size W w') := yes5
  clear hf hA ho
  have nl : 40 < (l.length : Int) := by omega
  go_enter Tryd.func3, Tryd.ntmps3
  go_wp2_with fail
  have hv := Below.refl w.heap.size w
  have hv := hv.alloc hv.size (.cells #[.int .i64 c, .slice A l.length ca] 25)
  have xTX : Blk (w.alloc (.cells #[.int .i64 c, .slice A l.length ca] 25)) (w.heap.size) 25 #[.int .i64 c, .slice A l.length ca] := by
    have := Blk.new w 25 #[.int .i64 c, .slice A l.length ca]
    simpa using this
  generalize hvv : (w.alloc (.cells #[.int .i64 c, .slice A l.length ca] 25)) = v1 at *
  clear hvv
  have HV := Lib.hid hv
  have TX := Lib.hid xTX
  clear hv xTX
  have lTX := TX.out.lt
  have kTX0 := TX.out.cell 0
  have kTX1 := TX.out.cell 1
  simp only [List.getElem?_toArray, List.getElem?_cons_zero, List.getElem?_cons_succ] at kTX0 kTX1
  go_wp2_with fail
  refine (HY0.out _ (HF.out.below HV.out)).mono ?_
  rintro e w1 ⟨rfl, hb⟩
  clear lTX kTX0 kTX1
  have hv := HV.out.trans (hb.mono HV.out.size)
  have xTX := TX.out.below hb TX.out.lt
  clear hb HV TX
  have HV := Lib.hid hv
  have TX := Lib.hid xTX
  clear hv xTX
  go_wp2_with fail
  go_ret
  exact ⟨rfl, HV.out⟩

set_option maxRecDepth 1000000 in
set_option maxHeartbeats 6400000 in
theorem law05_enc_no (c : Int) (A : Option Addr) (ca : Nat) (l : List Ent) (ho : OkL l) (hl : l.length ≤ 40) (h0 : ¬ encNo ⟨c, l⟩ = 0) (w : World) (hA : EntS w A l) (hf : Fit3 w) :
    Calls Tryd.prog 3 #[datV c A l.length ca] w fun e w' => e = .returned (.bool true) ∧ Below w.heap.size w w' := by
  have HF := Lib.hid hf
  have HA := Lib.hid hA
  have HO := Lib.hid ho
  have HY0 : Hid (∀ W, Fit3 W → Calls Tryd.prog 8 #[] W fun e w' => e = .returned (.bool true) ∧ Below W.heap.size W w') := yes5
  clear hf hA ho
  have nl : ¬ 40 < (l.length : Int) := by omega
  have hE := fun W (h : EntS W A l) (hF : Fit3 W) => encode5_no c A ca l (by omega) HO.out W h hF h0
  have hR := fun W (h : EntS W A l) => refEnc_no c A ca l (by omega) HO.out W h h0
  have HE := Lib.hid hE
  have HR := Lib.hid hR
  clear hE hR
  have hAA := fun W (h : EntS W A l) => asksAll5_any c A ca l (by omega) W h
  have hAR := fun W (h : EntS W A l) => refAsksAll_any c A ca l W h
  generalize decide (c = 1 ∧ l = [allE]) = q at *
  have HAA := Lib.hid hAA
  have HAR := Lib.hid hAR
  clear hAA hAR
  generalize encNo ⟨c, l⟩ = no at *
  go_enter Tryd.func3, Tryd.ntmps3
  go_wp2_with fail
  have hv := Below.refl w.heap.size w
  have hv := hv.alloc hv.size (.cells #[.int .i64 c, .slice A l.length ca] 25)
  have xTX : Blk (w.alloc (.cells #[.int .i64 c, .slice A l.length ca] 25)) (w.heap.size) 25 #[.int .i64 c, .slice A l.length ca] := by
    have := Blk.new w 25 #[.int .i64 c, .slice A l.length ca]
    simpa using this
  generalize hvv : (w.alloc (.cells #[.int .i64 c, .slice A l.length ca] 25)) = v1 at *
  clear hvv
  have HV := Lib.hid hv
  have TX := Lib.hid xTX
  clear hv xTX
  have lTX := TX.out.lt
  have kTX0 := TX.out.cell 0
  have kTX1 := TX.out.cell 1
  simp only [List.getElem?_toArray, List.getElem?_cons_zero, List.getElem?_cons_succ] at kTX0 kTX1
  go_wp2_with fail
  refine (HE.out _ (HA.out.below HV.out) (HF.out.below HV.out)).mono ?_
  rintro e w1 ⟨rfl, hb⟩
  clear lTX kTX0 kTX1
  have hv := HV.out.trans (hb.mono HV.out.size)
  have xTX := TX.out.below hb TX.out.lt
  clear hb HV TX
  have HV := Lib.hid hv
  have TX := Lib.hid xTX
  clear hv xTX
  have lTX := TX.out.lt
  have kTX0 := TX.out.cell 0
  have kTX1 := TX.out.cell 1
  simp only [List.getElem?_toArray, List.getElem?_cons_zero, List.getElem?_cons_succ] at kTX0 kTX1
  go_wp2_with fail
  refine (HR.out _ (HA.out.below HV.out)).mono ?_
  rintro e w2 ⟨rfl, hb⟩
  clear lTX kTX0 kTX1
  have hv := HV.out.trans (hb.mono HV.out.size)
  have xTX := TX.out.below hb TX.out.lt
  clear hb HV TX
  have HV := Lib.hid hv
  have TX := Lib.hid xTX
  clear hv xTX
  have lTX := TX.out.lt
  have kTX0 := TX.out.cell 0
  have kTX1 := TX.out.cell 1
  simp only [List.getElem?_toArray, List.getElem?_cons_zero, List.getElem?_cons_succ] at kTX0 kTX1
  clear HE HR
  go_wp2_with fail
  have e3 : ∀ d os, Sem.run Tryd.prog (convert 27 9 (.slice none 0 0)) (grow (redrawn w2 d) os) = .ok (.string (strOfNums [])) (grow (redrawn w2 d) os) := fun d os => conv_bytes ((ByS.nil _ _).below (below_regrown w2 d os)) 0
  generalize strOfNums [] = st at *
  clear lTX kTX0 kTX1
  have kTX0 := TX.out.cell 0
  have kTX1 := TX.out.cell 1
  simp only [List.getElem?_toArray, List.getElem?_cons_zero, List.getElem?_cons_succ] at kTX0 kTX1
  have rkTX0 := cell_regrown kTX0
  have rkTX1 := cell_regrown kTX1
  have cN : ∀ (n : Int) d os, Calls Tryd.prog 11 #[.int .i64 n] (grow (redrawn w2 d) os) fun e w'' => e = .returned (.int .i64 n) ∧ ∃ p : Regrown, w'' = grow (redrawn w2 p.d) p.os := fun n d os => Calls.regrown_of ((num5_any n _).mono fun _ _ ⟨he, hw⟩ => ⟨he, by rw [← hw]; exact Below.refl _ _⟩)
  have cA : ∀ d os, Calls Tryd.prog 12 #[.agg #[.int .i64 c, .slice A l.length ca]] (grow (redrawn w2 d) os) fun e w'' => e = .returned (.bool q) ∧ ∃ p : Regrown, w'' = grow (redrawn w2 p.d) p.os := fun d os => Calls.regrown_of (HAA.out _ (HA.out.below (HV.out.trans ((below_regrown w2 d os).mono HV.out.size))))
  have cR : ∀ d os, Calls Tryd.prog 13 #[.agg #[.int .i64 c, .slice A l.length ca]] (grow (redrawn w2 d) os) fun e w'' => e = .returned (.bool q) ∧ ∃ p : Regrown, w'' = grow (redrawn w2 p.d) p.os := fun d os => Calls.regrown_of (HAR.out _ (HA.out.below (HV.out.trans ((below_regrown w2 d os).mono HV.out.size))))
  clear kTX0 kTX1
  refine wp_region_quiet_below (by kernel_rfl) (by kernel_rfl) ?_
  try simp only [List.append_eq, List.cons_append, List.nil_append]
  repeat (go_big_quiet_step (first | (with_reducible exact cN _ _ _) | (with_reducible exact cA _ _) | (with_reducible exact cR _ _)))
  refine wpQuiet_nil ?_
  intro wq hwq
  obtain ⟨⟨dq, osq⟩, rfl⟩ := hwq
  have hb := below_regrown w2 dq osq
  have hv := HV.out.trans (hb.mono HV.out.size)
  have xTX := TX.out.below hb TX.out.lt
  generalize grow (redrawn w2 dq) osq = w3 at *
  clear hb HV TX rkTX0 rkTX1 cN cA cR
  have HV := Lib.hid hv
  have TX := Lib.hid xTX
  clear hv xTX
  have lTX := TX.out.lt
  have kTX0 := TX.out.cell 0
  have kTX1 := TX.out.cell 1
  simp only [List.getElem?_toArray, List.getElem?_cons_zero, List.getElem?_cons_succ] at kTX0 kTX1
  go_wp2_with fail
  clear e3
  refine (HY0.out _ (HF.out.below HV.out)).mono ?_
  rintro e w4 ⟨rfl, hb⟩
  clear lTX kTX0 kTX1
  have hv := HV.out.trans (hb.mono HV.out.size)
  have xTX := TX.out.below hb TX.out.lt
  clear hb HV TX
  have HV := Lib.hid hv
  have TX := Lib.hid xTX
  clear hv xTX
  go_wp2_with fail
  go_ret
  exact ⟨rfl, HV.out⟩

set_option maxRecDepth 1000000 in
set_option maxHeartbeats 6400000 in
theorem law05_enc_yes (c : Int) (A : Option Addr) (ca : Nat) (l : List Ent) (ho : OkL l) (hl : l.length ≤ 40) (h0 : encNo ⟨c, l⟩ = 0) (w : World) (hA : EntS w A l) (hf : Fit3 w) :
    Calls Tryd.prog 3 #[datV c A l.length ca] w fun e w' => e = .returned (.bool true) ∧ Below w.heap.size w w' := by
  have HF := Lib.hid hf
  have HA := Lib.hid hA
  have HO := Lib.hid ho
  have HY0 : Hid (∀ W, Fit3 W → Calls Tryd.prog 8 #[] W fun e w' => e = .returned (.bool true) ∧ Below W.heap.size W w') := yes5
  clear hf hA ho
  have nl : ¬ 40 < (l.length : Int) := by omega
  have hE := fun W (h : EntS W A l) (hF : Fit3 W) => encode5_yes c A ca l (by omega) HO.out W h hF h0
  have hR := fun W (h : EntS W A l) => refEnc_yes c A ca l (by omega) HO.out W h h0
  have hD := fun p cc W (hy : ByS W p (bytesD ⟨c, l⟩)) (hc : (bytesD ⟨c, l⟩).length ≤ cc) (hF : Fit3 W) => decBack c l h0 HO.out p cc W hy hc hF
  have hN := bytesD_len ⟨c, l⟩
  dsimp only at hN
  generalize bytesD ⟨c, l⟩ = bs at *
  obtain ⟨M, hM⟩ : ∃ M : Int, IntKind.i64.wrap (20 * (l.length : Int)) = M := ⟨_, rfl⟩
  have hM2 : IntKind.i64.wrap (4 + M) = ((bs.length : Nat) : Int) := by
    rw [IntKind.wrap_i64] at hM ⊢
    omega
  have HE := Lib.hid hE
  have HR := Lib.hid hR
  have HD := Lib.hid hD
  have HS := Lib.hid (fun B cb W (h1 : EntS W B l) (h2 : EntS W A l) => refSame_self c B A cb ca l (by omega) W h1 h2)
  clear hE hR hD hN h0
  have hAA := fun W (h : EntS W A l) => asksAll5_any c A ca l (by omega) W h
  have hAR := fun W (h : EntS W A l) => refAsksAll_any c A ca l W h
  generalize decide (c = 1 ∧ l = [allE]) = q at *
  have HAA := Lib.hid hAA
  have HAR := Lib.hid hAR
  clear hAA hAR
  go_enter Tryd.func3, Tryd.ntmps3
  go_wp2_with fail
  have hv := Below.refl w.heap.size w
  have hv := hv.alloc hv.size (.cells #[.int .i64 c, .slice A l.length ca] 25)
  have xTX : Blk (w.alloc (.cells #[.int .i64 c, .slice A l.length ca] 25)) (w.heap.size) 25 #[.int .i64 c, .slice A l.length ca] := by
    have := Blk.new w 25 #[.int .i64 c, .slice A l.length ca]
    simpa using this
  generalize hvv : (w.alloc (.cells #[.int .i64 c, .slice A l.length ca] 25)) = v1 at *
  clear hvv
  have HV := Lib.hid hv
  have TX := Lib.hid xTX
  clear hv xTX
  have lTX := TX.out.lt
  have kTX0 := TX.out.cell 0
  have kTX1 := TX.out.cell 1
  simp only [List.getElem?_toArray, List.getElem?_cons_zero, List.getElem?_cons_succ] at kTX0 kTX1
  go_wp2_with fail
  refine (HE.out _ (HA.out.below HV.out) (HF.out.below HV.out)).mono ?_
  rintro e w1 ⟨⟨v, rfl, hob⟩, hb⟩
  clear lTX kTX0 kTX1
  have hv := HV.out.trans (hb.mono HV.out.size)
  have xTX := TX.out.below hb TX.out.lt
  clear hb HV TX
  have HV := Lib.hid hv
  have TX := Lib.hid xTX
  clear hv xTX
  obtain ⟨p1, c1, rfl, m1, y1, _⟩ := OwnB.byS hob
  have HY1 := Lib.hid y1
  have HM1 := Lib.hid m1
  clear hob y1 m1
  have lTX := TX.out.lt
  have kTX0 := TX.out.cell 0
  have kTX1 := TX.out.cell 1
  simp only [List.getElem?_toArray, List.getElem?_cons_zero, List.getElem?_cons_succ] at kTX0 kTX1
  go_wp2_with fail
  refine (HR.out _ (HA.out.below HV.out)).mono ?_
  rintro e w2 ⟨⟨v, rfl, hob⟩, hb⟩
  clear lTX kTX0 kTX1
  have hv := HV.out.trans (hb.mono HV.out.size)
  have xTX := TX.out.below hb TX.out.lt
  have yHY1 := HY1.out.below hb
  clear hb HV TX
  have HV := Lib.hid hv
  have TX := Lib.hid xTX
  clear hv xTX
  clear HY1
  have HY1 := Lib.hid yHY1
  clear yHY1
  obtain ⟨p2, c2, rfl, m2, y2, _⟩ := OwnB.byS hob
  have HY2 := Lib.hid y2
  clear hob y2 m2
  have lTX := TX.out.lt
  have kTX0 := TX.out.cell 0
  have kTX1 := TX.out.cell 1
  simp only [List.getElem?_toArray, List.getElem?_cons_zero, List.getElem?_cons_succ] at kTX0 kTX1
  clear HE HR
  go_wp2_with fail
  have e3 : ∀ d os, Sem.run Tryd.prog (convert 27 9 (.slice p1 bs.length c1)) (grow (redrawn w2 d) os) = .ok (.string (strOfNums bs)) (grow (redrawn w2 d) os) := fun d os => conv_bytes (HY1.out.below (below_regrown w2 d os)) c1
  have e4 : ∀ d os, Sem.run Tryd.prog (convert 27 9 (.slice p2 bs.length c2)) (grow (redrawn w2 d) os) = .ok (.string (strOfNums bs)) (grow (redrawn w2 d) os) := fun d os => conv_bytes (HY2.out.below (below_regrown w2 d os)) c2
  generalize strOfNums bs = st at *
  clear HY2
  clear lTX kTX0 kTX1
  have kTX0 := TX.out.cell 0
  have kTX1 := TX.out.cell 1
  simp only [List.getElem?_toArray, List.getElem?_cons_zero, List.getElem?_cons_succ] at kTX0 kTX1
  have rkTX0 := cell_regrown kTX0
  have rkTX1 := cell_regrown kTX1
  have cN : ∀ (n : Int) d os, Calls Tryd.prog 11 #[.int .i64 n] (grow (redrawn w2 d) os) fun e w'' => e = .returned (.int .i64 n) ∧ ∃ p : Regrown, w'' = grow (redrawn w2 p.d) p.os := fun n d os => Calls.regrown_of ((num5_any n _).mono fun _ _ ⟨he, hw⟩ => ⟨he, by rw [← hw]; exact Below.refl _ _⟩)
  have cA : ∀ d os, Calls Tryd.prog 12 #[.agg #[.int .i64 c, .slice A l.length ca]] (grow (redrawn w2 d) os) fun e w'' => e = .returned (.bool q) ∧ ∃ p : Regrown, w'' = grow (redrawn w2 p.d) p.os := fun d os => Calls.regrown_of (HAA.out _ (HA.out.below (HV.out.trans ((below_regrown w2 d os).mono HV.out.size))))
  have cR : ∀ d os, Calls Tryd.prog 13 #[.agg #[.int .i64 c, .slice A l.length ca]] (grow (redrawn w2 d) os) fun e w'' => e = .returned (.bool q) ∧ ∃ p : Regrown, w'' = grow (redrawn w2 p.d) p.os := fun d os => Calls.regrown_of (HAR.out _ (HA.out.below (HV.out.trans ((below_regrown w2 d os).mono HV.out.size))))
  clear kTX0 kTX1
  refine wp_region_quiet_below (by kernel_rfl) (by kernel_rfl) ?_
  try simp only [List.append_eq, List.cons_append, List.nil_append]
  repeat (go_big_quiet_step (first | (with_reducible exact cN _ _ _) | (with_reducible exact cA _ _) | (with_reducible exact cR _ _)))
  refine wpQuiet_nil ?_
  intro wq hwq
  obtain ⟨⟨dq, osq⟩, rfl⟩ := hwq
  have hb := below_regrown w2 dq osq
  have yHY1 := HY1.out.below hb
  have hv := HV.out.trans (hb.mono HV.out.size)
  have xTX := TX.out.below hb TX.out.lt
  generalize grow (redrawn w2 dq) osq = w3 at *
  clear hb HV TX rkTX0 rkTX1 cN cA cR
  have HV := Lib.hid hv
  have TX := Lib.hid xTX
  clear hv xTX
  clear HY1
  have HY1 := Lib.hid yHY1
  clear yHY1
  have lTX := TX.out.lt
  have kTX0 := TX.out.cell 0
  have kTX1 := TX.out.cell 1
  simp only [List.getElem?_toArray, List.getElem?_cons_zero, List.getElem?_cons_succ] at kTX0 kTX1
  go_wp2_with fail
  clear e3 e4
  refine (HD.out _ _ _ HY1.out HM1.out (HF.out.below HV.out)).mono ?_
  rintro e w4 ⟨⟨A3, k3, rfl, hE3⟩, hb⟩
  clear lTX kTX0 kTX1
  have hv := HV.out.trans (hb.mono HV.out.size)
  have xTX := TX.out.below hb TX.out.lt
  have yHY1 := HY1.out.below hb
  clear hb HV TX
  have HV := Lib.hid hv
  have TX := Lib.hid xTX
  clear hv xTX
  clear HY1
  have HY1 := Lib.hid yHY1
  clear yHY1
  have HE3 := Lib.hid hE3
  clear hE3 HY1
  go_upto_region 10 with fail
  have hbx := (Below.refl w4.heap.size w4).alloc (Nat.le_refl _) (.cells #[.int .i64 c, .slice A3 l.length k3] 25)
  have yHE3 := HE3.out.below hbx
  clear hbx
  have hv := HV.out
  have hv := hv.alloc hv.size (.cells #[.int .i64 c, .slice A3 l.length k3] 25)
  have xTX := (TX.out).alloc (.cells #[.int .i64 c, .slice A3 l.length k3] 25)
  have xTY : Blk (w4.alloc (.cells #[.int .i64 c, .slice A3 l.length k3] 25)) (w4.heap.size) 25 #[.int .i64 c, .slice A3 l.length k3] := by
    have := Blk.new w4 25 #[.int .i64 c, .slice A3 l.length k3]
    simpa using this
  generalize hvv : (w4.alloc (.cells #[.int .i64 c, .slice A3 l.length k3] 25)) = v2 at *
  clear hvv
  generalize w4.heap.size = gTY at *
  clear HV TX
  have HV := Lib.hid hv
  have TX := Lib.hid xTX
  have TY := Lib.hid xTY
  clear hv xTX xTY
  clear HE3
  have HE3 := Lib.hid yHE3
  clear yHE3
  have lTX := TX.out.lt
  have kTX0 := TX.out.cell 0
  have kTX1 := TX.out.cell 1
  have lTY := TY.out.lt
  have kTY0 := TY.out.cell 0
  have kTY1 := TY.out.cell 1
  simp only [List.getElem?_toArray, List.getElem?_cons_zero, List.getElem?_cons_succ] at kTX0 kTX1 kTY0 kTY1
  go_wp2_with fail
  refine (HS.out _ _ _ HE3.out (HA.out.below HV.out)).mono ?_
  rintro e w5 ⟨rfl, hb⟩
  clear lTX lTY kTX0 kTX1 kTY0 kTY1
  have hv := HV.out.trans (hb.mono HV.out.size)
  have xTX := TX.out.below hb TX.out.lt
  have xTY := TY.out.below hb TY.out.lt
  have yHE3 := HE3.out.below hb
  clear hb HV TX TY
  have HV := Lib.hid hv
  have TX := Lib.hid xTX
  have TY := Lib.hid xTY
  clear hv xTX xTY
  clear HE3
  have HE3 := Lib.hid yHE3
  clear yHE3
  have lTX := TX.out.lt
  have kTX0 := TX.out.cell 0
  have kTX1 := TX.out.cell 1
  have lTY := TY.out.lt
  have kTY0 := TY.out.cell 0
  have kTY1 := TY.out.cell 1
  simp only [List.getElem?_toArray, List.getElem?_cons_zero, List.getElem?_cons_succ] at kTX0 kTX1 kTY0 kTY1
  go_wp2_with fail
  refine (num5_any _ _).mono ?_
  rintro e wn6 ⟨rfl, rfl⟩
  go_wp2_with fail
  refine (HY0.out _ (HF.out.below HV.out)).mono ?_
  rintro e w7 ⟨rfl, hb⟩
  clear lTX lTY kTX0 kTX1 kTY0 kTY1
  have hv := HV.out.trans (hb.mono HV.out.size)
  have xTX := TX.out.below hb TX.out.lt
  have xTY := TY.out.below hb TY.out.lt
  have yHE3 := HE3.out.below hb
  clear hb HV TX TY
  have HV := Lib.hid hv
  have TX := Lib.hid xTX
  have TY := Lib.hid xTY
  clear hv xTX xTY
  clear HE3
  have HE3 := Lib.hid yHE3
  clear yHE3
  go_wp2_with fail
  go_ret
  exact ⟨rfl, HV.out⟩

theorem law05_encodes (c : Int) (A : Option Addr) (ca : Nat) (l : List Ent) (ho : OkL l) (w : World) (hA : EntS w A l) (hf : Fit3 w) :
    Calls Tryd.prog 3 #[datV c A l.length ca] w fun e w' => e = .returned (.bool true) ∧ Below w.heap.size w w' := by
  by_cases hl : l.length ≤ 40
  · by_cases h0 : encNo ⟨c, l⟩ = 0
    · exact law05_enc_yes c A ca l ho hl h0 w hA hf
    · exact law05_enc_no c A ca l ho hl h0 w hA hf
  · exact law05_enc_big c A ca l ho (by omega) w hA hf
end Go.Proofs.YtehhablobfaplaaDoor
