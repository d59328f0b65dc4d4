/- The walk of EntryBytes (laid by tools/gen/w17.py). -/
import Derived.Test.YtfbfdjcdjogefaaDoorW16
import Derived.Test.YtfbfdjcdjogefaaDoorW12
namespace Go.Proofs.YtfbfdjcdjogefaaDoor
open Go Go.RowKit Go.Sort
attribute [local go_sem] Oper.semAt_some
attribute [local irreducible] wpQuiet

theorem ByS.take {w : World} {p : Option Addr} {xs : List Int} (h : ByS w p xs) (k : Nat) : ByS w p (xs.take k) := fun h0 => by
  obtain ⟨b, o, e, hl, hcc⟩ := h (by rw [List.length_take] at h0; omega)
  refine ⟨b, o, e, hl, fun i hi => ?_⟩
  have hi' : i < xs.length := by rw [List.length_take] at hi; omega
  rw [hcc i hi']
  simp
/-- Bytes of what may be. -/
theorem bytesE_r {e : Ent} (ho : e.Ok) (hr : rightE e) {l : List Int} (hl : bytesE e = l) (w : World) (hf : Fit3 w) :
    Calls Tryd.prog 12 #[entV e] w fun r w' => (∃ p c, r = .returned (.tuple #[.slice p 20 c, .int .i64 0]) ∧ ByS w' p l) ∧ Below w.heap.size w w' := by
  refine (bytesE_c e ho w hf).mono ?_
  rintro r w' ⟨⟨p, l', c, z, rfl, h⟩, hb⟩
  obtain ⟨rfl, rfl, hy⟩ := h.ok hr
  rw [hl] at hy
  exact ⟨⟨p, c, rfl, hy⟩, hb⟩
theorem bytesE_w {e : Ent} (ho : e.Ok) (hr : ¬ rightE e) (w : World) (hf : Fit3 w) :
    Calls Tryd.prog 12 #[entV e] w fun r w' => r = .returned (.tuple #[.slice none 0 0, .int .i64 2]) ∧ Below w.heap.size w w' := by
  refine (bytes4_any e ho w hf).mono ?_
  rintro r w' ⟨h, hb⟩
  rw [if_neg hr] at h
  exact ⟨h, hb⟩


set_option maxRecDepth 1000000 in
set_option maxHeartbeats 6400000 in
theorem law04_bytes_lr (e : Ent) (ho : e.Ok) (p : Option Addr) (c : Nat) (xs : List Int) (hb : IsBytes xs) (hc : xs.length ≤ c) (hn : xs.length ≤ 60) (hl : 20 ≤ xs.length) (hr : rightE e) (w : World) (hx : ByS w p xs) (hf : Fit3 w) :
    Calls Tryd.prog 3 #[entV e, .slice p xs.length c] w fun e w' => e = .returned (.bool true) ∧ Below w.heap.size w w' := by
  have HF := Lib.hid hf
  have HX := Lib.hid hx
  have HBY := Lib.hid hb
  have HY0 : Hid (∀ W, Fit3 W → Calls Tryd.prog 8 #[] W fun e w' => e = .returned (.bool true) ∧ Below W.heap.size W w') := yes4
  have hR := fun W (hW : ByS W p xs) (hF : Fit3 W) => read4_any p c xs hb (by omega) hc W hW hF
  have hRR := fun W (hW : ByS W p xs) => refRead4_any p c xs hb (by omega) W hW
  obtain ⟨y1, y2, y3⟩ := bytes_readE hb hl
  have e1 : rdV xs = readE xs := if_pos hl
  have e2 : rdNo xs = 0 := if_pos hl
  rw [e1, e2] at hR hRR
  have hBY := fun W (hF : Fit3 W) => bytesE_r y3 y2 y1 W hF
  generalize readE xs = o at *
  obtain ⟨yf, yt, ya, ym, yn, yk⟩ := o
  have HBR := Lib.hid hBY
  clear hBY y1 y2 y3
  have l20 : ((xs.take 20).length) = 20 := by rw [List.length_take]; omega
  have HL20 := Lib.hid l20
  clear l20
  have HR := Lib.hid hR
  have HRR := Lib.hid hRR
  clear hR hRR e1 e2
  have HBX := Lib.hid (fun W (hF : Fit3 W) => bytesE_r ho hr rfl W hF)
  have HRB := Lib.hid (fun W => refBytes4_any e ho hr W)
  have hRT : ∀ W, Calls Tryd.prog 13 #[entV e] W fun r w' => r = .returned (.bool true) ∧ Below W.heap.size W w' := fun W => by
    have := refRight4_any e W
    rwa [decide_eq_true hr] at this
  have hu : rdV (bytesE e ++ xs) = e ∧ rdNo (bytesE e ++ xs) = 0 := by
    have h20 : 20 ≤ (bytesE e ++ xs).length := by rw [List.length_append, bytesE_len]; omega
    exact ⟨by unfold rdV; rw [if_pos h20]; exact read_bytesE hr ho xs, if_pos h20⟩
  have hU := fun q d W (hd : (bytesE e ++ xs).length ≤ d) (hW : ByS W q (bytesE e ++ xs)) (hF : Fit3 W) => read4_any q d (bytesE e ++ xs) ((bytesE_is e).app hb) (by rw [List.length_append, bytesE_len]; omega) hd W hW hF
  rw [hu.1, hu.2] at hU
  have hbl := bytesE_len e
  generalize bytesE e = bE at *
  have HU := Lib.hid hU
  have HBLN := Lib.hid hbl
  clear hu hU hbl
  have HRT := Lib.hid hRT
  clear hRT hf hx hb hr ho
  obtain ⟨f, t, a, m, n, k⟩ := e
  have nl : ¬ 60 < (xs.length : Int) := by omega
  go_enter Tryd.func3, Tryd.ntmps3
  go_wp2_with fail
  have hv := Below.refl w.heap.size w
  have hv := hv.alloc hv.size (.cells #[.int .i64 f, .int .i64 t, .int .u32 a, .int .u32 m, .int .u32 n, .int .u32 k] 25)
  have xTX : Blk (w.alloc (.cells #[.int .i64 f, .int .i64 t, .int .u32 a, .int .u32 m, .int .u32 n, .int .u32 k] 25)) (w.heap.size) 25 #[.int .i64 f, .int .i64 t, .int .u32 a, .int .u32 m, .int .u32 n, .int .u32 k] := by
    have := Blk.new w 25 #[.int .i64 f, .int .i64 t, .int .u32 a, .int .u32 m, .int .u32 n, .int .u32 k]
    simpa using this
  generalize hvv : (w.alloc (.cells #[.int .i64 f, .int .i64 t, .int .u32 a, .int .u32 m, .int .u32 n, .int .u32 k] 25)) = v1 at *
  clear hvv
  have HV := Lib.hid hv
  have TX := Lib.hid xTX
  clear hv xTX
  refine (HR.out _ (HX.out.below HV.out) (HF.out.below HV.out)).mono ?_
  rintro e w1 ⟨rfl, hb⟩
  have hv := HV.out.trans (hb.mono HV.out.size)
  have xTX := TX.out.below hb TX.out.lt
  clear hb HV TX
  have HV := Lib.hid hv
  have TX := Lib.hid xTX
  clear hv xTX
  go_wp2_with fail
  have hv := HV.out
  have hv := hv.alloc hv.size (.cells #[.int .i64 yf, .int .i64 yt, .int .u32 ya, .int .u32 ym, .int .u32 yn, .int .u32 yk] 25)
  have xTX := (TX.out).alloc (.cells #[.int .i64 yf, .int .i64 yt, .int .u32 ya, .int .u32 ym, .int .u32 yn, .int .u32 yk] 25)
  have xTY : Blk (w1.alloc (.cells #[.int .i64 yf, .int .i64 yt, .int .u32 ya, .int .u32 ym, .int .u32 yn, .int .u32 yk] 25)) (w1.heap.size) 25 #[.int .i64 yf, .int .i64 yt, .int .u32 ya, .int .u32 ym, .int .u32 yn, .int .u32 yk] := by
    have := Blk.new w1 25 #[.int .i64 yf, .int .i64 yt, .int .u32 ya, .int .u32 ym, .int .u32 yn, .int .u32 yk]
    simpa using this
  generalize hvv : (w1.alloc (.cells #[.int .i64 yf, .int .i64 yt, .int .u32 ya, .int .u32 ym, .int .u32 yn, .int .u32 yk] 25)) = v2 at *
  clear hvv
  generalize w1.heap.size = gTY at *
  clear HV TX
  have HV := Lib.hid hv
  have TX := Lib.hid xTX
  have TY := Lib.hid xTY
  clear hv xTX xTY
  refine (HRR.out _ (HX.out.below HV.out)).mono ?_
  rintro e w2 ⟨rfl, hb⟩
  have hv := HV.out.trans (hb.mono HV.out.size)
  have xTX := TX.out.below hb TX.out.lt
  have xTY := TY.out.below hb TY.out.lt
  clear hb HV TX TY
  have HV := Lib.hid hv
  have TX := Lib.hid xTX
  have TY := Lib.hid xTY
  clear hv xTX xTY
  have lTX := TX.out.lt
  have kTX0 := TX.out.cell 0
  have kTX1 := TX.out.cell 1
  have kTX2 := TX.out.cell 2
  have kTX3 := TX.out.cell 3
  have kTX4 := TX.out.cell 4
  have kTX5 := TX.out.cell 5
  have lTY := TY.out.lt
  have kTY0 := TY.out.cell 0
  have kTY1 := TY.out.cell 1
  have kTY2 := TY.out.cell 2
  have kTY3 := TY.out.cell 3
  have kTY4 := TY.out.cell 4
  have kTY5 := TY.out.cell 5
  simp only [List.getElem?_toArray, List.getElem?_cons_zero, List.getElem?_cons_succ] at kTX0 kTX1 kTX2 kTX3 kTX4 kTX5 kTY0 kTY1 kTY2 kTY3 kTY4 kTY5
  go_wp2_with fail
  clear lTX lTY kTX0 kTX1 kTX2 kTX3 kTX4 kTX5 kTY0 kTY1 kTY2 kTY3 kTY4 kTY5
  have hv := HV.out
  have hv := hv.alloc hv.size (.cells #[.int .i64 yf, .int .i64 yt, .int .u32 ya, .int .u32 ym, .int .u32 yn, .int .u32 yk] 25)
  have xTX := (TX.out).alloc (.cells #[.int .i64 yf, .int .i64 yt, .int .u32 ya, .int .u32 ym, .int .u32 yn, .int .u32 yk] 25)
  have xTY := (TY.out).alloc (.cells #[.int .i64 yf, .int .i64 yt, .int .u32 ya, .int .u32 ym, .int .u32 yn, .int .u32 yk] 25)
  have xTZ : Blk (w2.alloc (.cells #[.int .i64 yf, .int .i64 yt, .int .u32 ya, .int .u32 ym, .int .u32 yn, .int .u32 yk] 25)) (w2.heap.size) 25 #[.int .i64 yf, .int .i64 yt, .int .u32 ya, .int .u32 ym, .int .u32 yn, .int .u32 yk] := by
    have := Blk.new w2 25 #[.int .i64 yf, .int .i64 yt, .int .u32 ya, .int .u32 ym, .int .u32 yn, .int .u32 yk]
    simpa using this
  generalize hvv : (w2.alloc (.cells #[.int .i64 yf, .int .i64 yt, .int .u32 ya, .int .u32 ym, .int .u32 yn, .int .u32 yk] 25)) = v3 at *
  clear hvv
  generalize w2.heap.size = gTZ at *
  clear HV TX TY
  have HV := Lib.hid hv
  have TX := Lib.hid xTX
  have TY := Lib.hid xTY
  have TZ := Lib.hid xTZ
  clear hv xTX xTY xTZ
  have lTX := TX.out.lt
  have kTX0 := TX.out.cell 0
  have kTX1 := TX.out.cell 1
  have kTX2 := TX.out.cell 2
  have kTX3 := TX.out.cell 3
  have kTX4 := TX.out.cell 4
  have kTX5 := TX.out.cell 5
  have lTY := TY.out.lt
  have kTY0 := TY.out.cell 0
  have kTY1 := TY.out.cell 1
  have kTY2 := TY.out.cell 2
  have kTY3 := TY.out.cell 3
  have kTY4 := TY.out.cell 4
  have kTY5 := TY.out.cell 5
  simp only [List.getElem?_toArray, List.getElem?_cons_zero, List.getElem?_cons_succ] at kTX0 kTX1 kTX2 kTX3 kTX4 kTX5 kTY0 kTY1 kTY2 kTY3 kTY4 kTY5
  refine (num4_any _ _).mono ?_
  rintro e wn3 ⟨rfl, rfl⟩
  go_wp2_with fail
  refine (HBR.out _ (HF.out.below HV.out)).mono ?_
  rintro e w4 ⟨⟨p3, c3, rfl, hy3⟩, hb⟩
  clear lTX lTY kTX0 kTX1 kTX2 kTX3 kTX4 kTX5 kTY0 kTY1 kTY2 kTY3 kTY4 kTY5
  have hv := HV.out.trans (hb.mono HV.out.size)
  have xTX := TX.out.below hb TX.out.lt
  have xTY := TY.out.below hb TY.out.lt
  have xTZ := TZ.out.below hb TZ.out.lt
  clear hb HV TX TY TZ
  have HV := Lib.hid hv
  have TX := Lib.hid xTX
  have TY := Lib.hid xTY
  have TZ := Lib.hid xTZ
  clear hv xTX xTY xTZ
  have HY3 := Lib.hid hy3
  clear hy3
  obtain ⟨pb, po, hpe, _, _⟩ := HX.out (by omega)
  subst hpe
  have e3 : ∀ d os, Sem.run Tryd.prog (convert 26 9 (.slice p3 20 c3)) (grow (redrawn w4 d) os) = .ok (.string (strOfNums (xs.take 20))) (grow (redrawn w4 d) os) := fun d os => by
    have := conv_bytes (HY3.out.below (below_regrown w4 d os)) c3
    rwa [HL20.out] at this
  have e4 : ∀ d os, Sem.run Tryd.prog (convert 26 9 (.slice (some ⟨pb, po, none⟩) 20 c)) (grow (redrawn w4 d) os) = .ok (.string (strOfNums (xs.take 20))) (grow (redrawn w4 d) os) := fun d os => by
    have := conv_bytes (((HX.out.below HV.out).take 20).below (below_regrown w4 d os)) c
    rwa [HL20.out] at this
  have s0 : (20 : Int) ≤ (c : Int) := by omega
  have s1 : 20 ≤ c := by omega
  generalize strOfNums (xs.take 20) = st at *
  clear HY3
  go_wp2_with fail
  have cN : ∀ (n : Int) d os, Calls Tryd.prog 11 #[.int .i64 n] (grow (redrawn w4 d) os) fun e w'' => e = .returned (.int .i64 n) ∧ ∃ p : Regrown, w'' = grow (redrawn w4 p.d) p.os := fun n d os => Calls.regrown_of ((num4_any n _).mono fun _ _ ⟨he, hw⟩ => ⟨he, by rw [← hw]; exact Below.refl _ _⟩)
  refine wp_region_quiet_below (by kernel_rfl) (by kernel_rfl) ?_
  try simp only [List.append_eq, List.cons_append, List.nil_append]
  repeat (go_big_quiet_step (first | (with_reducible exact cN _ _ _)))
  refine wpQuiet_nil ?_
  intro wq hwq
  obtain ⟨⟨dq, osq⟩, rfl⟩ := hwq
  have hb := below_regrown w4 dq osq
  have hv := HV.out.trans (hb.mono HV.out.size)
  have xTX := TX.out.below hb TX.out.lt
  have xTY := TY.out.below hb TY.out.lt
  have xTZ := TZ.out.below hb TZ.out.lt
  generalize grow (redrawn w4 dq) osq = w5 at *
  clear hb HV TX TY TZ  cN
  have HV := Lib.hid hv
  have TX := Lib.hid xTX
  have TY := Lib.hid xTY
  have TZ := Lib.hid xTZ
  clear hv xTX xTY xTZ
  have lTX := TX.out.lt
  have kTX0 := TX.out.cell 0
  have kTX1 := TX.out.cell 1
  have kTX2 := TX.out.cell 2
  have kTX3 := TX.out.cell 3
  have kTX4 := TX.out.cell 4
  have kTX5 := TX.out.cell 5
  simp only [List.getElem?_toArray, List.getElem?_cons_zero, List.getElem?_cons_succ] at kTX0 kTX1 kTX2 kTX3 kTX4 kTX5
  go_wp2_with fail
  clear e3 e4 s0 s1
  refine (HBX.out _ (HF.out.below HV.out)).mono ?_
  rintro e w6 ⟨⟨p4, c4, rfl, hy4⟩, hb⟩
  clear lTX kTX0 kTX1 kTX2 kTX3 kTX4 kTX5
  have hv := HV.out.trans (hb.mono HV.out.size)
  have xTX := TX.out.below hb TX.out.lt
  have xTY := TY.out.below hb TY.out.lt
  have xTZ := TZ.out.below hb TZ.out.lt
  clear hb HV TX TY TZ
  have HV := Lib.hid hv
  have TX := Lib.hid xTX
  have TY := Lib.hid xTY
  have TZ := Lib.hid xTZ
  clear hv xTX xTY xTZ
  have HY4 := Lib.hid hy4
  clear hy4
  have lTX := TX.out.lt
  have kTX0 := TX.out.cell 0
  have kTX1 := TX.out.cell 1
  have kTX2 := TX.out.cell 2
  have kTX3 := TX.out.cell 3
  have kTX4 := TX.out.cell 4
  have kTX5 := TX.out.cell 5
  simp only [List.getElem?_toArray, List.getElem?_cons_zero, List.getElem?_cons_succ] at kTX0 kTX1 kTX2 kTX3 kTX4 kTX5
  go_wp2_with fail
  refine (HRT.out _).mono ?_
  rintro e w7 ⟨rfl, hb⟩
  clear lTX kTX0 kTX1 kTX2 kTX3 kTX4 kTX5
  have hv := HV.out.trans (hb.mono HV.out.size)
  have xTX := TX.out.below hb TX.out.lt
  have xTY := TY.out.below hb TY.out.lt
  have xTZ := TZ.out.below hb TZ.out.lt
  have yHY4 := HY4.out.below hb
  clear hb HV TX TY TZ
  have HV := Lib.hid hv
  have TX := Lib.hid xTX
  have TY := Lib.hid xTY
  have TZ := Lib.hid xTZ
  clear hv xTX xTY xTZ
  clear HY4
  have HY4 := Lib.hid yHY4
  clear yHY4
  have HHE : Hid (OwnB w7.heap.size (w7.alloc (.cells #[] 5)) (.slice (some ⟨w7.heap.size, 0, none⟩) 0 0) []) := World.ownsRow_made w7 #[] 0 (Nat.le_refl _) (Nat.zero_le _) (by simp)
  have HHW := Lib.hid (bigE w7 (.cells #[] 5))
  have HYA := Lib.hid (HY4.out.below HHW.out)
  have K1 : ([] : List Int).length + bE.length ≤ 1000000 := by have := HBLN.out; simp; omega
  have K2 : ([] ++ bE).length + xs.length ≤ 1000000 := by have := HBLN.out; simp; omega
  have hbs : Value.slice p4 20 c4 = .slice p4 bE.length c4 := by rw [HBLN.out]
  rw [hbs]
  clear hbs
  go_wp2_with (first | (at_builtin; refine wpList_app_bytes (v := .slice (some ⟨w7.heap.size, 0, none⟩) 0 0) (xs := []) (p := p4) (ys := bE) (c := c4) rfl _ _ rfl w7.heap.size rfl HHE.out rfl HYA.out K1 (by simp) ?_))
  intro v5 wa o5 g5 _
  have hba := own_below (by simp) HHW.out HHE.out g5
  have HBA := Lib.hid hba
  have HYB := Lib.hid ((HX.out.below HV.out).below hba)
  have HO5 := Lib.hid o5
  have l5 := hba.size
  simp only [List.nil_append] at K2
  clear g5 o5 hba HHE HHW HYA
  go_wp2_with (first | (at_builtin; refine wpList_app_bytes (v := v5) (xs := bE) (p := some ⟨pb, po, none⟩) (ys := xs) (c := c) rfl _ _ rfl w7.heap.size rfl HO5.out rfl HYB.out K2 l5 ?_))
  intro v6 wb o6 g6 _
  have hb6 := own_below l5 HBA.out HO5.out g6
  obtain ⟨p6, c6, rfl, m6, y6, _⟩ := OwnB.byS o6
  have HY6 := Lib.hid y6
  clear g6 o6 HO5 HBA HYB l5 K1 K2 y6
  generalize bE ++ xs = zs at *
  have hv := HV.out.trans (hb6.mono HV.out.size)
  have xTX := TX.out.below hb6 TX.out.lt
  have xTY := TY.out.below hb6 TY.out.lt
  have xTZ := TZ.out.below hb6 TZ.out.lt
  have yHY4 := HY4.out.below hb6
  clear HV TX TY TZ
  have HV := Lib.hid hv
  have TX := Lib.hid xTX
  have TY := Lib.hid xTY
  have TZ := Lib.hid xTZ
  clear hv xTX xTY xTZ
  clear HY4
  have HY4 := Lib.hid yHY4
  clear yHY4
  clear hb6
  go_wp2_with fail
  refine (HU.out p6 c6 _ m6 HY6.out (HF.out.below HV.out)).mono ?_
  rintro e w8 ⟨rfl, hb⟩
  have hv := HV.out.trans (hb.mono HV.out.size)
  have xTX := TX.out.below hb TX.out.lt
  have xTY := TY.out.below hb TY.out.lt
  have xTZ := TZ.out.below hb TZ.out.lt
  have yHY4 := HY4.out.below hb
  clear hb HV TX TY TZ
  have HV := Lib.hid hv
  have TX := Lib.hid xTX
  have TY := Lib.hid xTY
  have TZ := Lib.hid xTZ
  clear hv xTX xTY xTZ
  clear HY4
  have HY4 := Lib.hid yHY4
  clear yHY4
  go_wp2_with fail
  have hbx := (Below.refl w8.heap.size w8).alloc (Nat.le_refl _) (.cells #[.int .i64 f, .int .i64 t, .int .u32 a, .int .u32 m, .int .u32 n, .int .u32 k] 25)
  have yHY4 := HY4.out.below hbx
  clear hbx
  have hv := HV.out
  have hv := hv.alloc hv.size (.cells #[.int .i64 f, .int .i64 t, .int .u32 a, .int .u32 m, .int .u32 n, .int .u32 k] 25)
  have xTX := (TX.out).alloc (.cells #[.int .i64 f, .int .i64 t, .int .u32 a, .int .u32 m, .int .u32 n, .int .u32 k] 25)
  have xTY := (TY.out).alloc (.cells #[.int .i64 f, .int .i64 t, .int .u32 a, .int .u32 m, .int .u32 n, .int .u32 k] 25)
  have xTZ := (TZ.out).alloc (.cells #[.int .i64 f, .int .i64 t, .int .u32 a, .int .u32 m, .int .u32 n, .int .u32 k] 25)
  have xTU : Blk (w8.alloc (.cells #[.int .i64 f, .int .i64 t, .int .u32 a, .int .u32 m, .int .u32 n, .int .u32 k] 25)) (w8.heap.size) 25 #[.int .i64 f, .int .i64 t, .int .u32 a, .int .u32 m, .int .u32 n, .int .u32 k] := by
    have := Blk.new w8 25 #[.int .i64 f, .int .i64 t, .int .u32 a, .int .u32 m, .int .u32 n, .int .u32 k]
    simpa using this
  generalize hvv : (w8.alloc (.cells #[.int .i64 f, .int .i64 t, .int .u32 a, .int .u32 m, .int .u32 n, .int .u32 k] 25)) = v4 at *
  clear hvv
  generalize w8.heap.size = gTU at *
  clear HV TX TY TZ
  have HV := Lib.hid hv
  have TX := Lib.hid xTX
  have TY := Lib.hid xTY
  have TZ := Lib.hid xTZ
  have TU := Lib.hid xTU
  clear hv xTX xTY xTZ xTU
  clear HY4
  have HY4 := Lib.hid yHY4
  clear yHY4
  obtain ⟨sb, hsb⟩ : ∃ sb, strOfNums bE = sb := ⟨_, rfl⟩
  have hS : ∀ w', Below v4.heap.size v4 w' → w'.cell? ⟨w.heap.size, 0, none⟩ = some (.int .i64 f) ∧ w'.cell? ⟨w.heap.size, 1, none⟩ = some (.int .i64 t) ∧ w'.cell? ⟨w.heap.size, 2, none⟩ = some (.int .u32 a) ∧ w'.cell? ⟨w.heap.size, 3, none⟩ = some (.int .u32 m) ∧ w'.cell? ⟨w.heap.size, 4, none⟩ = some (.int .u32 n) ∧ w'.cell? ⟨w.heap.size, 5, none⟩ = some (.int .u32 k) ∧ w'.cell? ⟨gTU, 0, none⟩ = some (.int .i64 f) ∧ w'.cell? ⟨gTU, 1, none⟩ = some (.int .i64 t) ∧ w'.cell? ⟨gTU, 2, none⟩ = some (.int .u32 a) ∧ w'.cell? ⟨gTU, 3, none⟩ = some (.int .u32 m) ∧ w'.cell? ⟨gTU, 4, none⟩ = some (.int .u32 n) ∧ w'.cell? ⟨gTU, 5, none⟩ = some (.int .u32 k) ∧ (convert 26 9 (.slice p4 bE.length c4)).run Tryd.prog w' = .ok (.string sb) w' := fun w' hb => by
    have h1 := TX.out.below hb TX.out.lt
    have h2 := TU.out.below hb TU.out.lt
    have h3 := conv_bytes (HY4.out.below hb) c4
    rw [hsb] at h3
    exact ⟨h1.cell 0, h1.cell 1, h1.cell 2, h1.cell 3, h1.cell 4, h1.cell 5, h2.cell 0, h2.cell 1, h2.cell 2, h2.cell 3, h2.cell 4, h2.cell 5, h3⟩
  have HS := Lib.hid hS
  have HSB := Lib.hid hsb
  have HFW := Lib.hid (HF.out.below HV.out)
  clear hS hsb
  have hdrew := below_drew v4
  refine wp_region_noPanic ?_
  refine wp_region_held_drew (S := fun w' => w'.cell? ⟨w.heap.size, 0, none⟩ = some (.int .i64 f) ∧ w'.cell? ⟨w.heap.size, 1, none⟩ = some (.int .i64 t) ∧ w'.cell? ⟨w.heap.size, 2, none⟩ = some (.int .u32 a) ∧ w'.cell? ⟨w.heap.size, 3, none⟩ = some (.int .u32 m) ∧ w'.cell? ⟨w.heap.size, 4, none⟩ = some (.int .u32 n) ∧ w'.cell? ⟨w.heap.size, 5, none⟩ = some (.int .u32 k) ∧ w'.cell? ⟨gTU, 0, none⟩ = some (.int .i64 f) ∧ w'.cell? ⟨gTU, 1, none⟩ = some (.int .i64 t) ∧ w'.cell? ⟨gTU, 2, none⟩ = some (.int .u32 a) ∧ w'.cell? ⟨gTU, 3, none⟩ = some (.int .u32 m) ∧ w'.cell? ⟨gTU, 4, none⟩ = some (.int .u32 n) ∧ w'.cell? ⟨gTU, 5, none⟩ = some (.int .u32 k) ∧ (convert 26 9 (.slice p4 bE.length c4)).run Tryd.prog w' = .ok (.string sb) w') (by kernel_rfl) (HS.out _ hdrew) ?_
  intro hS0
  refine wpAnyH_take (i := 0) (v := ?v1) (by rw [List.getElem?_toArray]; exact rfl) (by kernel_rfl) (by kernel_rfl) (by kernel_rfl) (fun _ _ _ h => h) (Or.inl ⟨by rfl, ?hy1⟩) (by assumption) ?rest1
  case hy1 => intro w hSw; (try dsimp only at hSw); go_simp; (try with_reducible rfl)
  try simp only [Act.put, List.setIfInBounds_toArray, List.set_cons_zero, List.set_cons_succ]
  refine wpAnyH_take (i := 1) (v := ?v2) (by rw [List.getElem?_toArray]; exact rfl) (by kernel_rfl) (by kernel_rfl) (by kernel_rfl) (fun _ _ _ h => h) (Or.inl ⟨by rfl, ?hy2⟩) (by assumption) ?rest2
  case hy2 => intro w hSw; (try dsimp only at hSw); go_simp; (try with_reducible rfl)
  try simp only [Act.put, List.setIfInBounds_toArray, List.set_cons_zero, List.set_cons_succ]
  refine wpAnyH_take (i := 2) (v := ?v3) (by rw [List.getElem?_toArray]; exact rfl) (by kernel_rfl) (by kernel_rfl) (by kernel_rfl) (fun _ _ _ h => h) (Or.inl ⟨by rfl, ?hy3⟩) (by assumption) ?rest3
  case hy3 => intro w hSw; (try dsimp only at hSw); go_simp; (try with_reducible rfl)
  try simp only [Act.put, List.setIfInBounds_toArray, List.set_cons_zero, List.set_cons_succ]
  refine ready_call (i := 3) (by kernel_rfl) (by rw [List.getElem?_toArray]; exact rfl) (by kernel_rfl) (fun K1 hK1 => ?_)
  go_simp
  refine (HRB.out _).mono ?_
  rintro r wc ⟨v7, rfl, ho7, hb7⟩
  have hb8 := below_call hdrew hb7
  obtain ⟨p7, c7, rfl, _, hy7, _⟩ := OwnB.byS ho7
  have HY7 := Lib.hid hy7
  clear ho7 hy7 hb7
  refine hK1.out _ _ (HS.out _ hb8) (fun hS1 => ?_)
  clear hK1 K1
  try simp only [Act.put, List.setIfInBounds_toArray, List.set_cons_zero, List.set_cons_succ]
  have hS2 : ∀ w', Below wc.heap.size wc w' → (w'.cell? ⟨w.heap.size, 0, none⟩ = some (.int .i64 f) ∧ w'.cell? ⟨w.heap.size, 1, none⟩ = some (.int .i64 t) ∧ w'.cell? ⟨w.heap.size, 2, none⟩ = some (.int .u32 a) ∧ w'.cell? ⟨w.heap.size, 3, none⟩ = some (.int .u32 m) ∧ w'.cell? ⟨w.heap.size, 4, none⟩ = some (.int .u32 n) ∧ w'.cell? ⟨w.heap.size, 5, none⟩ = some (.int .u32 k) ∧ w'.cell? ⟨gTU, 0, none⟩ = some (.int .i64 f) ∧ w'.cell? ⟨gTU, 1, none⟩ = some (.int .i64 t) ∧ w'.cell? ⟨gTU, 2, none⟩ = some (.int .u32 a) ∧ w'.cell? ⟨gTU, 3, none⟩ = some (.int .u32 m) ∧ w'.cell? ⟨gTU, 4, none⟩ = some (.int .u32 n) ∧ w'.cell? ⟨gTU, 5, none⟩ = some (.int .u32 k) ∧ (convert 26 9 (.slice p4 bE.length c4)).run Tryd.prog w' = .ok (.string sb) w') ∧ (convert 26 9 (.slice p7 bE.length c7)).run Tryd.prog w' = .ok (.string sb) w' := fun w' hb => ⟨HS.out _ (below_call hb8 hb), by
    have h3 := conv_bytes (HY7.out.below hb) c7
    rwa [HSB.out] at h3⟩
  have HS2 := Lib.hid hS2
  clear hS2 hS0 hS1
  refine wpAnyH_mono (S' := fun w' => (w'.cell? ⟨w.heap.size, 0, none⟩ = some (.int .i64 f) ∧ w'.cell? ⟨w.heap.size, 1, none⟩ = some (.int .i64 t) ∧ w'.cell? ⟨w.heap.size, 2, none⟩ = some (.int .u32 a) ∧ w'.cell? ⟨w.heap.size, 3, none⟩ = some (.int .u32 m) ∧ w'.cell? ⟨w.heap.size, 4, none⟩ = some (.int .u32 n) ∧ w'.cell? ⟨w.heap.size, 5, none⟩ = some (.int .u32 k) ∧ w'.cell? ⟨gTU, 0, none⟩ = some (.int .i64 f) ∧ w'.cell? ⟨gTU, 1, none⟩ = some (.int .i64 t) ∧ w'.cell? ⟨gTU, 2, none⟩ = some (.int .u32 a) ∧ w'.cell? ⟨gTU, 3, none⟩ = some (.int .u32 m) ∧ w'.cell? ⟨gTU, 4, none⟩ = some (.int .u32 n) ∧ w'.cell? ⟨gTU, 5, none⟩ = some (.int .u32 k) ∧ (convert 26 9 (.slice p4 bE.length c4)).run Tryd.prog w' = .ok (.string sb) w') ∧ (convert 26 9 (.slice p7 bE.length c7)).run Tryd.prog w' = .ok (.string sb) w') (fun W h => h.1) _ _ _ _ ?_
  have hT0 := HS2.out wc (Below.refl _ _)
  refine wpAnyH_take (i := 4) (v := ?v4) (by rw [List.getElem?_toArray]; exact rfl) (by kernel_rfl) (by kernel_rfl) (by kernel_rfl) (fun _ _ _ h => h) (Or.inl ⟨by rfl, ?hy4⟩) (by assumption) ?rest4
  case hy4 => intro w hSw; (try dsimp only at hSw); go_simp; (try with_reducible rfl)
  try simp only [Act.put, List.setIfInBounds_toArray, List.set_cons_zero, List.set_cons_succ]
  refine wpAnyH_take (i := 5) (v := ?v5) (by rw [List.getElem?_toArray]; exact rfl) (by kernel_rfl) (by kernel_rfl) (by kernel_rfl) (fun _ _ _ h => h) (Or.inl ⟨by rfl, ?hy5⟩) (by assumption) ?rest5
  case hy5 => intro w hSw; (try dsimp only at hSw); go_simp; (try with_reducible rfl)
  try simp only [Act.put, List.setIfInBounds_toArray, List.set_cons_zero, List.set_cons_succ]
  refine wpAnyH_take (i := 6) (v := ?v6) (by rw [List.getElem?_toArray]; exact rfl) (by kernel_rfl) (by kernel_rfl) (by kernel_rfl) (fun _ _ _ h => h) (Or.inl ⟨by rfl, ?hy6⟩) (by assumption) ?rest6
  case hy6 => intro w hSw; (try dsimp only at hSw); go_simp; (try with_reducible rfl)
  try simp only [Act.put, List.setIfInBounds_toArray, List.set_cons_zero, List.set_cons_succ]
  refine wpAnyH_take (i := 7) (v := ?v7) (by rw [List.getElem?_toArray]; exact rfl) (by kernel_rfl) (by kernel_rfl) (by kernel_rfl) (fun _ _ _ h => h) (Or.inl ⟨by rfl, ?hy7⟩) (by assumption) ?rest7
  case hy7 => intro w hSw; (try dsimp only at hSw); go_simp; (try with_reducible rfl)
  try simp only [Act.put, List.setIfInBounds_toArray, List.set_cons_zero, List.set_cons_succ]
  refine wpAnyH_take (i := 8) (v := ?v8) (by rw [List.getElem?_toArray]; exact rfl) (by kernel_rfl) (by kernel_rfl) (by kernel_rfl) (fun _ _ _ h => h) (Or.inl ⟨by rfl, ?hy8⟩) (by assumption) ?rest8
  case hy8 => intro w hSw; (try dsimp only at hSw); go_simp; (try with_reducible rfl)
  try simp only [Act.put, List.setIfInBounds_toArray, List.set_cons_zero, List.set_cons_succ]
  refine wpAnyH_take (i := 9) (v := ?v9) (by rw [List.getElem?_toArray]; exact rfl) (by kernel_rfl) (by kernel_rfl) (by kernel_rfl) (fun _ _ _ h => h) (Or.inl ⟨by rfl, ?hy9⟩) (by assumption) ?rest9
  case hy9 => intro w hSw; (try dsimp only at hSw); go_simp; (try with_reducible rfl)
  try simp only [Act.put, List.setIfInBounds_toArray, List.set_cons_zero, List.set_cons_succ]
  refine wpAnyH_take (i := 10) (v := ?v10) (by rw [List.getElem?_toArray]; exact rfl) (by kernel_rfl) (by kernel_rfl) (by kernel_rfl) (fun _ _ _ h => h) (Or.inl ⟨by rfl, ?hy10⟩) (by assumption) ?rest10
  case hy10 => intro w hSw; (try dsimp only at hSw); go_simp; (try with_reducible rfl)
  try simp only [Act.put, List.setIfInBounds_toArray, List.set_cons_zero, List.set_cons_succ]
  refine wpAnyH_take (i := 11) (v := ?v11) (by rw [List.getElem?_toArray]; exact rfl) (by kernel_rfl) (by kernel_rfl) (by kernel_rfl) (fun _ _ _ h => h) (Or.inl ⟨by rfl, ?hy11⟩) (by assumption) ?rest11
  case hy11 => intro w hSw; (try dsimp only at hSw); go_simp; (try with_reducible rfl)
  try simp only [Act.put, List.setIfInBounds_toArray, List.set_cons_zero, List.set_cons_succ]
  refine wpAnyH_take (i := 12) (v := ?v12) (by rw [List.getElem?_toArray]; exact rfl) (by kernel_rfl) (by kernel_rfl) (by kernel_rfl) (fun _ _ _ h => h) (Or.inl ⟨by rfl, ?hy12⟩) (by assumption) ?rest12
  case hy12 => intro w hSw; (try dsimp only at hSw); go_simp; (try with_reducible rfl)
  try simp only [Act.put, List.setIfInBounds_toArray, List.set_cons_zero, List.set_cons_succ]
  refine wpAnyH_take (i := 14) (v := ?v13) (by rw [List.getElem?_toArray]; exact rfl) (by kernel_rfl) (by kernel_rfl) (by kernel_rfl) (fun _ _ _ h => h) (Or.inl ⟨by rfl, ?hy13⟩) (by assumption) ?rest13
  case hy13 => intro w hSw; (try dsimp only at hSw); go_simp; (try with_reducible rfl)
  try simp only [Act.put, List.setIfInBounds_toArray, List.set_cons_zero, List.set_cons_succ]
  refine ready_call (i := 13) (by kernel_rfl) (by rw [List.getElem?_toArray]; exact rfl) (by kernel_rfl) (fun K1 hK1 => ?_)
  go_simp
  refine (num4_any _ _).mono ?_
  rintro r wd ⟨rfl, rfl⟩
  refine hK1.out _ _ (HS2.out _ (Below.refl _ _)) (fun hT1 => ?_)
  clear hK1 K1
  try simp only [Act.put, List.setIfInBounds_toArray, List.set_cons_zero, List.set_cons_succ]
  refine ready_call (i := 15) (by kernel_rfl) (by rw [List.getElem?_toArray]; exact rfl) (by kernel_rfl) (fun K1 hK1 => ?_)
  go_simp
  refine (num4_any _ _).mono ?_
  rintro r wd ⟨rfl, rfl⟩
  refine hK1.out _ _ (HS2.out _ (Below.refl _ _)) (fun hT2 => ?_)
  clear hK1 K1
  try simp only [Act.put, List.setIfInBounds_toArray, List.set_cons_zero, List.set_cons_succ]
  refine wpAnyH_take (i := 16) (v := ?v14) (by rw [List.getElem?_toArray]; exact rfl) (by kernel_rfl) (by kernel_rfl) (by kernel_rfl) (fun _ _ _ h => h) (Or.inl ⟨by rfl, ?hy14⟩) (by assumption) ?rest14
  case hy14 => intro w hSw; (try dsimp only at hSw); go_simp; (try with_reducible rfl)
  try simp only [Act.put, List.setIfInBounds_toArray, List.set_cons_zero, List.set_cons_succ]
  refine wpAnyH_take (i := 17) (v := ?v15) (by rw [List.getElem?_toArray]; exact rfl) (by kernel_rfl) (by kernel_rfl) (by kernel_rfl) (fun _ _ _ h => h) (Or.inl ⟨by rfl, ?hy15⟩) (by assumption) ?rest15
  case hy15 => intro w hSw; (try dsimp only at hSw); go_simp; (try with_reducible rfl)
  try simp only [Act.put, List.setIfInBounds_toArray, List.set_cons_zero, List.set_cons_succ]
  refine wpAnyH_take (i := 18) (v := ?v16) (by rw [List.getElem?_toArray]; exact rfl) (by kernel_rfl) (by kernel_rfl) (by kernel_rfl) (fun _ _ _ h => h) (Or.inl ⟨by rfl, ?hy16⟩) (by assumption) ?rest16
  case hy16 => intro w hSw; (try dsimp only at hSw); go_simp; (try with_reducible rfl)
  try simp only [Act.put, List.setIfInBounds_toArray, List.set_cons_zero, List.set_cons_succ]
  refine wpAnyH_take (i := 19) (v := ?v17) (by rw [List.getElem?_toArray]; exact rfl) (by kernel_rfl) (by kernel_rfl) (by kernel_rfl) (fun _ _ _ h => h) (Or.inl ⟨by rfl, ?hy17⟩) (by assumption) ?rest17
  case hy17 => intro w hSw; (try dsimp only at hSw); go_simp; (try with_reducible rfl)
  try simp only [Act.put, List.setIfInBounds_toArray, List.set_cons_zero, List.set_cons_succ]
  refine ready_call (i := 20) (by kernel_rfl) (by rw [List.getElem?_toArray]; exact rfl) (by kernel_rfl) (fun K1 hK1 => ?_)
  go_simp
  refine (HY0.out _ (HFW.out.below hb8)).mono ?_
  rintro r we ⟨rfl, hb9⟩
  refine hK1.out _ _ (HS2.out _ hb9) (fun hT3 => ?_)
  clear hK1 K1
  try simp only [Act.put, List.setIfInBounds_toArray, List.set_cons_zero, List.set_cons_succ]
  refine wpAnyH_take (i := 21) (v := ?v18) (by rw [List.getElem?_toArray]; exact rfl) (by kernel_rfl) (by kernel_rfl) (by kernel_rfl) (fun _ _ _ h => h) (Or.inl ⟨by rfl, ?hy18⟩) (by assumption) ?rest18
  case hy18 => intro w hSw; (try dsimp only at hSw); go_simp; (try with_reducible rfl)
  try simp only [Act.put, List.setIfInBounds_toArray, List.set_cons_zero, List.set_cons_succ]
  refine wpAnyH_take (i := 22) (v := ?v19) (by rw [List.getElem?_toArray]; exact rfl) (by kernel_rfl) (by kernel_rfl) (by kernel_rfl) (fun _ _ _ h => h) (Or.inl ⟨by rfl, ?hy19⟩) (by assumption) ?rest19
  case hy19 => intro w hSw; (try dsimp only at hSw); go_simp; (try with_reducible rfl)
  try simp only [Act.put, List.setIfInBounds_toArray, List.set_cons_zero, List.set_cons_succ]
  refine wpAnyH_done (by kernel_rfl) ?_ _
  refine NoPanic.normal ?_
  have HBF := Lib.hid (HV.out.trans ((below_call hb8 hb9).mono HV.out.size))
  clear hT0 hT1 hT2 hT3 hb9 hb8 HS HS2
  go_wp2_with fail
  go_ret
  exact ⟨rfl, HBF.out⟩

set_option maxRecDepth 1000000 in
set_option maxHeartbeats 6400000 in
theorem law04_bytes_lw (e : Ent) (ho : e.Ok) (p : Option Addr) (c : Nat) (xs : List Int) (hb : IsBytes xs) (hc : xs.length ≤ c) (hn : xs.length ≤ 60) (hl : 20 ≤ xs.length) (hr : ¬ rightE e) (w : World) (hx : ByS w p xs) (hf : Fit3 w) :
    Calls Tryd.prog 3 #[entV e, .slice p xs.length c] w fun e w' => e = .returned (.bool true) ∧ Below w.heap.size w w' := by
  have HF := Lib.hid hf
  have HX := Lib.hid hx
  have HBY := Lib.hid hb
  have HY0 : Hid (∀ W, Fit3 W → Calls Tryd.prog 8 #[] W fun e w' => e = .returned (.bool true) ∧ Below W.heap.size W w') := yes4
  have hR := fun W (hW : ByS W p xs) (hF : Fit3 W) => read4_any p c xs hb (by omega) hc W hW hF
  have hRR := fun W (hW : ByS W p xs) => refRead4_any p c xs hb (by omega) W hW
  obtain ⟨y1, y2, y3⟩ := bytes_readE hb hl
  have e1 : rdV xs = readE xs := if_pos hl
  have e2 : rdNo xs = 0 := if_pos hl
  rw [e1, e2] at hR hRR
  have hBY := fun W (hF : Fit3 W) => bytesE_r y3 y2 y1 W hF
  generalize readE xs = o at *
  obtain ⟨yf, yt, ya, ym, yn, yk⟩ := o
  have HBR := Lib.hid hBY
  clear hBY y1 y2 y3
  have l20 : ((xs.take 20).length) = 20 := by rw [List.length_take]; omega
  have HL20 := Lib.hid l20
  clear l20
  have HR := Lib.hid hR
  have HRR := Lib.hid hRR
  clear hR hRR e1 e2
  have HBX := Lib.hid (fun W (hF : Fit3 W) => bytesE_w ho hr W hF)
  have hRT : ∀ W, Calls Tryd.prog 13 #[entV e] W fun r w' => r = .returned (.bool false) ∧ Below W.heap.size W w' := fun W => by
    have := refRight4_any e W
    rwa [decide_eq_false hr] at this
  have HRT := Lib.hid hRT
  clear hRT hf hx hb hr ho
  obtain ⟨f, t, a, m, n, k⟩ := e
  have nl : ¬ 60 < (xs.length : Int) := by omega
  go_enter Tryd.func3, Tryd.ntmps3
  go_wp2_with fail
  have hv := Below.refl w.heap.size w
  have hv := hv.alloc hv.size (.cells #[.int .i64 f, .int .i64 t, .int .u32 a, .int .u32 m, .int .u32 n, .int .u32 k] 25)
  have xTX : Blk (w.alloc (.cells #[.int .i64 f, .int .i64 t, .int .u32 a, .int .u32 m, .int .u32 n, .int .u32 k] 25)) (w.heap.size) 25 #[.int .i64 f, .int .i64 t, .int .u32 a, .int .u32 m, .int .u32 n, .int .u32 k] := by
    have := Blk.new w 25 #[.int .i64 f, .int .i64 t, .int .u32 a, .int .u32 m, .int .u32 n, .int .u32 k]
    simpa using this
  generalize hvv : (w.alloc (.cells #[.int .i64 f, .int .i64 t, .int .u32 a, .int .u32 m, .int .u32 n, .int .u32 k] 25)) = v1 at *
  clear hvv
  have HV := Lib.hid hv
  have TX := Lib.hid xTX
  clear hv xTX
  refine (HR.out _ (HX.out.below HV.out) (HF.out.below HV.out)).mono ?_
  rintro e w1 ⟨rfl, hb⟩
  have hv := HV.out.trans (hb.mono HV.out.size)
  have xTX := TX.out.below hb TX.out.lt
  clear hb HV TX
  have HV := Lib.hid hv
  have TX := Lib.hid xTX
  clear hv xTX
  go_wp2_with fail
  have hv := HV.out
  have hv := hv.alloc hv.size (.cells #[.int .i64 yf, .int .i64 yt, .int .u32 ya, .int .u32 ym, .int .u32 yn, .int .u32 yk] 25)
  have xTX := (TX.out).alloc (.cells #[.int .i64 yf, .int .i64 yt, .int .u32 ya, .int .u32 ym, .int .u32 yn, .int .u32 yk] 25)
  have xTY : Blk (w1.alloc (.cells #[.int .i64 yf, .int .i64 yt, .int .u32 ya, .int .u32 ym, .int .u32 yn, .int .u32 yk] 25)) (w1.heap.size) 25 #[.int .i64 yf, .int .i64 yt, .int .u32 ya, .int .u32 ym, .int .u32 yn, .int .u32 yk] := by
    have := Blk.new w1 25 #[.int .i64 yf, .int .i64 yt, .int .u32 ya, .int .u32 ym, .int .u32 yn, .int .u32 yk]
    simpa using this
  generalize hvv : (w1.alloc (.cells #[.int .i64 yf, .int .i64 yt, .int .u32 ya, .int .u32 ym, .int .u32 yn, .int .u32 yk] 25)) = v2 at *
  clear hvv
  generalize w1.heap.size = gTY at *
  clear HV TX
  have HV := Lib.hid hv
  have TX := Lib.hid xTX
  have TY := Lib.hid xTY
  clear hv xTX xTY
  refine (HRR.out _ (HX.out.below HV.out)).mono ?_
  rintro e w2 ⟨rfl, hb⟩
  have hv := HV.out.trans (hb.mono HV.out.size)
  have xTX := TX.out.below hb TX.out.lt
  have xTY := TY.out.below hb TY.out.lt
  clear hb HV TX TY
  have HV := Lib.hid hv
  have TX := Lib.hid xTX
  have TY := Lib.hid xTY
  clear hv xTX xTY
  have lTX := TX.out.lt
  have kTX0 := TX.out.cell 0
  have kTX1 := TX.out.cell 1
  have kTX2 := TX.out.cell 2
  have kTX3 := TX.out.cell 3
  have kTX4 := TX.out.cell 4
  have kTX5 := TX.out.cell 5
  have lTY := TY.out.lt
  have kTY0 := TY.out.cell 0
  have kTY1 := TY.out.cell 1
  have kTY2 := TY.out.cell 2
  have kTY3 := TY.out.cell 3
  have kTY4 := TY.out.cell 4
  have kTY5 := TY.out.cell 5
  simp only [List.getElem?_toArray, List.getElem?_cons_zero, List.getElem?_cons_succ] at kTX0 kTX1 kTX2 kTX3 kTX4 kTX5 kTY0 kTY1 kTY2 kTY3 kTY4 kTY5
  go_wp2_with fail
  clear lTX lTY kTX0 kTX1 kTX2 kTX3 kTX4 kTX5 kTY0 kTY1 kTY2 kTY3 kTY4 kTY5
  have hv := HV.out
  have hv := hv.alloc hv.size (.cells #[.int .i64 yf, .int .i64 yt, .int .u32 ya, .int .u32 ym, .int .u32 yn, .int .u32 yk] 25)
  have xTX := (TX.out).alloc (.cells #[.int .i64 yf, .int .i64 yt, .int .u32 ya, .int .u32 ym, .int .u32 yn, .int .u32 yk] 25)
  have xTY := (TY.out).alloc (.cells #[.int .i64 yf, .int .i64 yt, .int .u32 ya, .int .u32 ym, .int .u32 yn, .int .u32 yk] 25)
  have xTZ : Blk (w2.alloc (.cells #[.int .i64 yf, .int .i64 yt, .int .u32 ya, .int .u32 ym, .int .u32 yn, .int .u32 yk] 25)) (w2.heap.size) 25 #[.int .i64 yf, .int .i64 yt, .int .u32 ya, .int .u32 ym, .int .u32 yn, .int .u32 yk] := by
    have := Blk.new w2 25 #[.int .i64 yf, .int .i64 yt, .int .u32 ya, .int .u32 ym, .int .u32 yn, .int .u32 yk]
    simpa using this
  generalize hvv : (w2.alloc (.cells #[.int .i64 yf, .int .i64 yt, .int .u32 ya, .int .u32 ym, .int .u32 yn, .int .u32 yk] 25)) = v3 at *
  clear hvv
  generalize w2.heap.size = gTZ at *
  clear HV TX TY
  have HV := Lib.hid hv
  have TX := Lib.hid xTX
  have TY := Lib.hid xTY
  have TZ := Lib.hid xTZ
  clear hv xTX xTY xTZ
  have lTX := TX.out.lt
  have kTX0 := TX.out.cell 0
  have kTX1 := TX.out.cell 1
  have kTX2 := TX.out.cell 2
  have kTX3 := TX.out.cell 3
  have kTX4 := TX.out.cell 4
  have kTX5 := TX.out.cell 5
  have lTY := TY.out.lt
  have kTY0 := TY.out.cell 0
  have kTY1 := TY.out.cell 1
  have kTY2 := TY.out.cell 2
  have kTY3 := TY.out.cell 3
  have kTY4 := TY.out.cell 4
  have kTY5 := TY.out.cell 5
  simp only [List.getElem?_toArray, List.getElem?_cons_zero, List.getElem?_cons_succ] at kTX0 kTX1 kTX2 kTX3 kTX4 kTX5 kTY0 kTY1 kTY2 kTY3 kTY4 kTY5
  refine (num4_any _ _).mono ?_
  rintro e wn3 ⟨rfl, rfl⟩
  go_wp2_with fail
  refine (HBR.out _ (HF.out.below HV.out)).mono ?_
  rintro e w4 ⟨⟨p3, c3, rfl, hy3⟩, hb⟩
  clear lTX lTY kTX0 kTX1 kTX2 kTX3 kTX4 kTX5 kTY0 kTY1 kTY2 kTY3 kTY4 kTY5
  have hv := HV.out.trans (hb.mono HV.out.size)
  have xTX := TX.out.below hb TX.out.lt
  have xTY := TY.out.below hb TY.out.lt
  have xTZ := TZ.out.below hb TZ.out.lt
  clear hb HV TX TY TZ
  have HV := Lib.hid hv
  have TX := Lib.hid xTX
  have TY := Lib.hid xTY
  have TZ := Lib.hid xTZ
  clear hv xTX xTY xTZ
  have HY3 := Lib.hid hy3
  clear hy3
  obtain ⟨pb, po, hpe, _, _⟩ := HX.out (by omega)
  subst hpe
  have e3 : ∀ d os, Sem.run Tryd.prog (convert 26 9 (.slice p3 20 c3)) (grow (redrawn w4 d) os) = .ok (.string (strOfNums (xs.take 20))) (grow (redrawn w4 d) os) := fun d os => by
    have := conv_bytes (HY3.out.below (below_regrown w4 d os)) c3
    rwa [HL20.out] at this
  have e4 : ∀ d os, Sem.run Tryd.prog (convert 26 9 (.slice (some ⟨pb, po, none⟩) 20 c)) (grow (redrawn w4 d) os) = .ok (.string (strOfNums (xs.take 20))) (grow (redrawn w4 d) os) := fun d os => by
    have := conv_bytes (((HX.out.below HV.out).take 20).below (below_regrown w4 d os)) c
    rwa [HL20.out] at this
  have s0 : (20 : Int) ≤ (c : Int) := by omega
  have s1 : 20 ≤ c := by omega
  generalize strOfNums (xs.take 20) = st at *
  clear HY3
  go_wp2_with fail
  have cN : ∀ (n : Int) d os, Calls Tryd.prog 11 #[.int .i64 n] (grow (redrawn w4 d) os) fun e w'' => e = .returned (.int .i64 n) ∧ ∃ p : Regrown, w'' = grow (redrawn w4 p.d) p.os := fun n d os => Calls.regrown_of ((num4_any n _).mono fun _ _ ⟨he, hw⟩ => ⟨he, by rw [← hw]; exact Below.refl _ _⟩)
  refine wp_region_quiet_below (by kernel_rfl) (by kernel_rfl) ?_
  try simp only [List.append_eq, List.cons_append, List.nil_append]
  repeat (go_big_quiet_step (first | (with_reducible exact cN _ _ _)))
  refine wpQuiet_nil ?_
  intro wq hwq
  obtain ⟨⟨dq, osq⟩, rfl⟩ := hwq
  have hb := below_regrown w4 dq osq
  have hv := HV.out.trans (hb.mono HV.out.size)
  have xTX := TX.out.below hb TX.out.lt
  have xTY := TY.out.below hb TY.out.lt
  have xTZ := TZ.out.below hb TZ.out.lt
  generalize grow (redrawn w4 dq) osq = w5 at *
  clear hb HV TX TY TZ  cN
  have HV := Lib.hid hv
  have TX := Lib.hid xTX
  have TY := Lib.hid xTY
  have TZ := Lib.hid xTZ
  clear hv xTX xTY xTZ
  have lTX := TX.out.lt
  have kTX0 := TX.out.cell 0
  have kTX1 := TX.out.cell 1
  have kTX2 := TX.out.cell 2
  have kTX3 := TX.out.cell 3
  have kTX4 := TX.out.cell 4
  have kTX5 := TX.out.cell 5
  simp only [List.getElem?_toArray, List.getElem?_cons_zero, List.getElem?_cons_succ] at kTX0 kTX1 kTX2 kTX3 kTX4 kTX5
  go_wp2_with fail
  clear e3 e4 s0 s1
  refine (HBX.out _ (HF.out.below HV.out)).mono ?_
  rintro e w6 ⟨rfl, hb⟩
  clear lTX kTX0 kTX1 kTX2 kTX3 kTX4 kTX5
  have hv := HV.out.trans (hb.mono HV.out.size)
  have xTX := TX.out.below hb TX.out.lt
  have xTY := TY.out.below hb TY.out.lt
  have xTZ := TZ.out.below hb TZ.out.lt
  clear hb HV TX TY TZ
  have HV := Lib.hid hv
  have TX := Lib.hid xTX
  have TY := Lib.hid xTY
  have TZ := Lib.hid xTZ
  clear hv xTX xTY xTZ
  have lTX := TX.out.lt
  have kTX0 := TX.out.cell 0
  have kTX1 := TX.out.cell 1
  have kTX2 := TX.out.cell 2
  have kTX3 := TX.out.cell 3
  have kTX4 := TX.out.cell 4
  have kTX5 := TX.out.cell 5
  simp only [List.getElem?_toArray, List.getElem?_cons_zero, List.getElem?_cons_succ] at kTX0 kTX1 kTX2 kTX3 kTX4 kTX5
  go_wp2_with fail
  refine (HRT.out _).mono ?_
  rintro e w7 ⟨rfl, hb⟩
  clear lTX kTX0 kTX1 kTX2 kTX3 kTX4 kTX5
  have hv := HV.out.trans (hb.mono HV.out.size)
  have xTX := TX.out.below hb TX.out.lt
  have xTY := TY.out.below hb TY.out.lt
  have xTZ := TZ.out.below hb TZ.out.lt
  clear hb HV TX TY TZ
  have HV := Lib.hid hv
  have TX := Lib.hid xTX
  have TY := Lib.hid xTY
  have TZ := Lib.hid xTZ
  clear hv xTX xTY xTZ
  go_wp2_with fail
  refine (num4_any _ _).mono ?_
  rintro e wn8 ⟨rfl, rfl⟩
  go_wp2_with fail
  refine (HY0.out _ (HF.out.below HV.out)).mono ?_
  rintro e w9 ⟨rfl, hb⟩
  have hv := HV.out.trans (hb.mono HV.out.size)
  have xTX := TX.out.below hb TX.out.lt
  have xTY := TY.out.below hb TY.out.lt
  have xTZ := TZ.out.below hb TZ.out.lt
  clear hb HV TX TY TZ
  have HV := Lib.hid hv
  have TX := Lib.hid xTX
  have TY := Lib.hid xTY
  have TZ := Lib.hid xTZ
  clear hv xTX xTY xTZ
  go_wp2_with fail
  go_ret
  exact ⟨rfl, HV.out⟩

set_option maxRecDepth 1000000 in
set_option maxHeartbeats 6400000 in
theorem law04_bytes_sr (e : Ent) (ho : e.Ok) (p : Option Addr) (c : Nat) (xs : List Int) (hb : IsBytes xs) (hc : xs.length ≤ c) (hn : xs.length ≤ 60) (hl : ¬ 20 ≤ xs.length) (hr : rightE e) (w : World) (hx : ByS w p xs) (hf : Fit3 w) :
    Calls Tryd.prog 3 #[entV e, .slice p xs.length c] w fun e w' => e = .returned (.bool true) ∧ Below w.heap.size w w' := by
  have HF := Lib.hid hf
  have HX := Lib.hid hx
  have HBY := Lib.hid hb
  have HY0 : Hid (∀ W, Fit3 W → Calls Tryd.prog 8 #[] W fun e w' => e = .returned (.bool true) ∧ Below W.heap.size W w') := yes4
  have hR := fun W (hW : ByS W p xs) (hF : Fit3 W) => read4_any p c xs hb (by omega) hc W hW hF
  have hRR := fun W (hW : ByS W p xs) => refRead4_any p c xs hb (by omega) W hW
  have e1 : rdV xs = ⟨0, 0, 0, 0, 0, 0⟩ := if_neg hl
  have e2 : rdNo xs = 130 := if_neg hl
  rw [e1, e2] at hR hRR
  have HR := Lib.hid hR
  have HRR := Lib.hid hRR
  clear hR hRR e1 e2
  have HBX := Lib.hid (fun W (hF : Fit3 W) => bytesE_r ho hr rfl W hF)
  have HRB := Lib.hid (fun W => refBytes4_any e ho hr W)
  have hRT : ∀ W, Calls Tryd.prog 13 #[entV e] W fun r w' => r = .returned (.bool true) ∧ Below W.heap.size W w' := fun W => by
    have := refRight4_any e W
    rwa [decide_eq_true hr] at this
  have hu : rdV (bytesE e ++ xs) = e ∧ rdNo (bytesE e ++ xs) = 0 := by
    have h20 : 20 ≤ (bytesE e ++ xs).length := by rw [List.length_append, bytesE_len]; omega
    exact ⟨by unfold rdV; rw [if_pos h20]; exact read_bytesE hr ho xs, if_pos h20⟩
  have hU := fun q d W (hd : (bytesE e ++ xs).length ≤ d) (hW : ByS W q (bytesE e ++ xs)) (hF : Fit3 W) => read4_any q d (bytesE e ++ xs) ((bytesE_is e).app hb) (by rw [List.length_append, bytesE_len]; omega) hd W hW hF
  rw [hu.1, hu.2] at hU
  have hbl := bytesE_len e
  generalize bytesE e = bE at *
  have HU := Lib.hid hU
  have HBLN := Lib.hid hbl
  clear hu hU hbl
  have HRT := Lib.hid hRT
  clear hRT hf hx hb hr ho
  obtain ⟨f, t, a, m, n, k⟩ := e
  have nl : ¬ 60 < (xs.length : Int) := by omega
  go_enter Tryd.func3, Tryd.ntmps3
  go_wp2_with fail
  have hv := Below.refl w.heap.size w
  have hv := hv.alloc hv.size (.cells #[.int .i64 f, .int .i64 t, .int .u32 a, .int .u32 m, .int .u32 n, .int .u32 k] 25)
  have xTX : Blk (w.alloc (.cells #[.int .i64 f, .int .i64 t, .int .u32 a, .int .u32 m, .int .u32 n, .int .u32 k] 25)) (w.heap.size) 25 #[.int .i64 f, .int .i64 t, .int .u32 a, .int .u32 m, .int .u32 n, .int .u32 k] := by
    have := Blk.new w 25 #[.int .i64 f, .int .i64 t, .int .u32 a, .int .u32 m, .int .u32 n, .int .u32 k]
    simpa using this
  generalize hvv : (w.alloc (.cells #[.int .i64 f, .int .i64 t, .int .u32 a, .int .u32 m, .int .u32 n, .int .u32 k] 25)) = v1 at *
  clear hvv
  have HV := Lib.hid hv
  have TX := Lib.hid xTX
  clear hv xTX
  refine (HR.out _ (HX.out.below HV.out) (HF.out.below HV.out)).mono ?_
  rintro e w1 ⟨rfl, hb⟩
  have hv := HV.out.trans (hb.mono HV.out.size)
  have xTX := TX.out.below hb TX.out.lt
  clear hb HV TX
  have HV := Lib.hid hv
  have TX := Lib.hid xTX
  clear hv xTX
  go_wp2_with fail
  have hv := HV.out
  have hv := hv.alloc hv.size (.cells #[.int .i64 0, .int .i64 0, .int .u32 0, .int .u32 0, .int .u32 0, .int .u32 0] 25)
  have xTX := (TX.out).alloc (.cells #[.int .i64 0, .int .i64 0, .int .u32 0, .int .u32 0, .int .u32 0, .int .u32 0] 25)
  have xTY : Blk (w1.alloc (.cells #[.int .i64 0, .int .i64 0, .int .u32 0, .int .u32 0, .int .u32 0, .int .u32 0] 25)) (w1.heap.size) 25 #[.int .i64 0, .int .i64 0, .int .u32 0, .int .u32 0, .int .u32 0, .int .u32 0] := by
    have := Blk.new w1 25 #[.int .i64 0, .int .i64 0, .int .u32 0, .int .u32 0, .int .u32 0, .int .u32 0]
    simpa using this
  generalize hvv : (w1.alloc (.cells #[.int .i64 0, .int .i64 0, .int .u32 0, .int .u32 0, .int .u32 0, .int .u32 0] 25)) = v2 at *
  clear hvv
  generalize w1.heap.size = gTY at *
  clear HV TX
  have HV := Lib.hid hv
  have TX := Lib.hid xTX
  have TY := Lib.hid xTY
  clear hv xTX xTY
  refine (HRR.out _ (HX.out.below HV.out)).mono ?_
  rintro e w2 ⟨rfl, hb⟩
  have hv := HV.out.trans (hb.mono HV.out.size)
  have xTX := TX.out.below hb TX.out.lt
  have xTY := TY.out.below hb TY.out.lt
  clear hb HV TX TY
  have HV := Lib.hid hv
  have TX := Lib.hid xTX
  have TY := Lib.hid xTY
  clear hv xTX xTY
  have lTX := TX.out.lt
  have kTX0 := TX.out.cell 0
  have kTX1 := TX.out.cell 1
  have kTX2 := TX.out.cell 2
  have kTX3 := TX.out.cell 3
  have kTX4 := TX.out.cell 4
  have kTX5 := TX.out.cell 5
  have lTY := TY.out.lt
  have kTY0 := TY.out.cell 0
  have kTY1 := TY.out.cell 1
  have kTY2 := TY.out.cell 2
  have kTY3 := TY.out.cell 3
  have kTY4 := TY.out.cell 4
  have kTY5 := TY.out.cell 5
  simp only [List.getElem?_toArray, List.getElem?_cons_zero, List.getElem?_cons_succ] at kTX0 kTX1 kTX2 kTX3 kTX4 kTX5 kTY0 kTY1 kTY2 kTY3 kTY4 kTY5
  go_wp2_with fail
  clear lTX lTY kTX0 kTX1 kTX2 kTX3 kTX4 kTX5 kTY0 kTY1 kTY2 kTY3 kTY4 kTY5
  have hv := HV.out
  have hv := hv.alloc hv.size (.cells #[.int .i64 0, .int .i64 0, .int .u32 0, .int .u32 0, .int .u32 0, .int .u32 0] 25)
  have xTX := (TX.out).alloc (.cells #[.int .i64 0, .int .i64 0, .int .u32 0, .int .u32 0, .int .u32 0, .int .u32 0] 25)
  have xTY := (TY.out).alloc (.cells #[.int .i64 0, .int .i64 0, .int .u32 0, .int .u32 0, .int .u32 0, .int .u32 0] 25)
  have xTZ : Blk (w2.alloc (.cells #[.int .i64 0, .int .i64 0, .int .u32 0, .int .u32 0, .int .u32 0, .int .u32 0] 25)) (w2.heap.size) 25 #[.int .i64 0, .int .i64 0, .int .u32 0, .int .u32 0, .int .u32 0, .int .u32 0] := by
    have := Blk.new w2 25 #[.int .i64 0, .int .i64 0, .int .u32 0, .int .u32 0, .int .u32 0, .int .u32 0]
    simpa using this
  generalize hvv : (w2.alloc (.cells #[.int .i64 0, .int .i64 0, .int .u32 0, .int .u32 0, .int .u32 0, .int .u32 0] 25)) = v3 at *
  clear hvv
  generalize w2.heap.size = gTZ at *
  clear HV TX TY
  have HV := Lib.hid hv
  have TX := Lib.hid xTX
  have TY := Lib.hid xTY
  have TZ := Lib.hid xTZ
  clear hv xTX xTY xTZ
  have lTX := TX.out.lt
  have kTX0 := TX.out.cell 0
  have kTX1 := TX.out.cell 1
  have kTX2 := TX.out.cell 2
  have kTX3 := TX.out.cell 3
  have kTX4 := TX.out.cell 4
  have kTX5 := TX.out.cell 5
  have lTY := TY.out.lt
  have kTY0 := TY.out.cell 0
  have kTY1 := TY.out.cell 1
  have kTY2 := TY.out.cell 2
  have kTY3 := TY.out.cell 3
  have kTY4 := TY.out.cell 4
  have kTY5 := TY.out.cell 5
  simp only [List.getElem?_toArray, List.getElem?_cons_zero, List.getElem?_cons_succ] at kTX0 kTX1 kTX2 kTX3 kTX4 kTX5 kTY0 kTY1 kTY2 kTY3 kTY4 kTY5
  refine (num4_any _ _).mono ?_
  rintro e wn3 ⟨rfl, rfl⟩
  go_wp2_with fail
  refine (HBX.out _ (HF.out.below HV.out)).mono ?_
  rintro e w4 ⟨⟨p4, c4, rfl, hy4⟩, hb⟩
  clear lTX lTY kTX0 kTX1 kTX2 kTX3 kTX4 kTX5 kTY0 kTY1 kTY2 kTY3 kTY4 kTY5
  have hv := HV.out.trans (hb.mono HV.out.size)
  have xTX := TX.out.below hb TX.out.lt
  have xTY := TY.out.below hb TY.out.lt
  have xTZ := TZ.out.below hb TZ.out.lt
  clear hb HV TX TY TZ
  have HV := Lib.hid hv
  have TX := Lib.hid xTX
  have TY := Lib.hid xTY
  have TZ := Lib.hid xTZ
  clear hv xTX xTY xTZ
  have HY4 := Lib.hid hy4
  clear hy4
  have lTX := TX.out.lt
  have kTX0 := TX.out.cell 0
  have kTX1 := TX.out.cell 1
  have kTX2 := TX.out.cell 2
  have kTX3 := TX.out.cell 3
  have kTX4 := TX.out.cell 4
  have kTX5 := TX.out.cell 5
  simp only [List.getElem?_toArray, List.getElem?_cons_zero, List.getElem?_cons_succ] at kTX0 kTX1 kTX2 kTX3 kTX4 kTX5
  go_wp2_with fail
  refine (HRT.out _).mono ?_
  rintro e w5 ⟨rfl, hb⟩
  clear lTX kTX0 kTX1 kTX2 kTX3 kTX4 kTX5
  have hv := HV.out.trans (hb.mono HV.out.size)
  have xTX := TX.out.below hb TX.out.lt
  have xTY := TY.out.below hb TY.out.lt
  have xTZ := TZ.out.below hb TZ.out.lt
  have yHY4 := HY4.out.below hb
  clear hb HV TX TY TZ
  have HV := Lib.hid hv
  have TX := Lib.hid xTX
  have TY := Lib.hid xTY
  have TZ := Lib.hid xTZ
  clear hv xTX xTY xTZ
  clear HY4
  have HY4 := Lib.hid yHY4
  clear yHY4
  have HHE : Hid (OwnB w5.heap.size (w5.alloc (.cells #[] 5)) (.slice (some ⟨w5.heap.size, 0, none⟩) 0 0) []) := World.ownsRow_made w5 #[] 0 (Nat.le_refl _) (Nat.zero_le _) (by simp)
  have HHW := Lib.hid (bigE w5 (.cells #[] 5))
  have HYA := Lib.hid (HY4.out.below HHW.out)
  have K1 : ([] : List Int).length + bE.length ≤ 1000000 := by have := HBLN.out; simp; omega
  have K2 : ([] ++ bE).length + xs.length ≤ 1000000 := by have := HBLN.out; simp; omega
  have hbs : Value.slice p4 20 c4 = .slice p4 bE.length c4 := by rw [HBLN.out]
  rw [hbs]
  clear hbs
  go_wp2_with (first | (at_builtin; refine wpList_app_bytes (v := .slice (some ⟨w5.heap.size, 0, none⟩) 0 0) (xs := []) (p := p4) (ys := bE) (c := c4) rfl _ _ rfl w5.heap.size rfl HHE.out rfl HYA.out K1 (by simp) ?_))
  intro v5 wa o5 g5 _
  have hba := own_below (by simp) HHW.out HHE.out g5
  have HBA := Lib.hid hba
  have HYB := Lib.hid ((HX.out.below HV.out).below hba)
  have HO5 := Lib.hid o5
  have l5 := hba.size
  simp only [List.nil_append] at K2
  clear g5 o5 hba HHE HHW HYA
  go_wp2_with (first | (at_builtin; refine wpList_app_bytes (v := v5) (xs := bE) (p := p) (ys := xs) (c := c) rfl _ _ rfl w5.heap.size rfl HO5.out rfl HYB.out K2 l5 ?_))
  intro v6 wb o6 g6 _
  have hb6 := own_below l5 HBA.out HO5.out g6
  obtain ⟨p6, c6, rfl, m6, y6, _⟩ := OwnB.byS o6
  have HY6 := Lib.hid y6
  clear g6 o6 HO5 HBA HYB l5 K1 K2 y6
  generalize bE ++ xs = zs at *
  have hv := HV.out.trans (hb6.mono HV.out.size)
  have xTX := TX.out.below hb6 TX.out.lt
  have xTY := TY.out.below hb6 TY.out.lt
  have xTZ := TZ.out.below hb6 TZ.out.lt
  have yHY4 := HY4.out.below hb6
  clear HV TX TY TZ
  have HV := Lib.hid hv
  have TX := Lib.hid xTX
  have TY := Lib.hid xTY
  have TZ := Lib.hid xTZ
  clear hv xTX xTY xTZ
  clear HY4
  have HY4 := Lib.hid yHY4
  clear yHY4
  clear hb6
  go_wp2_with fail
  refine (HU.out p6 c6 _ m6 HY6.out (HF.out.below HV.out)).mono ?_
  rintro e w6 ⟨rfl, hb⟩
  have hv := HV.out.trans (hb.mono HV.out.size)
  have xTX := TX.out.below hb TX.out.lt
  have xTY := TY.out.below hb TY.out.lt
  have xTZ := TZ.out.below hb TZ.out.lt
  have yHY4 := HY4.out.below hb
  clear hb HV TX TY TZ
  have HV := Lib.hid hv
  have TX := Lib.hid xTX
  have TY := Lib.hid xTY
  have TZ := Lib.hid xTZ
  clear hv xTX xTY xTZ
  clear HY4
  have HY4 := Lib.hid yHY4
  clear yHY4
  go_wp2_with fail
  have hbx := (Below.refl w6.heap.size w6).alloc (Nat.le_refl _) (.cells #[.int .i64 f, .int .i64 t, .int .u32 a, .int .u32 m, .int .u32 n, .int .u32 k] 25)
  have yHY4 := HY4.out.below hbx
  clear hbx
  have hv := HV.out
  have hv := hv.alloc hv.size (.cells #[.int .i64 f, .int .i64 t, .int .u32 a, .int .u32 m, .int .u32 n, .int .u32 k] 25)
  have xTX := (TX.out).alloc (.cells #[.int .i64 f, .int .i64 t, .int .u32 a, .int .u32 m, .int .u32 n, .int .u32 k] 25)
  have xTY := (TY.out).alloc (.cells #[.int .i64 f, .int .i64 t, .int .u32 a, .int .u32 m, .int .u32 n, .int .u32 k] 25)
  have xTZ := (TZ.out).alloc (.cells #[.int .i64 f, .int .i64 t, .int .u32 a, .int .u32 m, .int .u32 n, .int .u32 k] 25)
  have xTU : Blk (w6.alloc (.cells #[.int .i64 f, .int .i64 t, .int .u32 a, .int .u32 m, .int .u32 n, .int .u32 k] 25)) (w6.heap.size) 25 #[.int .i64 f, .int .i64 t, .int .u32 a, .int .u32 m, .int .u32 n, .int .u32 k] := by
    have := Blk.new w6 25 #[.int .i64 f, .int .i64 t, .int .u32 a, .int .u32 m, .int .u32 n, .int .u32 k]
    simpa using this
  generalize hvv : (w6.alloc (.cells #[.int .i64 f, .int .i64 t, .int .u32 a, .int .u32 m, .int .u32 n, .int .u32 k] 25)) = v4 at *
  clear hvv
  generalize w6.heap.size = gTU at *
  clear HV TX TY TZ
  have HV := Lib.hid hv
  have TX := Lib.hid xTX
  have TY := Lib.hid xTY
  have TZ := Lib.hid xTZ
  have TU := Lib.hid xTU
  clear hv xTX xTY xTZ xTU
  clear HY4
  have HY4 := Lib.hid yHY4
  clear yHY4
  obtain ⟨sb, hsb⟩ : ∃ sb, strOfNums bE = sb := ⟨_, rfl⟩
  have hS : ∀ w', Below v4.heap.size v4 w' → w'.cell? ⟨w.heap.size, 0, none⟩ = some (.int .i64 f) ∧ w'.cell? ⟨w.heap.size, 1, none⟩ = some (.int .i64 t) ∧ w'.cell? ⟨w.heap.size, 2, none⟩ = some (.int .u32 a) ∧ w'.cell? ⟨w.heap.size, 3, none⟩ = some (.int .u32 m) ∧ w'.cell? ⟨w.heap.size, 4, none⟩ = some (.int .u32 n) ∧ w'.cell? ⟨w.heap.size, 5, none⟩ = some (.int .u32 k) ∧ w'.cell? ⟨gTU, 0, none⟩ = some (.int .i64 f) ∧ w'.cell? ⟨gTU, 1, none⟩ = some (.int .i64 t) ∧ w'.cell? ⟨gTU, 2, none⟩ = some (.int .u32 a) ∧ w'.cell? ⟨gTU, 3, none⟩ = some (.int .u32 m) ∧ w'.cell? ⟨gTU, 4, none⟩ = some (.int .u32 n) ∧ w'.cell? ⟨gTU, 5, none⟩ = some (.int .u32 k) ∧ (convert 26 9 (.slice p4 bE.length c4)).run Tryd.prog w' = .ok (.string sb) w' := fun w' hb => by
    have h1 := TX.out.below hb TX.out.lt
    have h2 := TU.out.below hb TU.out.lt
    have h3 := conv_bytes (HY4.out.below hb) c4
    rw [hsb] at h3
    exact ⟨h1.cell 0, h1.cell 1, h1.cell 2, h1.cell 3, h1.cell 4, h1.cell 5, h2.cell 0, h2.cell 1, h2.cell 2, h2.cell 3, h2.cell 4, h2.cell 5, h3⟩
  have HS := Lib.hid hS
  have HSB := Lib.hid hsb
  have HFW := Lib.hid (HF.out.below HV.out)
  clear hS hsb
  have hdrew := below_drew v4
  refine wp_region_noPanic ?_
  refine wp_region_held_drew (S := fun w' => w'.cell? ⟨w.heap.size, 0, none⟩ = some (.int .i64 f) ∧ w'.cell? ⟨w.heap.size, 1, none⟩ = some (.int .i64 t) ∧ w'.cell? ⟨w.heap.size, 2, none⟩ = some (.int .u32 a) ∧ w'.cell? ⟨w.heap.size, 3, none⟩ = some (.int .u32 m) ∧ w'.cell? ⟨w.heap.size, 4, none⟩ = some (.int .u32 n) ∧ w'.cell? ⟨w.heap.size, 5, none⟩ = some (.int .u32 k) ∧ w'.cell? ⟨gTU, 0, none⟩ = some (.int .i64 f) ∧ w'.cell? ⟨gTU, 1, none⟩ = some (.int .i64 t) ∧ w'.cell? ⟨gTU, 2, none⟩ = some (.int .u32 a) ∧ w'.cell? ⟨gTU, 3, none⟩ = some (.int .u32 m) ∧ w'.cell? ⟨gTU, 4, none⟩ = some (.int .u32 n) ∧ w'.cell? ⟨gTU, 5, none⟩ = some (.int .u32 k) ∧ (convert 26 9 (.slice p4 bE.length c4)).run Tryd.prog w' = .ok (.string sb) w') (by kernel_rfl) (HS.out _ hdrew) ?_
  intro hS0
  refine wpAnyH_take (i := 0) (v := ?v20) (by rw [List.getElem?_toArray]; exact rfl) (by kernel_rfl) (by kernel_rfl) (by kernel_rfl) (fun _ _ _ h => h) (Or.inl ⟨by rfl, ?hy20⟩) (by assumption) ?rest20
  case hy20 => intro w hSw; (try dsimp only at hSw); go_simp; (try with_reducible rfl)
  try simp only [Act.put, List.setIfInBounds_toArray, List.set_cons_zero, List.set_cons_succ]
  refine wpAnyH_take (i := 1) (v := ?v21) (by rw [List.getElem?_toArray]; exact rfl) (by kernel_rfl) (by kernel_rfl) (by kernel_rfl) (fun _ _ _ h => h) (Or.inl ⟨by rfl, ?hy21⟩) (by assumption) ?rest21
  case hy21 => intro w hSw; (try dsimp only at hSw); go_simp; (try with_reducible rfl)
  try simp only [Act.put, List.setIfInBounds_toArray, List.set_cons_zero, List.set_cons_succ]
  refine wpAnyH_take (i := 2) (v := ?v22) (by rw [List.getElem?_toArray]; exact rfl) (by kernel_rfl) (by kernel_rfl) (by kernel_rfl) (fun _ _ _ h => h) (Or.inl ⟨by rfl, ?hy22⟩) (by assumption) ?rest22
  case hy22 => intro w hSw; (try dsimp only at hSw); go_simp; (try with_reducible rfl)
  try simp only [Act.put, List.setIfInBounds_toArray, List.set_cons_zero, List.set_cons_succ]
  refine ready_call (i := 3) (by kernel_rfl) (by rw [List.getElem?_toArray]; exact rfl) (by kernel_rfl) (fun K1 hK1 => ?_)
  go_simp
  refine (HRB.out _).mono ?_
  rintro r wc ⟨v7, rfl, ho7, hb7⟩
  have hb8 := below_call hdrew hb7
  obtain ⟨p7, c7, rfl, _, hy7, _⟩ := OwnB.byS ho7
  have HY7 := Lib.hid hy7
  clear ho7 hy7 hb7
  refine hK1.out _ _ (HS.out _ hb8) (fun hS1 => ?_)
  clear hK1 K1
  try simp only [Act.put, List.setIfInBounds_toArray, List.set_cons_zero, List.set_cons_succ]
  have hS2 : ∀ w', Below wc.heap.size wc w' → (w'.cell? ⟨w.heap.size, 0, none⟩ = some (.int .i64 f) ∧ w'.cell? ⟨w.heap.size, 1, none⟩ = some (.int .i64 t) ∧ w'.cell? ⟨w.heap.size, 2, none⟩ = some (.int .u32 a) ∧ w'.cell? ⟨w.heap.size, 3, none⟩ = some (.int .u32 m) ∧ w'.cell? ⟨w.heap.size, 4, none⟩ = some (.int .u32 n) ∧ w'.cell? ⟨w.heap.size, 5, none⟩ = some (.int .u32 k) ∧ w'.cell? ⟨gTU, 0, none⟩ = some (.int .i64 f) ∧ w'.cell? ⟨gTU, 1, none⟩ = some (.int .i64 t) ∧ w'.cell? ⟨gTU, 2, none⟩ = some (.int .u32 a) ∧ w'.cell? ⟨gTU, 3, none⟩ = some (.int .u32 m) ∧ w'.cell? ⟨gTU, 4, none⟩ = some (.int .u32 n) ∧ w'.cell? ⟨gTU, 5, none⟩ = some (.int .u32 k) ∧ (convert 26 9 (.slice p4 bE.length c4)).run Tryd.prog w' = .ok (.string sb) w') ∧ (convert 26 9 (.slice p7 bE.length c7)).run Tryd.prog w' = .ok (.string sb) w' := fun w' hb => ⟨HS.out _ (below_call hb8 hb), by
    have h3 := conv_bytes (HY7.out.below hb) c7
    rwa [HSB.out] at h3⟩
  have HS2 := Lib.hid hS2
  clear hS2 hS0 hS1
  refine wpAnyH_mono (S' := fun w' => (w'.cell? ⟨w.heap.size, 0, none⟩ = some (.int .i64 f) ∧ w'.cell? ⟨w.heap.size, 1, none⟩ = some (.int .i64 t) ∧ w'.cell? ⟨w.heap.size, 2, none⟩ = some (.int .u32 a) ∧ w'.cell? ⟨w.heap.size, 3, none⟩ = some (.int .u32 m) ∧ w'.cell? ⟨w.heap.size, 4, none⟩ = some (.int .u32 n) ∧ w'.cell? ⟨w.heap.size, 5, none⟩ = some (.int .u32 k) ∧ w'.cell? ⟨gTU, 0, none⟩ = some (.int .i64 f) ∧ w'.cell? ⟨gTU, 1, none⟩ = some (.int .i64 t) ∧ w'.cell? ⟨gTU, 2, none⟩ = some (.int .u32 a) ∧ w'.cell? ⟨gTU, 3, none⟩ = some (.int .u32 m) ∧ w'.cell? ⟨gTU, 4, none⟩ = some (.int .u32 n) ∧ w'.cell? ⟨gTU, 5, none⟩ = some (.int .u32 k) ∧ (convert 26 9 (.slice p4 bE.length c4)).run Tryd.prog w' = .ok (.string sb) w') ∧ (convert 26 9 (.slice p7 bE.length c7)).run Tryd.prog w' = .ok (.string sb) w') (fun W h => h.1) _ _ _ _ ?_
  have hT0 := HS2.out wc (Below.refl _ _)
  refine wpAnyH_take (i := 4) (v := ?v23) (by rw [List.getElem?_toArray]; exact rfl) (by kernel_rfl) (by kernel_rfl) (by kernel_rfl) (fun _ _ _ h => h) (Or.inl ⟨by rfl, ?hy23⟩) (by assumption) ?rest23
  case hy23 => intro w hSw; (try dsimp only at hSw); go_simp; (try with_reducible rfl)
  try simp only [Act.put, List.setIfInBounds_toArray, List.set_cons_zero, List.set_cons_succ]
  refine wpAnyH_take (i := 5) (v := ?v24) (by rw [List.getElem?_toArray]; exact rfl) (by kernel_rfl) (by kernel_rfl) (by kernel_rfl) (fun _ _ _ h => h) (Or.inl ⟨by rfl, ?hy24⟩) (by assumption) ?rest24
  case hy24 => intro w hSw; (try dsimp only at hSw); go_simp; (try with_reducible rfl)
  try simp only [Act.put, List.setIfInBounds_toArray, List.set_cons_zero, List.set_cons_succ]
  refine wpAnyH_take (i := 6) (v := ?v25) (by rw [List.getElem?_toArray]; exact rfl) (by kernel_rfl) (by kernel_rfl) (by kernel_rfl) (fun _ _ _ h => h) (Or.inl ⟨by rfl, ?hy25⟩) (by assumption) ?rest25
  case hy25 => intro w hSw; (try dsimp only at hSw); go_simp; (try with_reducible rfl)
  try simp only [Act.put, List.setIfInBounds_toArray, List.set_cons_zero, List.set_cons_succ]
  refine wpAnyH_take (i := 7) (v := ?v26) (by rw [List.getElem?_toArray]; exact rfl) (by kernel_rfl) (by kernel_rfl) (by kernel_rfl) (fun _ _ _ h => h) (Or.inl ⟨by rfl, ?hy26⟩) (by assumption) ?rest26
  case hy26 => intro w hSw; (try dsimp only at hSw); go_simp; (try with_reducible rfl)
  try simp only [Act.put, List.setIfInBounds_toArray, List.set_cons_zero, List.set_cons_succ]
  refine wpAnyH_take (i := 8) (v := ?v27) (by rw [List.getElem?_toArray]; exact rfl) (by kernel_rfl) (by kernel_rfl) (by kernel_rfl) (fun _ _ _ h => h) (Or.inl ⟨by rfl, ?hy27⟩) (by assumption) ?rest27
  case hy27 => intro w hSw; (try dsimp only at hSw); go_simp; (try with_reducible rfl)
  try simp only [Act.put, List.setIfInBounds_toArray, List.set_cons_zero, List.set_cons_succ]
  refine wpAnyH_take (i := 9) (v := ?v28) (by rw [List.getElem?_toArray]; exact rfl) (by kernel_rfl) (by kernel_rfl) (by kernel_rfl) (fun _ _ _ h => h) (Or.inl ⟨by rfl, ?hy28⟩) (by assumption) ?rest28
  case hy28 => intro w hSw; (try dsimp only at hSw); go_simp; (try with_reducible rfl)
  try simp only [Act.put, List.setIfInBounds_toArray, List.set_cons_zero, List.set_cons_succ]
  refine wpAnyH_take (i := 10) (v := ?v29) (by rw [List.getElem?_toArray]; exact rfl) (by kernel_rfl) (by kernel_rfl) (by kernel_rfl) (fun _ _ _ h => h) (Or.inl ⟨by rfl, ?hy29⟩) (by assumption) ?rest29
  case hy29 => intro w hSw; (try dsimp only at hSw); go_simp; (try with_reducible rfl)
  try simp only [Act.put, List.setIfInBounds_toArray, List.set_cons_zero, List.set_cons_succ]
  refine wpAnyH_take (i := 11) (v := ?v30) (by rw [List.getElem?_toArray]; exact rfl) (by kernel_rfl) (by kernel_rfl) (by kernel_rfl) (fun _ _ _ h => h) (Or.inl ⟨by rfl, ?hy30⟩) (by assumption) ?rest30
  case hy30 => intro w hSw; (try dsimp only at hSw); go_simp; (try with_reducible rfl)
  try simp only [Act.put, List.setIfInBounds_toArray, List.set_cons_zero, List.set_cons_succ]
  refine wpAnyH_take (i := 12) (v := ?v31) (by rw [List.getElem?_toArray]; exact rfl) (by kernel_rfl) (by kernel_rfl) (by kernel_rfl) (fun _ _ _ h => h) (Or.inl ⟨by rfl, ?hy31⟩) (by assumption) ?rest31
  case hy31 => intro w hSw; (try dsimp only at hSw); go_simp; (try with_reducible rfl)
  try simp only [Act.put, List.setIfInBounds_toArray, List.set_cons_zero, List.set_cons_succ]
  refine wpAnyH_take (i := 14) (v := ?v32) (by rw [List.getElem?_toArray]; exact rfl) (by kernel_rfl) (by kernel_rfl) (by kernel_rfl) (fun _ _ _ h => h) (Or.inl ⟨by rfl, ?hy32⟩) (by assumption) ?rest32
  case hy32 => intro w hSw; (try dsimp only at hSw); go_simp; (try with_reducible rfl)
  try simp only [Act.put, List.setIfInBounds_toArray, List.set_cons_zero, List.set_cons_succ]
  refine ready_call (i := 13) (by kernel_rfl) (by rw [List.getElem?_toArray]; exact rfl) (by kernel_rfl) (fun K1 hK1 => ?_)
  go_simp
  refine (num4_any _ _).mono ?_
  rintro r wd ⟨rfl, rfl⟩
  refine hK1.out _ _ (HS2.out _ (Below.refl _ _)) (fun hT1 => ?_)
  clear hK1 K1
  try simp only [Act.put, List.setIfInBounds_toArray, List.set_cons_zero, List.set_cons_succ]
  refine ready_call (i := 15) (by kernel_rfl) (by rw [List.getElem?_toArray]; exact rfl) (by kernel_rfl) (fun K1 hK1 => ?_)
  go_simp
  refine (num4_any _ _).mono ?_
  rintro r wd ⟨rfl, rfl⟩
  refine hK1.out _ _ (HS2.out _ (Below.refl _ _)) (fun hT2 => ?_)
  clear hK1 K1
  try simp only [Act.put, List.setIfInBounds_toArray, List.set_cons_zero, List.set_cons_succ]
  refine wpAnyH_take (i := 16) (v := ?v33) (by rw [List.getElem?_toArray]; exact rfl) (by kernel_rfl) (by kernel_rfl) (by kernel_rfl) (fun _ _ _ h => h) (Or.inl ⟨by rfl, ?hy33⟩) (by assumption) ?rest33
  case hy33 => intro w hSw; (try dsimp only at hSw); go_simp; (try with_reducible rfl)
  try simp only [Act.put, List.setIfInBounds_toArray, List.set_cons_zero, List.set_cons_succ]
  refine wpAnyH_take (i := 17) (v := ?v34) (by rw [List.getElem?_toArray]; exact rfl) (by kernel_rfl) (by kernel_rfl) (by kernel_rfl) (fun _ _ _ h => h) (Or.inl ⟨by rfl, ?hy34⟩) (by assumption) ?rest34
  case hy34 => intro w hSw; (try dsimp only at hSw); go_simp; (try with_reducible rfl)
  try simp only [Act.put, List.setIfInBounds_toArray, List.set_cons_zero, List.set_cons_succ]
  refine wpAnyH_take (i := 18) (v := ?v35) (by rw [List.getElem?_toArray]; exact rfl) (by kernel_rfl) (by kernel_rfl) (by kernel_rfl) (fun _ _ _ h => h) (Or.inl ⟨by rfl, ?hy35⟩) (by assumption) ?rest35
  case hy35 => intro w hSw; (try dsimp only at hSw); go_simp; (try with_reducible rfl)
  try simp only [Act.put, List.setIfInBounds_toArray, List.set_cons_zero, List.set_cons_succ]
  refine wpAnyH_take (i := 19) (v := ?v36) (by rw [List.getElem?_toArray]; exact rfl) (by kernel_rfl) (by kernel_rfl) (by kernel_rfl) (fun _ _ _ h => h) (Or.inl ⟨by rfl, ?hy36⟩) (by assumption) ?rest36
  case hy36 => intro w hSw; (try dsimp only at hSw); go_simp; (try with_reducible rfl)
  try simp only [Act.put, List.setIfInBounds_toArray, List.set_cons_zero, List.set_cons_succ]
  refine ready_call (i := 20) (by kernel_rfl) (by rw [List.getElem?_toArray]; exact rfl) (by kernel_rfl) (fun K1 hK1 => ?_)
  go_simp
  refine (HY0.out _ (HFW.out.below hb8)).mono ?_
  rintro r we ⟨rfl, hb9⟩
  refine hK1.out _ _ (HS2.out _ hb9) (fun hT3 => ?_)
  clear hK1 K1
  try simp only [Act.put, List.setIfInBounds_toArray, List.set_cons_zero, List.set_cons_succ]
  refine wpAnyH_take (i := 21) (v := ?v37) (by rw [List.getElem?_toArray]; exact rfl) (by kernel_rfl) (by kernel_rfl) (by kernel_rfl) (fun _ _ _ h => h) (Or.inl ⟨by rfl, ?hy37⟩) (by assumption) ?rest37
  case hy37 => intro w hSw; (try dsimp only at hSw); go_simp; (try with_reducible rfl)
  try simp only [Act.put, List.setIfInBounds_toArray, List.set_cons_zero, List.set_cons_succ]
  refine wpAnyH_take (i := 22) (v := ?v38) (by rw [List.getElem?_toArray]; exact rfl) (by kernel_rfl) (by kernel_rfl) (by kernel_rfl) (fun _ _ _ h => h) (Or.inl ⟨by rfl, ?hy38⟩) (by assumption) ?rest38
  case hy38 => intro w hSw; (try dsimp only at hSw); go_simp; (try with_reducible rfl)
  try simp only [Act.put, List.setIfInBounds_toArray, List.set_cons_zero, List.set_cons_succ]
  refine wpAnyH_done (by kernel_rfl) ?_ _
  refine NoPanic.normal ?_
  have HBF := Lib.hid (HV.out.trans ((below_call hb8 hb9).mono HV.out.size))
  clear hT0 hT1 hT2 hT3 hb9 hb8 HS HS2
  go_wp2_with fail
  go_ret
  exact ⟨rfl, HBF.out⟩

set_option maxRecDepth 1000000 in
set_option maxHeartbeats 6400000 in
theorem law04_bytes_sw (e : Ent) (ho : e.Ok) (p : Option Addr) (c : Nat) (xs : List Int) (hb : IsBytes xs) (hc : xs.length ≤ c) (hn : xs.length ≤ 60) (hl : ¬ 20 ≤ xs.length) (hr : ¬ rightE e) (w : World) (hx : ByS w p xs) (hf : Fit3 w) :
    Calls Tryd.prog 3 #[entV e, .slice p xs.length c] w fun e w' => e = .returned (.bool true) ∧ Below w.heap.size w w' := by
  have HF := Lib.hid hf
  have HX := Lib.hid hx
  have HBY := Lib.hid hb
  have HY0 : Hid (∀ W, Fit3 W → Calls Tryd.prog 8 #[] W fun e w' => e = .returned (.bool true) ∧ Below W.heap.size W w') := yes4
  have hR := fun W (hW : ByS W p xs) (hF : Fit3 W) => read4_any p c xs hb (by omega) hc W hW hF
  have hRR := fun W (hW : ByS W p xs) => refRead4_any p c xs hb (by omega) W hW
  have e1 : rdV xs = ⟨0, 0, 0, 0, 0, 0⟩ := if_neg hl
  have e2 : rdNo xs = 130 := if_neg hl
  rw [e1, e2] at hR hRR
  have HR := Lib.hid hR
  have HRR := Lib.hid hRR
  clear hR hRR e1 e2
  have HBX := Lib.hid (fun W (hF : Fit3 W) => bytesE_w ho hr W hF)
  have hRT : ∀ W, Calls Tryd.prog 13 #[entV e] W fun r w' => r = .returned (.bool false) ∧ Below W.heap.size W w' := fun W => by
    have := refRight4_any e W
    rwa [decide_eq_false hr] at this
  have HRT := Lib.hid hRT
  clear hRT hf hx hb hr ho
  obtain ⟨f, t, a, m, n, k⟩ := e
  have nl : ¬ 60 < (xs.length : Int) := by omega
  go_enter Tryd.func3, Tryd.ntmps3
  go_wp2_with fail
  have hv := Below.refl w.heap.size w
  have hv := hv.alloc hv.size (.cells #[.int .i64 f, .int .i64 t, .int .u32 a, .int .u32 m, .int .u32 n, .int .u32 k] 25)
  have xTX : Blk (w.alloc (.cells #[.int .i64 f, .int .i64 t, .int .u32 a, .int .u32 m, .int .u32 n, .int .u32 k] 25)) (w.heap.size) 25 #[.int .i64 f, .int .i64 t, .int .u32 a, .int .u32 m, .int .u32 n, .int .u32 k] := by
    have := Blk.new w 25 #[.int .i64 f, .int .i64 t, .int .u32 a, .int .u32 m, .int .u32 n, .int .u32 k]
    simpa using this
  generalize hvv : (w.alloc (.cells #[.int .i64 f, .int .i64 t, .int .u32 a, .int .u32 m, .int .u32 n, .int .u32 k] 25)) = v1 at *
  clear hvv
  have HV := Lib.hid hv
  have TX := Lib.hid xTX
  clear hv xTX
  refine (HR.out _ (HX.out.below HV.out) (HF.out.below HV.out)).mono ?_
  rintro e w1 ⟨rfl, hb⟩
  have hv := HV.out.trans (hb.mono HV.out.size)
  have xTX := TX.out.below hb TX.out.lt
  clear hb HV TX
  have HV := Lib.hid hv
  have TX := Lib.hid xTX
  clear hv xTX
  go_wp2_with fail
  have hv := HV.out
  have hv := hv.alloc hv.size (.cells #[.int .i64 0, .int .i64 0, .int .u32 0, .int .u32 0, .int .u32 0, .int .u32 0] 25)
  have xTX := (TX.out).alloc (.cells #[.int .i64 0, .int .i64 0, .int .u32 0, .int .u32 0, .int .u32 0, .int .u32 0] 25)
  have xTY : Blk (w1.alloc (.cells #[.int .i64 0, .int .i64 0, .int .u32 0, .int .u32 0, .int .u32 0, .int .u32 0] 25)) (w1.heap.size) 25 #[.int .i64 0, .int .i64 0, .int .u32 0, .int .u32 0, .int .u32 0, .int .u32 0] := by
    have := Blk.new w1 25 #[.int .i64 0, .int .i64 0, .int .u32 0, .int .u32 0, .int .u32 0, .int .u32 0]
    simpa using this
  generalize hvv : (w1.alloc (.cells #[.int .i64 0, .int .i64 0, .int .u32 0, .int .u32 0, .int .u32 0, .int .u32 0] 25)) = v2 at *
  clear hvv
  generalize w1.heap.size = gTY at *
  clear HV TX
  have HV := Lib.hid hv
  have TX := Lib.hid xTX
  have TY := Lib.hid xTY
  clear hv xTX xTY
  refine (HRR.out _ (HX.out.below HV.out)).mono ?_
  rintro e w2 ⟨rfl, hb⟩
  have hv := HV.out.trans (hb.mono HV.out.size)
  have xTX := TX.out.below hb TX.out.lt
  have xTY := TY.out.below hb TY.out.lt
  clear hb HV TX TY
  have HV := Lib.hid hv
  have TX := Lib.hid xTX
  have TY := Lib.hid xTY
  clear hv xTX xTY
  have lTX := TX.out.lt
  have kTX0 := TX.out.cell 0
  have kTX1 := TX.out.cell 1
  have kTX2 := TX.out.cell 2
  have kTX3 := TX.out.cell 3
  have kTX4 := TX.out.cell 4
  have kTX5 := TX.out.cell 5
  have lTY := TY.out.lt
  have kTY0 := TY.out.cell 0
  have kTY1 := TY.out.cell 1
  have kTY2 := TY.out.cell 2
  have kTY3 := TY.out.cell 3
  have kTY4 := TY.out.cell 4
  have kTY5 := TY.out.cell 5
  simp only [List.getElem?_toArray, List.getElem?_cons_zero, List.getElem?_cons_succ] at kTX0 kTX1 kTX2 kTX3 kTX4 kTX5 kTY0 kTY1 kTY2 kTY3 kTY4 kTY5
  go_wp2_with fail
  clear lTX lTY kTX0 kTX1 kTX2 kTX3 kTX4 kTX5 kTY0 kTY1 kTY2 kTY3 kTY4 kTY5
  have hv := HV.out
  have hv := hv.alloc hv.size (.cells #[.int .i64 0, .int .i64 0, .int .u32 0, .int .u32 0, .int .u32 0, .int .u32 0] 25)
  have xTX := (TX.out).alloc (.cells #[.int .i64 0, .int .i64 0, .int .u32 0, .int .u32 0, .int .u32 0, .int .u32 0] 25)
  have xTY := (TY.out).alloc (.cells #[.int .i64 0, .int .i64 0, .int .u32 0, .int .u32 0, .int .u32 0, .int .u32 0] 25)
  have xTZ : Blk (w2.alloc (.cells #[.int .i64 0, .int .i64 0, .int .u32 0, .int .u32 0, .int .u32 0, .int .u32 0] 25)) (w2.heap.size) 25 #[.int .i64 0, .int .i64 0, .int .u32 0, .int .u32 0, .int .u32 0, .int .u32 0] := by
    have := Blk.new w2 25 #[.int .i64 0, .int .i64 0, .int .u32 0, .int .u32 0, .int .u32 0, .int .u32 0]
    simpa using this
  generalize hvv : (w2.alloc (.cells #[.int .i64 0, .int .i64 0, .int .u32 0, .int .u32 0, .int .u32 0, .int .u32 0] 25)) = v3 at *
  clear hvv
  generalize w2.heap.size = gTZ at *
  clear HV TX TY
  have HV := Lib.hid hv
  have TX := Lib.hid xTX
  have TY := Lib.hid xTY
  have TZ := Lib.hid xTZ
  clear hv xTX xTY xTZ
  have lTX := TX.out.lt
  have kTX0 := TX.out.cell 0
  have kTX1 := TX.out.cell 1
  have kTX2 := TX.out.cell 2
  have kTX3 := TX.out.cell 3
  have kTX4 := TX.out.cell 4
  have kTX5 := TX.out.cell 5
  have lTY := TY.out.lt
  have kTY0 := TY.out.cell 0
  have kTY1 := TY.out.cell 1
  have kTY2 := TY.out.cell 2
  have kTY3 := TY.out.cell 3
  have kTY4 := TY.out.cell 4
  have kTY5 := TY.out.cell 5
  simp only [List.getElem?_toArray, List.getElem?_cons_zero, List.getElem?_cons_succ] at kTX0 kTX1 kTX2 kTX3 kTX4 kTX5 kTY0 kTY1 kTY2 kTY3 kTY4 kTY5
  refine (num4_any _ _).mono ?_
  rintro e wn3 ⟨rfl, rfl⟩
  go_wp2_with fail
  refine (HBX.out _ (HF.out.below HV.out)).mono ?_
  rintro e w4 ⟨rfl, hb⟩
  clear lTX lTY kTX0 kTX1 kTX2 kTX3 kTX4 kTX5 kTY0 kTY1 kTY2 kTY3 kTY4 kTY5
  have hv := HV.out.trans (hb.mono HV.out.size)
  have xTX := TX.out.below hb TX.out.lt
  have xTY := TY.out.below hb TY.out.lt
  have xTZ := TZ.out.below hb TZ.out.lt
  clear hb HV TX TY TZ
  have HV := Lib.hid hv
  have TX := Lib.hid xTX
  have TY := Lib.hid xTY
  have TZ := Lib.hid xTZ
  clear hv xTX xTY xTZ
  have lTX := TX.out.lt
  have kTX0 := TX.out.cell 0
  have kTX1 := TX.out.cell 1
  have kTX2 := TX.out.cell 2
  have kTX3 := TX.out.cell 3
  have kTX4 := TX.out.cell 4
  have kTX5 := TX.out.cell 5
  simp only [List.getElem?_toArray, List.getElem?_cons_zero, List.getElem?_cons_succ] at kTX0 kTX1 kTX2 kTX3 kTX4 kTX5
  go_wp2_with fail
  refine (HRT.out _).mono ?_
  rintro e w5 ⟨rfl, hb⟩
  clear lTX kTX0 kTX1 kTX2 kTX3 kTX4 kTX5
  have hv := HV.out.trans (hb.mono HV.out.size)
  have xTX := TX.out.below hb TX.out.lt
  have xTY := TY.out.below hb TY.out.lt
  have xTZ := TZ.out.below hb TZ.out.lt
  clear hb HV TX TY TZ
  have HV := Lib.hid hv
  have TX := Lib.hid xTX
  have TY := Lib.hid xTY
  have TZ := Lib.hid xTZ
  clear hv xTX xTY xTZ
  go_wp2_with fail
  refine (num4_any _ _).mono ?_
  rintro e wn6 ⟨rfl, rfl⟩
  go_wp2_with fail
  refine (HY0.out _ (HF.out.below HV.out)).mono ?_
  rintro e w7 ⟨rfl, hb⟩
  have hv := HV.out.trans (hb.mono HV.out.size)
  have xTX := TX.out.below hb TX.out.lt
  have xTY := TY.out.below hb TY.out.lt
  have xTZ := TZ.out.below hb TZ.out.lt
  clear hb HV TX TY TZ
  have HV := Lib.hid hv
  have TX := Lib.hid xTX
  have TY := Lib.hid xTY
  have TZ := Lib.hid xTZ
  clear hv xTX xTY xTZ
  go_wp2_with fail
  go_ret
  exact ⟨rfl, HV.out⟩

set_option maxRecDepth 100000 in
theorem law04_bytes (e : Ent) (ho : e.Ok) (p : Option Addr) (c : Nat) (xs : List Int) (hb : IsBytes xs) (hc : xs.length ≤ c) (w : World) (hx : ByS w p xs) (hf : Fit3 w) :
    Calls Tryd.prog 3 #[entV e, .slice p xs.length c] w fun e w' => e = .returned (.bool true) ∧ Below w.heap.size w w' := by
  by_cases hn : xs.length ≤ 60
  · by_cases hl : 20 ≤ xs.length
    · by_cases hr : rightE e
      · exact law04_bytes_lr e ho p c xs hb hc hn hl hr w hx hf
      · exact law04_bytes_lw e ho p c xs hb hc hn hl hr w hx hf
    · by_cases hr : rightE e
      · exact law04_bytes_sr e ho p c xs hb hc hn hl hr w hx hf
      · exact law04_bytes_sw e ho p c xs hb hc hn hl hr w hx hf
  · obtain ⟨f, t, a, m, n, k⟩ := e
    have nl : 60 < (xs.length : Int) := by omega
    have HF := Lib.hid hf
    have HBW := Lib.hid (bigE w (.cells #[.int .i64 f, .int .i64 t, .int .u32 a, .int .u32 m, .int .u32 n, .int .u32 k] 25))
    clear hx hb hf ho hc hn
    go_enter Tryd.func3, Tryd.ntmps3
    go_wp2_with fail
    refine (yes4 _ (HF.out.below HBW.out)).mono ?_
    rintro r w1 ⟨rfl, hb1⟩
    go_wp2_with fail
    go_ret
    exact ⟨rfl, HBW.out.trans (hb1.mono HBW.out.size)⟩
end Go.Proofs.YtfbfdjcdjogefaaDoor
