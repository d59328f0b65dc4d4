/- The walk of PacketHolds (laid by tools/gen/x20.py). -/
import Derived.Test.YtehhablobfaplaaDoorX19
namespace Go.Proofs.YtehhablobfaplaaDoor
open Go Go.RowKit Go.Shelf Go.Sort
attribute [local go_sem] Oper.semAt_some
attribute [local irreducible] wpQuiet


set_option maxRecDepth 1000000 in
set_option maxHeartbeats 6400000 in
theorem law05_holds_big1 (c : Int) (A : Option Addr) (ca : Nat) (l : List Ent) (ho : OkL l) (c2 : Int) (B : Option Addr) (cb : Nat) (l2 : List Ent) (ho2 : OkL l2) (at_ wt : Int) (hl : 40 < l.length) (w : World) (hA : EntS w A l) (hB : EntS w B l2) (hf : Fit3 w) :
    Calls Tryd.prog 7 #[datV c A l.length ca, datV c2 B l2.length cb, .int .i64 at_, .int .u8 wt] w fun e w' => e = .returned (.bool true) ∧ Below w.heap.size w w' := by
  have HF := Lib.hid hf
  have HA := Lib.hid hA
  have HB := Lib.hid hB
  have HO := Lib.hid ho
  have HO2 := Lib.hid ho2
  have HY0 : Hid (∀ W, Fit3 W → Calls Tryd.prog 8 #[] W fun e w' => e = .returned (.bool true) ∧ Below W.heap.size W w') := yes5
  clear hf hA hB ho ho2
  have nl : 40 < (l.length : Int) := by omega
  go_enter Tryd.func7, Tryd.ntmps7
  go_wp2_with fail
  have hv := Below.refl w.heap.size w
  have hv := hv.alloc hv.size (.cells #[.int .i64 c, .slice A l.length ca] 25)
  have hv := hv.alloc hv.size (.cells #[.int .i64 c2, .slice B l2.length cb] 25)
  have xTX : Blk ((w.alloc (.cells #[.int .i64 c, .slice A l.length ca] 25)).alloc (.cells #[.int .i64 c2, .slice B l2.length cb] 25)) (w.heap.size) 25 #[.int .i64 c, .slice A l.length ca] := by
    have := (Blk.new w 25 #[.int .i64 c, .slice A l.length ca]).alloc (.cells #[.int .i64 c2, .slice B l2.length cb] 25)
    simpa using this
  have xTZ : Blk ((w.alloc (.cells #[.int .i64 c, .slice A l.length ca] 25)).alloc (.cells #[.int .i64 c2, .slice B l2.length cb] 25)) (w.heap.size + 1) 25 #[.int .i64 c2, .slice B l2.length cb] := by
    have := Blk.new (w.alloc (.cells #[.int .i64 c, .slice A l.length ca] 25)) 25 #[.int .i64 c2, .slice B l2.length cb]
    simpa using this
  generalize hvv : ((w.alloc (.cells #[.int .i64 c, .slice A l.length ca] 25)).alloc (.cells #[.int .i64 c2, .slice B l2.length cb] 25)) = v1 at *
  clear hvv
  have HV := Lib.hid hv
  have TX := Lib.hid xTX
  have TZ := Lib.hid xTZ
  clear hv xTX xTZ
  have lTX := TX.out.lt
  have kTX0 := TX.out.cell 0
  have kTX1 := TX.out.cell 1
  have lTZ := TZ.out.lt
  have kTZ0 := TZ.out.cell 0
  have kTZ1 := TZ.out.cell 1
  simp only [List.getElem?_toArray, List.getElem?_cons_zero, List.getElem?_cons_succ] at kTX0 kTX1 kTZ0 kTZ1
  go_wp2_with fail
  refine (HY0.out _ (HF.out.below HV.out)).mono ?_
  rintro e w1 ⟨rfl, hb⟩
  clear lTX lTZ kTX0 kTX1 kTZ0 kTZ1
  have hv := HV.out.trans (hb.mono HV.out.size)
  have xTX := TX.out.below hb TX.out.lt
  have xTZ := TZ.out.below hb TZ.out.lt
  clear hb HV TX TZ
  have HV := Lib.hid hv
  have TX := Lib.hid xTX
  have TZ := Lib.hid xTZ
  clear hv xTX xTZ
  go_wp2_with fail
  go_ret
  exact ⟨rfl, HV.out⟩

set_option maxRecDepth 1000000 in
set_option maxHeartbeats 6400000 in
theorem law05_holds_big2 (c : Int) (A : Option Addr) (ca : Nat) (l : List Ent) (ho : OkL l) (c2 : Int) (B : Option Addr) (cb : Nat) (l2 : List Ent) (ho2 : OkL l2) (at_ wt : Int) (hl : l.length ≤ 40) (hl2 : 40 < l2.length) (w : World) (hA : EntS w A l) (hB : EntS w B l2) (hf : Fit3 w) :
    Calls Tryd.prog 7 #[datV c A l.length ca, datV c2 B l2.length cb, .int .i64 at_, .int .u8 wt] w fun e w' => e = .returned (.bool true) ∧ Below w.heap.size w w' := by
  have HF := Lib.hid hf
  have HA := Lib.hid hA
  have HB := Lib.hid hB
  have HO := Lib.hid ho
  have HO2 := Lib.hid ho2
  have HY0 : Hid (∀ W, Fit3 W → Calls Tryd.prog 8 #[] W fun e w' => e = .returned (.bool true) ∧ Below W.heap.size W w') := yes5
  clear hf hA hB ho ho2
  have nl : ¬ 40 < (l.length : Int) := by omega
  have nl2 : 40 < (l2.length : Int) := by omega
  go_enter Tryd.func7, Tryd.ntmps7
  go_wp2_with fail
  have hv := Below.refl w.heap.size w
  have hv := hv.alloc hv.size (.cells #[.int .i64 c, .slice A l.length ca] 25)
  have hv := hv.alloc hv.size (.cells #[.int .i64 c2, .slice B l2.length cb] 25)
  have xTX : Blk ((w.alloc (.cells #[.int .i64 c, .slice A l.length ca] 25)).alloc (.cells #[.int .i64 c2, .slice B l2.length cb] 25)) (w.heap.size) 25 #[.int .i64 c, .slice A l.length ca] := by
    have := (Blk.new w 25 #[.int .i64 c, .slice A l.length ca]).alloc (.cells #[.int .i64 c2, .slice B l2.length cb] 25)
    simpa using this
  have xTZ : Blk ((w.alloc (.cells #[.int .i64 c, .slice A l.length ca] 25)).alloc (.cells #[.int .i64 c2, .slice B l2.length cb] 25)) (w.heap.size + 1) 25 #[.int .i64 c2, .slice B l2.length cb] := by
    have := Blk.new (w.alloc (.cells #[.int .i64 c, .slice A l.length ca] 25)) 25 #[.int .i64 c2, .slice B l2.length cb]
    simpa using this
  generalize hvv : ((w.alloc (.cells #[.int .i64 c, .slice A l.length ca] 25)).alloc (.cells #[.int .i64 c2, .slice B l2.length cb] 25)) = v1 at *
  clear hvv
  have HV := Lib.hid hv
  have TX := Lib.hid xTX
  have TZ := Lib.hid xTZ
  clear hv xTX xTZ
  have lTX := TX.out.lt
  have kTX0 := TX.out.cell 0
  have kTX1 := TX.out.cell 1
  have lTZ := TZ.out.lt
  have kTZ0 := TZ.out.cell 0
  have kTZ1 := TZ.out.cell 1
  simp only [List.getElem?_toArray, List.getElem?_cons_zero, List.getElem?_cons_succ] at kTX0 kTX1 kTZ0 kTZ1
  go_wp2_with fail
  refine (HY0.out _ (HF.out.below HV.out)).mono ?_
  rintro e w1 ⟨rfl, hb⟩
  clear lTX lTZ kTX0 kTX1 kTZ0 kTZ1
  have hv := HV.out.trans (hb.mono HV.out.size)
  have xTX := TX.out.below hb TX.out.lt
  have xTZ := TZ.out.below hb TZ.out.lt
  clear hb HV TX TZ
  have HV := Lib.hid hv
  have TX := Lib.hid xTX
  have TZ := Lib.hid xTZ
  clear hv xTX xTZ
  go_wp2_with fail
  go_ret
  exact ⟨rfl, HV.out⟩

set_option maxRecDepth 1000000 in
set_option maxHeartbeats 6400000 in
theorem law05_holds_e1 (c : Int) (A : Option Addr) (ca : Nat) (l : List Ent) (ho : OkL l) (c2 : Int) (B : Option Addr) (cb : Nat) (l2 : List Ent) (ho2 : OkL l2) (at_ wt : Int) (hl : l.length ≤ 40) (hl2 : l2.length ≤ 40) (h0 : ¬ encNo ⟨c, l⟩ = 0) (hr1 : 0 ≤ encNo ⟨c, l⟩ ∧ encNo ⟨c, l⟩ ≤ 3) (h2 : encNo ⟨c2, l2⟩ = 0)  (w : World) (hA : EntS w A l) (hB : EntS w B l2) (hf : Fit3 w) :
    Calls Tryd.prog 7 #[datV c A l.length ca, datV c2 B l2.length cb, .int .i64 at_, .int .u8 wt] w fun e w' => e = .returned (.bool true) ∧ Below w.heap.size w w' := by
  have HF := Lib.hid hf
  have HA := Lib.hid hA
  have HB := Lib.hid hB
  have HO := Lib.hid ho
  have HO2 := Lib.hid ho2
  have HY0 : Hid (∀ W, Fit3 W → Calls Tryd.prog 8 #[] W fun e w' => e = .returned (.bool true) ∧ Below W.heap.size W w') := yes5
  clear hf hA hB ho ho2
  have nl : ¬ 40 < (l.length : Int) := by omega
  have nl2 : ¬ 40 < (l2.length : Int) := by omega
  have hE := fun W (h : EntS W A l) (hF : Fit3 W) => encode5_no c A ca l (by omega) HO.out W h hF h0
  have hG := fun W (h : EntS W B l2) (hF : Fit3 W) => encode5_yes c2 B cb l2 (by omega) HO2.out W h hF h2
  have HE := Lib.hid hE
  have HG := Lib.hid hG
  clear hE hG
  generalize encNo ⟨c, l⟩ = no1 at *
  have hn1 : 0 ≤ no1 ∧ no1 ≤ 3 := hr1
  clear hr1
  generalize bytesD ⟨c2, l2⟩ = bs2 at *
  have hsw : IntKind.i64.wrap no1 = no1 := by rw [IntKind.wrap_i64]; omega
  have hzq : (no1 == 0) = false := by simpa using h0
  clear hn1
  go_enter Tryd.func7, Tryd.ntmps7
  go_wp2_with fail
  have hv := Below.refl w.heap.size w
  have hv := hv.alloc hv.size (.cells #[.int .i64 c, .slice A l.length ca] 25)
  have hv := hv.alloc hv.size (.cells #[.int .i64 c2, .slice B l2.length cb] 25)
  have xTX : Blk ((w.alloc (.cells #[.int .i64 c, .slice A l.length ca] 25)).alloc (.cells #[.int .i64 c2, .slice B l2.length cb] 25)) (w.heap.size) 25 #[.int .i64 c, .slice A l.length ca] := by
    have := (Blk.new w 25 #[.int .i64 c, .slice A l.length ca]).alloc (.cells #[.int .i64 c2, .slice B l2.length cb] 25)
    simpa using this
  have xTZ : Blk ((w.alloc (.cells #[.int .i64 c, .slice A l.length ca] 25)).alloc (.cells #[.int .i64 c2, .slice B l2.length cb] 25)) (w.heap.size + 1) 25 #[.int .i64 c2, .slice B l2.length cb] := by
    have := Blk.new (w.alloc (.cells #[.int .i64 c, .slice A l.length ca] 25)) 25 #[.int .i64 c2, .slice B l2.length cb]
    simpa using this
  generalize hvv : ((w.alloc (.cells #[.int .i64 c, .slice A l.length ca] 25)).alloc (.cells #[.int .i64 c2, .slice B l2.length cb] 25)) = v1 at *
  clear hvv
  have HV := Lib.hid hv
  have TX := Lib.hid xTX
  have TZ := Lib.hid xTZ
  clear hv xTX xTZ
  have lTX := TX.out.lt
  have kTX0 := TX.out.cell 0
  have kTX1 := TX.out.cell 1
  have lTZ := TZ.out.lt
  have kTZ0 := TZ.out.cell 0
  have kTZ1 := TZ.out.cell 1
  simp only [List.getElem?_toArray, List.getElem?_cons_zero, List.getElem?_cons_succ] at kTX0 kTX1 kTZ0 kTZ1
  go_wp2_with fail
  refine (HE.out _ (HA.out.below HV.out) (HF.out.below HV.out)).mono ?_
  rintro e w1 ⟨rfl, hb⟩
  clear lTX lTZ kTX0 kTX1 kTZ0 kTZ1
  have hv := HV.out.trans (hb.mono HV.out.size)
  have xTX := TX.out.below hb TX.out.lt
  have xTZ := TZ.out.below hb TZ.out.lt
  clear hb HV TX TZ
  have HV := Lib.hid hv
  have TX := Lib.hid xTX
  have TZ := Lib.hid xTZ
  clear hv xTX xTZ
  have lTX := TX.out.lt
  have kTX0 := TX.out.cell 0
  have kTX1 := TX.out.cell 1
  have lTZ := TZ.out.lt
  have kTZ0 := TZ.out.cell 0
  have kTZ1 := TZ.out.cell 1
  simp only [List.getElem?_toArray, List.getElem?_cons_zero, List.getElem?_cons_succ] at kTX0 kTX1 kTZ0 kTZ1
  go_wp2_with fail
  refine (HG.out _ (HB.out.below HV.out) (HF.out.below HV.out)).mono ?_
  rintro e w2 ⟨⟨v, rfl, hob⟩, hb⟩
  clear lTX lTZ kTX0 kTX1 kTZ0 kTZ1
  have hv := HV.out.trans (hb.mono HV.out.size)
  have xTX := TX.out.below hb TX.out.lt
  have xTZ := TZ.out.below hb TZ.out.lt
  clear hb HV TX TZ
  have HV := Lib.hid hv
  have TX := Lib.hid xTX
  have TZ := Lib.hid xTZ
  clear hv xTX xTZ
  obtain ⟨p2, c2_, rfl, m2, y2, _⟩ := OwnB.byS hob
  have HY2 := Lib.hid y2
  clear hob y2
  have lTX := TX.out.lt
  have kTX0 := TX.out.cell 0
  have kTX1 := TX.out.cell 1
  have lTZ := TZ.out.lt
  have kTZ0 := TZ.out.cell 0
  have kTZ1 := TZ.out.cell 1
  simp only [List.getElem?_toArray, List.getElem?_cons_zero, List.getElem?_cons_succ] at kTX0 kTX1 kTZ0 kTZ1
  clear HE HG
  go_wp2_with fail
  clear lTX lTZ kTX0 kTX1 kTZ0 kTZ1
  have kTX0 := TX.out.cell 0
  have kTX1 := TX.out.cell 1
  have kTZ0 := TZ.out.cell 0
  have kTZ1 := TZ.out.cell 1
  simp only [List.getElem?_toArray, List.getElem?_cons_zero, List.getElem?_cons_succ] at kTX0 kTX1 kTZ0 kTZ1
  have rkTX0 := cell_regrown kTX0
  have rkTX1 := cell_regrown kTX1
  have rkTZ0 := cell_regrown kTZ0
  have rkTZ1 := cell_regrown kTZ1
  have cN : ∀ (n : Int) d os, Calls Tryd.prog 11 #[.int .i64 n] (grow (redrawn w2 d) os) fun e w'' => e = .returned (.int .i64 n) ∧ ∃ p : Regrown, w'' = grow (redrawn w2 p.d) p.os := fun n d os => Calls.regrown_of ((num5_any n _).mono fun _ _ ⟨he, hw⟩ => ⟨he, by rw [← hw]; exact Below.refl _ _⟩)
  clear kTX0 kTX1 kTZ0 kTZ1
  refine wp_region_quiet_below (by kernel_rfl) (by kernel_rfl) ?_
  try simp only [List.append_eq, List.cons_append, List.nil_append]
  repeat (go_big_quiet_step (first | (with_reducible exact cN _ _ _)))
  refine wpQuiet_nil ?_
  intro wq hwq
  obtain ⟨⟨dq, osq⟩, rfl⟩ := hwq
  have hb := below_regrown w2 dq osq
  have hv := HV.out.trans (hb.mono HV.out.size)
  have xTX := TX.out.below hb TX.out.lt
  have xTZ := TZ.out.below hb TZ.out.lt
  generalize grow (redrawn w2 dq) osq = w3 at *
  clear hb HV TX TZ rkTX0 rkTX1 rkTZ0 rkTZ1 cN
  have HV := Lib.hid hv
  have TX := Lib.hid xTX
  have TZ := Lib.hid xTZ
  clear hv xTX xTZ
  have lTX := TX.out.lt
  have kTX0 := TX.out.cell 0
  have kTX1 := TX.out.cell 1
  have lTZ := TZ.out.lt
  have kTZ0 := TZ.out.cell 0
  have kTZ1 := TZ.out.cell 1
  simp only [List.getElem?_toArray, List.getElem?_cons_zero, List.getElem?_cons_succ] at kTX0 kTX1 kTZ0 kTZ1
  go_wp2_with fail
  refine (num5_any _ _).mono ?_
  rintro e wn4 ⟨rfl, rfl⟩
  go_wp2_with fail
  refine (HY0.out _ (HF.out.below HV.out)).mono ?_
  rintro e w5 ⟨rfl, hb⟩
  clear lTX lTZ kTX0 kTX1 kTZ0 kTZ1
  have hv := HV.out.trans (hb.mono HV.out.size)
  have xTX := TX.out.below hb TX.out.lt
  have xTZ := TZ.out.below hb TZ.out.lt
  clear hb HV TX TZ
  have HV := Lib.hid hv
  have TX := Lib.hid xTX
  have TZ := Lib.hid xTZ
  clear hv xTX xTZ
  go_wp2_with fail
  go_ret
  exact ⟨rfl, HV.out⟩

set_option maxRecDepth 1000000 in
set_option maxHeartbeats 6400000 in
theorem law05_holds_stop11 (c : Int) (A : Option Addr) (ca : Nat) (l : List Ent) (ho : OkL l) (c2 : Int) (B : Option Addr) (cb : Nat) (l2 : List Ent) (ho2 : OkL l2) (at_ wt : Int) (hl : l.length ≤ 40) (hl2 : l2.length ≤ 40) (h0 : encNo ⟨c, l⟩ = 0) (h2 : encNo ⟨c2, l2⟩ = 0) (ha : at_ < 0) (w : World) (hA : EntS w A l) (hB : EntS w B l2) (hf : Fit3 w) :
    Calls Tryd.prog 7 #[datV c A l.length ca, datV c2 B l2.length cb, .int .i64 at_, .int .u8 wt] w fun e w' => e = .returned (.bool true) ∧ Below w.heap.size w w' := by
  have HF := Lib.hid hf
  have HA := Lib.hid hA
  have HB := Lib.hid hB
  have HO := Lib.hid ho
  have HO2 := Lib.hid ho2
  have HY0 : Hid (∀ W, Fit3 W → Calls Tryd.prog 8 #[] W fun e w' => e = .returned (.bool true) ∧ Below W.heap.size W w') := yes5
  clear hf hA hB ho ho2
  have nl : ¬ 40 < (l.length : Int) := by omega
  have nl2 : ¬ 40 < (l2.length : Int) := by omega
  have hE := fun W (h : EntS W A l) (hF : Fit3 W) => encode5_yes c A ca l (by omega) HO.out W h hF h0
  have hN := bytesD_len ⟨c, l⟩
  have h25 := (encNo_zero.1 h0).2.1
  dsimp only at hN h25
  have hG := fun W (h : EntS W B l2) (hF : Fit3 W) => encode5_yes c2 B cb l2 (by omega) HO2.out W h hF h2
  have hst := strD_eq h0 h2 HO.out HO2.out
  dsimp only at hst
  have hS := fun W (h1 : EntS W A l) (h2 : EntS W B l2) => same5_any c c2 A B ca cb l l2 (by omega) (by omega) W h1 h2
  generalize decide (c = c2 ∧ l = l2) = q at *
  have HS := Lib.hid hS
  clear hS
  have HE := Lib.hid hE
  have HG := Lib.hid hG
  clear hE hG
  generalize bytesD ⟨c, l⟩ = bs at *
  have n4 : ¬ (bs.length : Int) < 4 := by omega
  have n5 : ¬ 504 < (bs.length : Int) := by omega
  have HN4 : Hid (4 ≤ bs.length ∧ bs.length ≤ 1000000) := Lib.hid (by omega)
  clear hN h25
  generalize bytesD ⟨c2, l2⟩ = bs2 at *
  go_enter Tryd.func7, Tryd.ntmps7
  go_wp2_with fail
  have hv := Below.refl w.heap.size w
  have hv := hv.alloc hv.size (.cells #[.int .i64 c, .slice A l.length ca] 25)
  have hv := hv.alloc hv.size (.cells #[.int .i64 c2, .slice B l2.length cb] 25)
  have xTX : Blk ((w.alloc (.cells #[.int .i64 c, .slice A l.length ca] 25)).alloc (.cells #[.int .i64 c2, .slice B l2.length cb] 25)) (w.heap.size) 25 #[.int .i64 c, .slice A l.length ca] := by
    have := (Blk.new w 25 #[.int .i64 c, .slice A l.length ca]).alloc (.cells #[.int .i64 c2, .slice B l2.length cb] 25)
    simpa using this
  have xTZ : Blk ((w.alloc (.cells #[.int .i64 c, .slice A l.length ca] 25)).alloc (.cells #[.int .i64 c2, .slice B l2.length cb] 25)) (w.heap.size + 1) 25 #[.int .i64 c2, .slice B l2.length cb] := by
    have := Blk.new (w.alloc (.cells #[.int .i64 c, .slice A l.length ca] 25)) 25 #[.int .i64 c2, .slice B l2.length cb]
    simpa using this
  generalize hvv : ((w.alloc (.cells #[.int .i64 c, .slice A l.length ca] 25)).alloc (.cells #[.int .i64 c2, .slice B l2.length cb] 25)) = v1 at *
  clear hvv
  have HV := Lib.hid hv
  have TX := Lib.hid xTX
  have TZ := Lib.hid xTZ
  clear hv xTX xTZ
  have lTX := TX.out.lt
  have kTX0 := TX.out.cell 0
  have kTX1 := TX.out.cell 1
  have lTZ := TZ.out.lt
  have kTZ0 := TZ.out.cell 0
  have kTZ1 := TZ.out.cell 1
  simp only [List.getElem?_toArray, List.getElem?_cons_zero, List.getElem?_cons_succ] at kTX0 kTX1 kTZ0 kTZ1
  go_wp2_with fail
  refine (HE.out _ (HA.out.below HV.out) (HF.out.below HV.out)).mono ?_
  rintro e w1 ⟨⟨v, rfl, hob⟩, hb⟩
  clear lTX lTZ kTX0 kTX1 kTZ0 kTZ1
  have hv := HV.out.trans (hb.mono HV.out.size)
  have xTX := TX.out.below hb TX.out.lt
  have xTZ := TZ.out.below hb TZ.out.lt
  clear hb HV TX TZ
  have HV := Lib.hid hv
  have TX := Lib.hid xTX
  have TZ := Lib.hid xTZ
  clear hv xTX xTZ
  obtain ⟨p1, c1, rfl, m1, y1, _⟩ := OwnB.byS hob
  have HY1 := Lib.hid y1
  clear hob y1
  have lTX := TX.out.lt
  have kTX0 := TX.out.cell 0
  have kTX1 := TX.out.cell 1
  have lTZ := TZ.out.lt
  have kTZ0 := TZ.out.cell 0
  have kTZ1 := TZ.out.cell 1
  simp only [List.getElem?_toArray, List.getElem?_cons_zero, List.getElem?_cons_succ] at kTX0 kTX1 kTZ0 kTZ1
  go_wp2_with fail
  refine (HG.out _ (HB.out.below HV.out) (HF.out.below HV.out)).mono ?_
  rintro e w2 ⟨⟨v, rfl, hob⟩, hb⟩
  clear lTX lTZ kTX0 kTX1 kTZ0 kTZ1
  have hv := HV.out.trans (hb.mono HV.out.size)
  have xTX := TX.out.below hb TX.out.lt
  have xTZ := TZ.out.below hb TZ.out.lt
  have yHY1 := HY1.out.below hb
  clear hb HV TX TZ
  have HV := Lib.hid hv
  have TX := Lib.hid xTX
  have TZ := Lib.hid xTZ
  clear hv xTX xTZ
  clear HY1
  have HY1 := Lib.hid yHY1
  clear yHY1
  obtain ⟨p2, c2_, rfl, m2, y2, _⟩ := OwnB.byS hob
  have HY2 := Lib.hid y2
  clear hob y2
  have lTX := TX.out.lt
  have kTX0 := TX.out.cell 0
  have kTX1 := TX.out.cell 1
  have lTZ := TZ.out.lt
  have kTZ0 := TZ.out.cell 0
  have kTZ1 := TZ.out.cell 1
  simp only [List.getElem?_toArray, List.getElem?_cons_zero, List.getElem?_cons_succ] at kTX0 kTX1 kTZ0 kTZ1
  clear HE HG
  go_wp2_with fail
  have e3 : ∀ d os, Sem.run Tryd.prog (convert 27 9 (.slice p1 bs.length c1)) (grow (redrawn w2 d) os) = .ok (.string (strOfNums bs)) (grow (redrawn w2 d) os) := fun d os => conv_bytes (HY1.out.below (below_regrown w2 d os)) c1
  have e4 : ∀ d os, Sem.run Tryd.prog (convert 27 9 (.slice p2 bs2.length c2_)) (grow (redrawn w2 d) os) = .ok (.string (strOfNums bs2)) (grow (redrawn w2 d) os) := fun d os => conv_bytes (HY2.out.below (below_regrown w2 d os)) c2_
  generalize strOfNums bs = st1 at *
  generalize strOfNums bs2 = st2 at *
  clear HY2
  clear lTX lTZ kTX0 kTX1 kTZ0 kTZ1
  have kTX0 := TX.out.cell 0
  have kTX1 := TX.out.cell 1
  have kTZ0 := TZ.out.cell 0
  have kTZ1 := TZ.out.cell 1
  simp only [List.getElem?_toArray, List.getElem?_cons_zero, List.getElem?_cons_succ] at kTX0 kTX1 kTZ0 kTZ1
  have rkTX0 := cell_regrown kTX0
  have rkTX1 := cell_regrown kTX1
  have rkTZ0 := cell_regrown kTZ0
  have rkTZ1 := cell_regrown kTZ1
  have cN : ∀ (n : Int) d os, Calls Tryd.prog 11 #[.int .i64 n] (grow (redrawn w2 d) os) fun e w'' => e = .returned (.int .i64 n) ∧ ∃ p : Regrown, w'' = grow (redrawn w2 p.d) p.os := fun n d os => Calls.regrown_of ((num5_any n _).mono fun _ _ ⟨he, hw⟩ => ⟨he, by rw [← hw]; exact Below.refl _ _⟩)
  have cS : ∀ d os, Calls Tryd.prog 22 #[.agg #[.int .i64 c, .slice A l.length ca], .agg #[.int .i64 c2, .slice B l2.length cb]] (grow (redrawn w2 d) os) fun e w'' => e = .returned (.bool q) ∧ ∃ p : Regrown, w'' = grow (redrawn w2 p.d) p.os := fun d os => Calls.regrown_of (HS.out _ (HA.out.below (HV.out.trans ((below_regrown w2 d os).mono HV.out.size))) (HB.out.below (HV.out.trans ((below_regrown w2 d os).mono HV.out.size))))
  clear kTX0 kTX1 kTZ0 kTZ1
  refine wp_region_quiet_below (by kernel_rfl) (by kernel_rfl) ?_
  try simp only [List.append_eq, List.cons_append, List.nil_append]
  repeat (go_big_quiet_step (first | (with_reducible exact cN _ _ _) | (with_reducible exact cS _ _)))
  refine wpQuiet_nil ?_
  intro wq hwq
  obtain ⟨⟨dq, osq⟩, rfl⟩ := hwq
  have hb := below_regrown w2 dq osq
  have yHY1 := HY1.out.below hb
  have hv := HV.out.trans (hb.mono HV.out.size)
  have xTX := TX.out.below hb TX.out.lt
  have xTZ := TZ.out.below hb TZ.out.lt
  generalize grow (redrawn w2 dq) osq = w3 at *
  clear hb HV TX TZ rkTX0 rkTX1 rkTZ0 rkTZ1 cN cS
  have HV := Lib.hid hv
  have TX := Lib.hid xTX
  have TZ := Lib.hid xTZ
  clear hv xTX xTZ
  clear HY1
  have HY1 := Lib.hid yHY1
  clear yHY1
  have lTX := TX.out.lt
  have kTX0 := TX.out.cell 0
  have kTX1 := TX.out.cell 1
  have lTZ := TZ.out.lt
  have kTZ0 := TZ.out.cell 0
  have kTZ1 := TZ.out.cell 1
  simp only [List.getElem?_toArray, List.getElem?_cons_zero, List.getElem?_cons_succ] at kTX0 kTX1 kTZ0 kTZ1
  clear e3 e4 hst
  go_wp2_with fail
  refine (num5_any _ _).mono ?_
  rintro e wn4 ⟨rfl, rfl⟩
  go_wp2_with fail
  refine (HY0.out _ (HF.out.below HV.out)).mono ?_
  rintro e w5 ⟨rfl, hb⟩
  clear lTX lTZ kTX0 kTX1 kTZ0 kTZ1
  have hv := HV.out.trans (hb.mono HV.out.size)
  have xTX := TX.out.below hb TX.out.lt
  have xTZ := TZ.out.below hb TZ.out.lt
  have yHY1 := HY1.out.below hb
  clear hb HV TX TZ
  have HV := Lib.hid hv
  have TX := Lib.hid xTX
  have TZ := Lib.hid xTZ
  clear hv xTX xTZ
  clear HY1
  have HY1 := Lib.hid yHY1
  clear yHY1
  go_wp2_with fail
  go_ret
  exact ⟨rfl, HV.out⟩

set_option maxRecDepth 1000000 in
set_option maxHeartbeats 6400000 in
theorem law05_holds_stop21 (c : Int) (A : Option Addr) (ca : Nat) (l : List Ent) (ho : OkL l) (c2 : Int) (B : Option Addr) (cb : Nat) (l2 : List Ent) (ho2 : OkL l2) (at_ wt : Int) (hl : l.length ≤ 40) (hl2 : l2.length ≤ 40) (h0 : encNo ⟨c, l⟩ = 0) (h2 : encNo ⟨c2, l2⟩ = 0) (ha : ¬ at_ < 0) (hb : 3 < at_) (w : World) (hA : EntS w A l) (hB : EntS w B l2) (hf : Fit3 w) :
    Calls Tryd.prog 7 #[datV c A l.length ca, datV c2 B l2.length cb, .int .i64 at_, .int .u8 wt] w fun e w' => e = .returned (.bool true) ∧ Below w.heap.size w w' := by
  have HF := Lib.hid hf
  have HA := Lib.hid hA
  have HB := Lib.hid hB
  have HO := Lib.hid ho
  have HO2 := Lib.hid ho2
  have HY0 : Hid (∀ W, Fit3 W → Calls Tryd.prog 8 #[] W fun e w' => e = .returned (.bool true) ∧ Below W.heap.size W w') := yes5
  clear hf hA hB ho ho2
  have nl : ¬ 40 < (l.length : Int) := by omega
  have nl2 : ¬ 40 < (l2.length : Int) := by omega
  have hE := fun W (h : EntS W A l) (hF : Fit3 W) => encode5_yes c A ca l (by omega) HO.out W h hF h0
  have hN := bytesD_len ⟨c, l⟩
  have h25 := (encNo_zero.1 h0).2.1
  dsimp only at hN h25
  have hG := fun W (h : EntS W B l2) (hF : Fit3 W) => encode5_yes c2 B cb l2 (by omega) HO2.out W h hF h2
  have hst := strD_eq h0 h2 HO.out HO2.out
  dsimp only at hst
  have hS := fun W (h1 : EntS W A l) (h2 : EntS W B l2) => same5_any c c2 A B ca cb l l2 (by omega) (by omega) W h1 h2
  generalize decide (c = c2 ∧ l = l2) = q at *
  have HS := Lib.hid hS
  clear hS
  have HE := Lib.hid hE
  have HG := Lib.hid hG
  clear hE hG
  generalize bytesD ⟨c, l⟩ = bs at *
  have n4 : ¬ (bs.length : Int) < 4 := by omega
  have n5 : ¬ 504 < (bs.length : Int) := by omega
  have HN4 : Hid (4 ≤ bs.length ∧ bs.length ≤ 1000000) := Lib.hid (by omega)
  clear hN h25
  generalize bytesD ⟨c2, l2⟩ = bs2 at *
  go_enter Tryd.func7, Tryd.ntmps7
  go_wp2_with fail
  have hv := Below.refl w.heap.size w
  have hv := hv.alloc hv.size (.cells #[.int .i64 c, .slice A l.length ca] 25)
  have hv := hv.alloc hv.size (.cells #[.int .i64 c2, .slice B l2.length cb] 25)
  have xTX : Blk ((w.alloc (.cells #[.int .i64 c, .slice A l.length ca] 25)).alloc (.cells #[.int .i64 c2, .slice B l2.length cb] 25)) (w.heap.size) 25 #[.int .i64 c, .slice A l.length ca] := by
    have := (Blk.new w 25 #[.int .i64 c, .slice A l.length ca]).alloc (.cells #[.int .i64 c2, .slice B l2.length cb] 25)
    simpa using this
  have xTZ : Blk ((w.alloc (.cells #[.int .i64 c, .slice A l.length ca] 25)).alloc (.cells #[.int .i64 c2, .slice B l2.length cb] 25)) (w.heap.size + 1) 25 #[.int .i64 c2, .slice B l2.length cb] := by
    have := Blk.new (w.alloc (.cells #[.int .i64 c, .slice A l.length ca] 25)) 25 #[.int .i64 c2, .slice B l2.length cb]
    simpa using this
  generalize hvv : ((w.alloc (.cells #[.int .i64 c, .slice A l.length ca] 25)).alloc (.cells #[.int .i64 c2, .slice B l2.length cb] 25)) = v1 at *
  clear hvv
  have HV := Lib.hid hv
  have TX := Lib.hid xTX
  have TZ := Lib.hid xTZ
  clear hv xTX xTZ
  have lTX := TX.out.lt
  have kTX0 := TX.out.cell 0
  have kTX1 := TX.out.cell 1
  have lTZ := TZ.out.lt
  have kTZ0 := TZ.out.cell 0
  have kTZ1 := TZ.out.cell 1
  simp only [List.getElem?_toArray, List.getElem?_cons_zero, List.getElem?_cons_succ] at kTX0 kTX1 kTZ0 kTZ1
  go_wp2_with fail
  refine (HE.out _ (HA.out.below HV.out) (HF.out.below HV.out)).mono ?_
  rintro e w1 ⟨⟨v, rfl, hob⟩, hb⟩
  clear lTX lTZ kTX0 kTX1 kTZ0 kTZ1
  have hv := HV.out.trans (hb.mono HV.out.size)
  have xTX := TX.out.below hb TX.out.lt
  have xTZ := TZ.out.below hb TZ.out.lt
  clear hb HV TX TZ
  have HV := Lib.hid hv
  have TX := Lib.hid xTX
  have TZ := Lib.hid xTZ
  clear hv xTX xTZ
  obtain ⟨p1, c1, rfl, m1, y1, _⟩ := OwnB.byS hob
  have HY1 := Lib.hid y1
  clear hob y1
  have lTX := TX.out.lt
  have kTX0 := TX.out.cell 0
  have kTX1 := TX.out.cell 1
  have lTZ := TZ.out.lt
  have kTZ0 := TZ.out.cell 0
  have kTZ1 := TZ.out.cell 1
  simp only [List.getElem?_toArray, List.getElem?_cons_zero, List.getElem?_cons_succ] at kTX0 kTX1 kTZ0 kTZ1
  go_wp2_with fail
  refine (HG.out _ (HB.out.below HV.out) (HF.out.below HV.out)).mono ?_
  rintro e w2 ⟨⟨v, rfl, hob⟩, hb⟩
  clear lTX lTZ kTX0 kTX1 kTZ0 kTZ1
  have hv := HV.out.trans (hb.mono HV.out.size)
  have xTX := TX.out.below hb TX.out.lt
  have xTZ := TZ.out.below hb TZ.out.lt
  have yHY1 := HY1.out.below hb
  clear hb HV TX TZ
  have HV := Lib.hid hv
  have TX := Lib.hid xTX
  have TZ := Lib.hid xTZ
  clear hv xTX xTZ
  clear HY1
  have HY1 := Lib.hid yHY1
  clear yHY1
  obtain ⟨p2, c2_, rfl, m2, y2, _⟩ := OwnB.byS hob
  have HY2 := Lib.hid y2
  clear hob y2
  have lTX := TX.out.lt
  have kTX0 := TX.out.cell 0
  have kTX1 := TX.out.cell 1
  have lTZ := TZ.out.lt
  have kTZ0 := TZ.out.cell 0
  have kTZ1 := TZ.out.cell 1
  simp only [List.getElem?_toArray, List.getElem?_cons_zero, List.getElem?_cons_succ] at kTX0 kTX1 kTZ0 kTZ1
  clear HE HG
  go_wp2_with fail
  have e3 : ∀ d os, Sem.run Tryd.prog (convert 27 9 (.slice p1 bs.length c1)) (grow (redrawn w2 d) os) = .ok (.string (strOfNums bs)) (grow (redrawn w2 d) os) := fun d os => conv_bytes (HY1.out.below (below_regrown w2 d os)) c1
  have e4 : ∀ d os, Sem.run Tryd.prog (convert 27 9 (.slice p2 bs2.length c2_)) (grow (redrawn w2 d) os) = .ok (.string (strOfNums bs2)) (grow (redrawn w2 d) os) := fun d os => conv_bytes (HY2.out.below (below_regrown w2 d os)) c2_
  generalize strOfNums bs = st1 at *
  generalize strOfNums bs2 = st2 at *
  clear HY2
  clear lTX lTZ kTX0 kTX1 kTZ0 kTZ1
  have kTX0 := TX.out.cell 0
  have kTX1 := TX.out.cell 1
  have kTZ0 := TZ.out.cell 0
  have kTZ1 := TZ.out.cell 1
  simp only [List.getElem?_toArray, List.getElem?_cons_zero, List.getElem?_cons_succ] at kTX0 kTX1 kTZ0 kTZ1
  have rkTX0 := cell_regrown kTX0
  have rkTX1 := cell_regrown kTX1
  have rkTZ0 := cell_regrown kTZ0
  have rkTZ1 := cell_regrown kTZ1
  have cN : ∀ (n : Int) d os, Calls Tryd.prog 11 #[.int .i64 n] (grow (redrawn w2 d) os) fun e w'' => e = .returned (.int .i64 n) ∧ ∃ p : Regrown, w'' = grow (redrawn w2 p.d) p.os := fun n d os => Calls.regrown_of ((num5_any n _).mono fun _ _ ⟨he, hw⟩ => ⟨he, by rw [← hw]; exact Below.refl _ _⟩)
  have cS : ∀ d os, Calls Tryd.prog 22 #[.agg #[.int .i64 c, .slice A l.length ca], .agg #[.int .i64 c2, .slice B l2.length cb]] (grow (redrawn w2 d) os) fun e w'' => e = .returned (.bool q) ∧ ∃ p : Regrown, w'' = grow (redrawn w2 p.d) p.os := fun d os => Calls.regrown_of (HS.out _ (HA.out.below (HV.out.trans ((below_regrown w2 d os).mono HV.out.size))) (HB.out.below (HV.out.trans ((below_regrown w2 d os).mono HV.out.size))))
  clear kTX0 kTX1 kTZ0 kTZ1
  refine wp_region_quiet_below (by kernel_rfl) (by kernel_rfl) ?_
  try simp only [List.append_eq, List.cons_append, List.nil_append]
  repeat (go_big_quiet_step (first | (with_reducible exact cN _ _ _) | (with_reducible exact cS _ _)))
  refine wpQuiet_nil ?_
  intro wq hwq
  obtain ⟨⟨dq, osq⟩, rfl⟩ := hwq
  have hb := below_regrown w2 dq osq
  have yHY1 := HY1.out.below hb
  have hv := HV.out.trans (hb.mono HV.out.size)
  have xTX := TX.out.below hb TX.out.lt
  have xTZ := TZ.out.below hb TZ.out.lt
  generalize grow (redrawn w2 dq) osq = w3 at *
  clear hb HV TX TZ rkTX0 rkTX1 rkTZ0 rkTZ1 cN cS
  have HV := Lib.hid hv
  have TX := Lib.hid xTX
  have TZ := Lib.hid xTZ
  clear hv xTX xTZ
  clear HY1
  have HY1 := Lib.hid yHY1
  clear yHY1
  have lTX := TX.out.lt
  have kTX0 := TX.out.cell 0
  have kTX1 := TX.out.cell 1
  have lTZ := TZ.out.lt
  have kTZ0 := TZ.out.cell 0
  have kTZ1 := TZ.out.cell 1
  simp only [List.getElem?_toArray, List.getElem?_cons_zero, List.getElem?_cons_succ] at kTX0 kTX1 kTZ0 kTZ1
  clear e3 e4 hst
  go_wp2_with fail
  refine (num5_any _ _).mono ?_
  rintro e wn4 ⟨rfl, rfl⟩
  go_wp2_with fail
  refine (HY0.out _ (HF.out.below HV.out)).mono ?_
  rintro e w5 ⟨rfl, hb⟩
  clear lTX lTZ kTX0 kTX1 kTZ0 kTZ1
  have hv := HV.out.trans (hb.mono HV.out.size)
  have xTX := TX.out.below hb TX.out.lt
  have xTZ := TZ.out.below hb TZ.out.lt
  have yHY1 := HY1.out.below hb
  clear hb HV TX TZ
  have HV := Lib.hid hv
  have TX := Lib.hid xTX
  have TZ := Lib.hid xTZ
  clear hv xTX xTZ
  clear HY1
  have HY1 := Lib.hid yHY1
  clear yHY1
  go_wp2_with fail
  go_ret
  exact ⟨rfl, HV.out⟩

set_option maxRecDepth 1000000 in
set_option maxHeartbeats 6400000 in
theorem law05_holds_stop31 (c : Int) (A : Option Addr) (ca : Nat) (l : List Ent) (ho : OkL l) (c2 : Int) (B : Option Addr) (cb : Nat) (l2 : List Ent) (ho2 : OkL l2) (at_ : Int) (hl : l.length ≤ 40) (hl2 : l2.length ≤ 40) (h0 : encNo ⟨c, l⟩ = 0) (h2 : encNo ⟨c2, l2⟩ = 0) (ha : ¬ at_ < 0) (hb : ¬ 3 < at_) (w : World) (hA : EntS w A l) (hB : EntS w B l2) (hf : Fit3 w) :
    Calls Tryd.prog 7 #[datV c A l.length ca, datV c2 B l2.length cb, .int .i64 at_, .int .u8 0] w fun e w' => e = .returned (.bool true) ∧ Below w.heap.size w w' := by
  have HF := Lib.hid hf
  have HA := Lib.hid hA
  have HB := Lib.hid hB
  have HO := Lib.hid ho
  have HO2 := Lib.hid ho2
  have HY0 : Hid (∀ W, Fit3 W → Calls Tryd.prog 8 #[] W fun e w' => e = .returned (.bool true) ∧ Below W.heap.size W w') := yes5
  clear hf hA hB ho ho2
  have nl : ¬ 40 < (l.length : Int) := by omega
  have nl2 : ¬ 40 < (l2.length : Int) := by omega
  have hE := fun W (h : EntS W A l) (hF : Fit3 W) => encode5_yes c A ca l (by omega) HO.out W h hF h0
  have hN := bytesD_len ⟨c, l⟩
  have h25 := (encNo_zero.1 h0).2.1
  dsimp only at hN h25
  have hG := fun W (h : EntS W B l2) (hF : Fit3 W) => encode5_yes c2 B cb l2 (by omega) HO2.out W h hF h2
  have hst := strD_eq h0 h2 HO.out HO2.out
  dsimp only at hst
  have hS := fun W (h1 : EntS W A l) (h2 : EntS W B l2) => same5_any c c2 A B ca cb l l2 (by omega) (by omega) W h1 h2
  generalize decide (c = c2 ∧ l = l2) = q at *
  have HS := Lib.hid hS
  clear hS
  have HE := Lib.hid hE
  have HG := Lib.hid hG
  clear hE hG
  generalize bytesD ⟨c, l⟩ = bs at *
  have n4 : ¬ (bs.length : Int) < 4 := by omega
  have n5 : ¬ 504 < (bs.length : Int) := by omega
  have HN4 : Hid (4 ≤ bs.length ∧ bs.length ≤ 1000000) := Lib.hid (by omega)
  clear hN h25
  generalize bytesD ⟨c2, l2⟩ = bs2 at *
  go_enter Tryd.func7, Tryd.ntmps7
  go_wp2_with fail
  have hv := Below.refl w.heap.size w
  have hv := hv.alloc hv.size (.cells #[.int .i64 c, .slice A l.length ca] 25)
  have hv := hv.alloc hv.size (.cells #[.int .i64 c2, .slice B l2.length cb] 25)
  have xTX : Blk ((w.alloc (.cells #[.int .i64 c, .slice A l.length ca] 25)).alloc (.cells #[.int .i64 c2, .slice B l2.length cb] 25)) (w.heap.size) 25 #[.int .i64 c, .slice A l.length ca] := by
    have := (Blk.new w 25 #[.int .i64 c, .slice A l.length ca]).alloc (.cells #[.int .i64 c2, .slice B l2.length cb] 25)
    simpa using this
  have xTZ : Blk ((w.alloc (.cells #[.int .i64 c, .slice A l.length ca] 25)).alloc (.cells #[.int .i64 c2, .slice B l2.length cb] 25)) (w.heap.size + 1) 25 #[.int .i64 c2, .slice B l2.length cb] := by
    have := Blk.new (w.alloc (.cells #[.int .i64 c, .slice A l.length ca] 25)) 25 #[.int .i64 c2, .slice B l2.length cb]
    simpa using this
  generalize hvv : ((w.alloc (.cells #[.int .i64 c, .slice A l.length ca] 25)).alloc (.cells #[.int .i64 c2, .slice B l2.length cb] 25)) = v1 at *
  clear hvv
  have HV := Lib.hid hv
  have TX := Lib.hid xTX
  have TZ := Lib.hid xTZ
  clear hv xTX xTZ
  have lTX := TX.out.lt
  have kTX0 := TX.out.cell 0
  have kTX1 := TX.out.cell 1
  have lTZ := TZ.out.lt
  have kTZ0 := TZ.out.cell 0
  have kTZ1 := TZ.out.cell 1
  simp only [List.getElem?_toArray, List.getElem?_cons_zero, List.getElem?_cons_succ] at kTX0 kTX1 kTZ0 kTZ1
  go_wp2_with fail
  refine (HE.out _ (HA.out.below HV.out) (HF.out.below HV.out)).mono ?_
  rintro e w1 ⟨⟨v, rfl, hob⟩, hb⟩
  clear lTX lTZ kTX0 kTX1 kTZ0 kTZ1
  have hv := HV.out.trans (hb.mono HV.out.size)
  have xTX := TX.out.below hb TX.out.lt
  have xTZ := TZ.out.below hb TZ.out.lt
  clear hb HV TX TZ
  have HV := Lib.hid hv
  have TX := Lib.hid xTX
  have TZ := Lib.hid xTZ
  clear hv xTX xTZ
  obtain ⟨p1, c1, rfl, m1, y1, _⟩ := OwnB.byS hob
  have HY1 := Lib.hid y1
  clear hob y1
  have lTX := TX.out.lt
  have kTX0 := TX.out.cell 0
  have kTX1 := TX.out.cell 1
  have lTZ := TZ.out.lt
  have kTZ0 := TZ.out.cell 0
  have kTZ1 := TZ.out.cell 1
  simp only [List.getElem?_toArray, List.getElem?_cons_zero, List.getElem?_cons_succ] at kTX0 kTX1 kTZ0 kTZ1
  go_wp2_with fail
  refine (HG.out _ (HB.out.below HV.out) (HF.out.below HV.out)).mono ?_
  rintro e w2 ⟨⟨v, rfl, hob⟩, hb⟩
  clear lTX lTZ kTX0 kTX1 kTZ0 kTZ1
  have hv := HV.out.trans (hb.mono HV.out.size)
  have xTX := TX.out.below hb TX.out.lt
  have xTZ := TZ.out.below hb TZ.out.lt
  have yHY1 := HY1.out.below hb
  clear hb HV TX TZ
  have HV := Lib.hid hv
  have TX := Lib.hid xTX
  have TZ := Lib.hid xTZ
  clear hv xTX xTZ
  clear HY1
  have HY1 := Lib.hid yHY1
  clear yHY1
  obtain ⟨p2, c2_, rfl, m2, y2, _⟩ := OwnB.byS hob
  have HY2 := Lib.hid y2
  clear hob y2
  have lTX := TX.out.lt
  have kTX0 := TX.out.cell 0
  have kTX1 := TX.out.cell 1
  have lTZ := TZ.out.lt
  have kTZ0 := TZ.out.cell 0
  have kTZ1 := TZ.out.cell 1
  simp only [List.getElem?_toArray, List.getElem?_cons_zero, List.getElem?_cons_succ] at kTX0 kTX1 kTZ0 kTZ1
  clear HE HG
  go_wp2_with fail
  have e3 : ∀ d os, Sem.run Tryd.prog (convert 27 9 (.slice p1 bs.length c1)) (grow (redrawn w2 d) os) = .ok (.string (strOfNums bs)) (grow (redrawn w2 d) os) := fun d os => conv_bytes (HY1.out.below (below_regrown w2 d os)) c1
  have e4 : ∀ d os, Sem.run Tryd.prog (convert 27 9 (.slice p2 bs2.length c2_)) (grow (redrawn w2 d) os) = .ok (.string (strOfNums bs2)) (grow (redrawn w2 d) os) := fun d os => conv_bytes (HY2.out.below (below_regrown w2 d os)) c2_
  generalize strOfNums bs = st1 at *
  generalize strOfNums bs2 = st2 at *
  clear HY2
  clear lTX lTZ kTX0 kTX1 kTZ0 kTZ1
  have kTX0 := TX.out.cell 0
  have kTX1 := TX.out.cell 1
  have kTZ0 := TZ.out.cell 0
  have kTZ1 := TZ.out.cell 1
  simp only [List.getElem?_toArray, List.getElem?_cons_zero, List.getElem?_cons_succ] at kTX0 kTX1 kTZ0 kTZ1
  have rkTX0 := cell_regrown kTX0
  have rkTX1 := cell_regrown kTX1
  have rkTZ0 := cell_regrown kTZ0
  have rkTZ1 := cell_regrown kTZ1
  have cN : ∀ (n : Int) d os, Calls Tryd.prog 11 #[.int .i64 n] (grow (redrawn w2 d) os) fun e w'' => e = .returned (.int .i64 n) ∧ ∃ p : Regrown, w'' = grow (redrawn w2 p.d) p.os := fun n d os => Calls.regrown_of ((num5_any n _).mono fun _ _ ⟨he, hw⟩ => ⟨he, by rw [← hw]; exact Below.refl _ _⟩)
  have cS : ∀ d os, Calls Tryd.prog 22 #[.agg #[.int .i64 c, .slice A l.length ca], .agg #[.int .i64 c2, .slice B l2.length cb]] (grow (redrawn w2 d) os) fun e w'' => e = .returned (.bool q) ∧ ∃ p : Regrown, w'' = grow (redrawn w2 p.d) p.os := fun d os => Calls.regrown_of (HS.out _ (HA.out.below (HV.out.trans ((below_regrown w2 d os).mono HV.out.size))) (HB.out.below (HV.out.trans ((below_regrown w2 d os).mono HV.out.size))))
  clear kTX0 kTX1 kTZ0 kTZ1
  refine wp_region_quiet_below (by kernel_rfl) (by kernel_rfl) ?_
  try simp only [List.append_eq, List.cons_append, List.nil_append]
  repeat (go_big_quiet_step (first | (with_reducible exact cN _ _ _) | (with_reducible exact cS _ _)))
  refine wpQuiet_nil ?_
  intro wq hwq
  obtain ⟨⟨dq, osq⟩, rfl⟩ := hwq
  have hb := below_regrown w2 dq osq
  have yHY1 := HY1.out.below hb
  have hv := HV.out.trans (hb.mono HV.out.size)
  have xTX := TX.out.below hb TX.out.lt
  have xTZ := TZ.out.below hb TZ.out.lt
  generalize grow (redrawn w2 dq) osq = w3 at *
  clear hb HV TX TZ rkTX0 rkTX1 rkTZ0 rkTZ1 cN cS
  have HV := Lib.hid hv
  have TX := Lib.hid xTX
  have TZ := Lib.hid xTZ
  clear hv xTX xTZ
  clear HY1
  have HY1 := Lib.hid yHY1
  clear yHY1
  have lTX := TX.out.lt
  have kTX0 := TX.out.cell 0
  have kTX1 := TX.out.cell 1
  have lTZ := TZ.out.lt
  have kTZ0 := TZ.out.cell 0
  have kTZ1 := TZ.out.cell 1
  simp only [List.getElem?_toArray, List.getElem?_cons_zero, List.getElem?_cons_succ] at kTX0 kTX1 kTZ0 kTZ1
  clear e3 e4 hst
  go_wp2_with fail
  refine (num5_any _ _).mono ?_
  rintro e wn4 ⟨rfl, rfl⟩
  go_wp2_with fail
  refine (HY0.out _ (HF.out.below HV.out)).mono ?_
  rintro e w5 ⟨rfl, hb⟩
  clear lTX lTZ kTX0 kTX1 kTZ0 kTZ1
  have hv := HV.out.trans (hb.mono HV.out.size)
  have xTX := TX.out.below hb TX.out.lt
  have xTZ := TZ.out.below hb TZ.out.lt
  have yHY1 := HY1.out.below hb
  clear hb HV TX TZ
  have HV := Lib.hid hv
  have TX := Lib.hid xTX
  have TZ := Lib.hid xTZ
  clear hv xTX xTZ
  clear HY1
  have HY1 := Lib.hid yHY1
  clear yHY1
  go_wp2_with fail
  go_ret
  exact ⟨rfl, HV.out⟩

set_option maxRecDepth 1000000 in
set_option maxHeartbeats 6400000 in
theorem law05_holds_badp1 (c : Int) (A : Option Addr) (ca : Nat) (l : List Ent) (ho : OkL l) (c2 : Int) (B : Option Addr) (cb : Nat) (l2 : List Ent) (ho2 : OkL l2) (k : Nat) (at_ wt : Int) (w0 : 0 ≤ wt) (w1 : wt < 256) (hl : l.length ≤ 40) (hl2 : l2.length ≤ 40) (h0 : encNo ⟨c, l⟩ = 0) (h2 : encNo ⟨c2, l2⟩ = 0) (ha : ¬ at_ < 0) (hb : ¬ 3 < at_) (hp : 0 < at_) (hat : at_.toNat = k) (hk4 : k < 4) (hk1 : 1 ≤ k) (hz : ¬ wt = 0) (w : World) (hA : EntS w A l) (hB : EntS w B l2) (hf : Fit3 w) :
    Calls Tryd.prog 7 #[datV c A l.length ca, datV c2 B l2.length cb, .int .i64 at_, .int .u8 wt] w fun e w' => e = .returned (.bool true) ∧ Below w.heap.size w w' := by
  have HF := Lib.hid hf
  have HA := Lib.hid hA
  have HB := Lib.hid hB
  have HO := Lib.hid ho
  have HO2 := Lib.hid ho2
  have HY0 : Hid (∀ W, Fit3 W → Calls Tryd.prog 8 #[] W fun e w' => e = .returned (.bool true) ∧ Below W.heap.size W w') := yes5
  clear hf hA hB ho ho2
  have nl : ¬ 40 < (l.length : Int) := by omega
  have nl2 : ¬ 40 < (l2.length : Int) := by omega
  have hE := fun W (h : EntS W A l) (hF : Fit3 W) => encode5_yes c A ca l (by omega) HO.out W h hF h0
  have hN := bytesD_len ⟨c, l⟩
  have h25 := (encNo_zero.1 h0).2.1
  dsimp only at hN h25
  have hG := fun W (h : EntS W B l2) (hF : Fit3 W) => encode5_yes c2 B cb l2 (by omega) HO2.out W h hF h2
  have hst := strD_eq h0 h2 HO.out HO2.out
  dsimp only at hst
  have hS := fun W (h1 : EntS W A l) (h2 : EntS W B l2) => same5_any c c2 A B ca cb l l2 (by omega) (by omega) W h1 h2
  generalize decide (c = c2 ∧ l = l2) = q at *
  have HS := Lib.hid hS
  clear hS
  obtain ⟨ob, hob, hov⟩ := headD h0 (k := k) hk4
  obtain ⟨x1, x2, x3⟩ := xor8_ne hov w0 w1 hz
  obtain ⟨s1, s2, s3⟩ := spoilD h0 (k := k) (by omega) hob x1 x2 x3
  have hxr : ∀ W : World, (binOp .xor 5 (.int .u8 ob) (.int .u8 wt)).run Tryd.prog W = .ok (.int .u8 (bits .xor .u8 ob wt)) W := fun W => by kernel_rfl
  obtain ⟨s4, s5⟩ := s2 (.inl (by omega))
  have hkz : ¬ chkNo ((bytesD ⟨c, l⟩).set k (bits .xor .u8 ob wt)) = 0 := by omega
  have hdec := fun q cc W (hy : ByS W q ((bytesD ⟨c, l⟩).set k (bits .xor .u8 ob wt))) (hc : ((bytesD ⟨c, l⟩).set k (bits .xor .u8 ob wt)).length ≤ cc) (hF : Fit3 W) => decode5_no q cc _ s1 (by rw [List.length_set]; omega) hc W hy hF hkz
  generalize chkNo ((bytesD ⟨c, l⟩).set k (bits .xor .u8 ob wt)) = no at *
  clear s1 s2 s3 x1 x2 x3 hov
  rw [List.length_set] at hdec
  have HDEC := Lib.hid hdec
  clear hdec
  have HOBB := Lib.hid hob
  clear hob
  clear hxr
  generalize hyy : bits .xor .u8 ob wt = y at *
  have hwz : (wt == 0) = false := by simpa using hz
  have HE := Lib.hid hE
  have HG := Lib.hid hG
  clear hE hG
  generalize bytesD ⟨c, l⟩ = bs at *
  have n4 : ¬ (bs.length : Int) < 4 := by omega
  have n5 : ¬ 504 < (bs.length : Int) := by omega
  have HN4 : Hid (4 ≤ bs.length ∧ bs.length ≤ 1000000) := Lib.hid (by omega)
  clear hN h25
  generalize bytesD ⟨c2, l2⟩ = bs2 at *
  go_enter Tryd.func7, Tryd.ntmps7
  go_wp2_with fail
  have hv := Below.refl w.heap.size w
  have hv := hv.alloc hv.size (.cells #[.int .i64 c, .slice A l.length ca] 25)
  have hv := hv.alloc hv.size (.cells #[.int .i64 c2, .slice B l2.length cb] 25)
  have xTX : Blk ((w.alloc (.cells #[.int .i64 c, .slice A l.length ca] 25)).alloc (.cells #[.int .i64 c2, .slice B l2.length cb] 25)) (w.heap.size) 25 #[.int .i64 c, .slice A l.length ca] := by
    have := (Blk.new w 25 #[.int .i64 c, .slice A l.length ca]).alloc (.cells #[.int .i64 c2, .slice B l2.length cb] 25)
    simpa using this
  have xTZ : Blk ((w.alloc (.cells #[.int .i64 c, .slice A l.length ca] 25)).alloc (.cells #[.int .i64 c2, .slice B l2.length cb] 25)) (w.heap.size + 1) 25 #[.int .i64 c2, .slice B l2.length cb] := by
    have := Blk.new (w.alloc (.cells #[.int .i64 c, .slice A l.length ca] 25)) 25 #[.int .i64 c2, .slice B l2.length cb]
    simpa using this
  generalize hvv : ((w.alloc (.cells #[.int .i64 c, .slice A l.length ca] 25)).alloc (.cells #[.int .i64 c2, .slice B l2.length cb] 25)) = v1 at *
  clear hvv
  have HV := Lib.hid hv
  have TX := Lib.hid xTX
  have TZ := Lib.hid xTZ
  clear hv xTX xTZ
  have lTX := TX.out.lt
  have kTX0 := TX.out.cell 0
  have kTX1 := TX.out.cell 1
  have lTZ := TZ.out.lt
  have kTZ0 := TZ.out.cell 0
  have kTZ1 := TZ.out.cell 1
  simp only [List.getElem?_toArray, List.getElem?_cons_zero, List.getElem?_cons_succ] at kTX0 kTX1 kTZ0 kTZ1
  go_wp2_with fail
  refine (HE.out _ (HA.out.below HV.out) (HF.out.below HV.out)).mono ?_
  rintro e w1 ⟨⟨v, rfl, hob⟩, hb⟩
  clear lTX lTZ kTX0 kTX1 kTZ0 kTZ1
  have hv := HV.out.trans (hb.mono HV.out.size)
  have xTX := TX.out.below hb TX.out.lt
  have xTZ := TZ.out.below hb TZ.out.lt
  clear hb HV TX TZ
  have HV := Lib.hid hv
  have TX := Lib.hid xTX
  have TZ := Lib.hid xTZ
  clear hv xTX xTZ
  obtain ⟨p1, c1, rfl, m1, y1, _⟩ := OwnB.byS hob
  have HY1 := Lib.hid y1
  clear hob y1
  have lTX := TX.out.lt
  have kTX0 := TX.out.cell 0
  have kTX1 := TX.out.cell 1
  have lTZ := TZ.out.lt
  have kTZ0 := TZ.out.cell 0
  have kTZ1 := TZ.out.cell 1
  simp only [List.getElem?_toArray, List.getElem?_cons_zero, List.getElem?_cons_succ] at kTX0 kTX1 kTZ0 kTZ1
  go_wp2_with fail
  refine (HG.out _ (HB.out.below HV.out) (HF.out.below HV.out)).mono ?_
  rintro e w2 ⟨⟨v, rfl, hob⟩, hb⟩
  clear lTX lTZ kTX0 kTX1 kTZ0 kTZ1
  have hv := HV.out.trans (hb.mono HV.out.size)
  have xTX := TX.out.below hb TX.out.lt
  have xTZ := TZ.out.below hb TZ.out.lt
  have yHY1 := HY1.out.below hb
  clear hb HV TX TZ
  have HV := Lib.hid hv
  have TX := Lib.hid xTX
  have TZ := Lib.hid xTZ
  clear hv xTX xTZ
  clear HY1
  have HY1 := Lib.hid yHY1
  clear yHY1
  obtain ⟨p2, c2_, rfl, m2, y2, _⟩ := OwnB.byS hob
  have HY2 := Lib.hid y2
  clear hob y2
  have lTX := TX.out.lt
  have kTX0 := TX.out.cell 0
  have kTX1 := TX.out.cell 1
  have lTZ := TZ.out.lt
  have kTZ0 := TZ.out.cell 0
  have kTZ1 := TZ.out.cell 1
  simp only [List.getElem?_toArray, List.getElem?_cons_zero, List.getElem?_cons_succ] at kTX0 kTX1 kTZ0 kTZ1
  clear HE HG
  go_wp2_with fail
  have e3 : ∀ d os, Sem.run Tryd.prog (convert 27 9 (.slice p1 bs.length c1)) (grow (redrawn w2 d) os) = .ok (.string (strOfNums bs)) (grow (redrawn w2 d) os) := fun d os => conv_bytes (HY1.out.below (below_regrown w2 d os)) c1
  have e4 : ∀ d os, Sem.run Tryd.prog (convert 27 9 (.slice p2 bs2.length c2_)) (grow (redrawn w2 d) os) = .ok (.string (strOfNums bs2)) (grow (redrawn w2 d) os) := fun d os => conv_bytes (HY2.out.below (below_regrown w2 d os)) c2_
  generalize strOfNums bs = st1 at *
  generalize strOfNums bs2 = st2 at *
  clear HY2
  clear lTX lTZ kTX0 kTX1 kTZ0 kTZ1
  have kTX0 := TX.out.cell 0
  have kTX1 := TX.out.cell 1
  have kTZ0 := TZ.out.cell 0
  have kTZ1 := TZ.out.cell 1
  simp only [List.getElem?_toArray, List.getElem?_cons_zero, List.getElem?_cons_succ] at kTX0 kTX1 kTZ0 kTZ1
  have rkTX0 := cell_regrown kTX0
  have rkTX1 := cell_regrown kTX1
  have rkTZ0 := cell_regrown kTZ0
  have rkTZ1 := cell_regrown kTZ1
  have cN : ∀ (n : Int) d os, Calls Tryd.prog 11 #[.int .i64 n] (grow (redrawn w2 d) os) fun e w'' => e = .returned (.int .i64 n) ∧ ∃ p : Regrown, w'' = grow (redrawn w2 p.d) p.os := fun n d os => Calls.regrown_of ((num5_any n _).mono fun _ _ ⟨he, hw⟩ => ⟨he, by rw [← hw]; exact Below.refl _ _⟩)
  have cS : ∀ d os, Calls Tryd.prog 22 #[.agg #[.int .i64 c, .slice A l.length ca], .agg #[.int .i64 c2, .slice B l2.length cb]] (grow (redrawn w2 d) os) fun e w'' => e = .returned (.bool q) ∧ ∃ p : Regrown, w'' = grow (redrawn w2 p.d) p.os := fun d os => Calls.regrown_of (HS.out _ (HA.out.below (HV.out.trans ((below_regrown w2 d os).mono HV.out.size))) (HB.out.below (HV.out.trans ((below_regrown w2 d os).mono HV.out.size))))
  clear kTX0 kTX1 kTZ0 kTZ1
  refine wp_region_quiet_below (by kernel_rfl) (by kernel_rfl) ?_
  try simp only [List.append_eq, List.cons_append, List.nil_append]
  repeat (go_big_quiet_step (first | (with_reducible exact cN _ _ _) | (with_reducible exact cS _ _)))
  refine wpQuiet_nil ?_
  intro wq hwq
  obtain ⟨⟨dq, osq⟩, rfl⟩ := hwq
  have hb := below_regrown w2 dq osq
  have yHY1 := HY1.out.below hb
  have hv := HV.out.trans (hb.mono HV.out.size)
  have xTX := TX.out.below hb TX.out.lt
  have xTZ := TZ.out.below hb TZ.out.lt
  generalize grow (redrawn w2 dq) osq = w3 at *
  clear hb HV TX TZ rkTX0 rkTX1 rkTZ0 rkTZ1 cN cS
  have HV := Lib.hid hv
  have TX := Lib.hid xTX
  have TZ := Lib.hid xTZ
  clear hv xTX xTZ
  clear HY1
  have HY1 := Lib.hid yHY1
  clear yHY1
  have lTX := TX.out.lt
  have kTX0 := TX.out.cell 0
  have kTX1 := TX.out.cell 1
  have lTZ := TZ.out.lt
  have kTZ0 := TZ.out.cell 0
  have kTZ1 := TZ.out.cell 1
  simp only [List.getElem?_toArray, List.getElem?_cons_zero, List.getElem?_cons_succ] at kTX0 kTX1 kTZ0 kTZ1
  clear e3 e4 hst
  go_wp2_with fail
  refine (num5_any _ _).mono ?_
  rintro e wn4 ⟨rfl, rfl⟩
  go_upto_region 11 with fail
  clear lTX lTZ kTX0 kTX1 kTZ0 kTZ1
  have HHE : Hid (OwnB w3.heap.size (w3.alloc (.cells #[] 5)) (.slice (some ⟨w3.heap.size, 0, none⟩) 0 0) []) := World.ownsRow_made w3 #[] 0 (Nat.le_refl _) (Nat.zero_le _) (by simp)
  have HHW : Hid (Below w3.heap.size w3 (w3.alloc (.cells #[] 5))) := (Below.refl _ _).alloc (Nat.le_refl _) _
  have HYA := Lib.hid (HY1.out.below HHW.out)
  have K1 : ([] : List Int).length + bs.length ≤ 1000000 := by have := HN4.out; simp; omega
  go_wp2_with (first | (at_builtin; refine wpList_app_bytes (v := .slice (some ⟨w3.heap.size, 0, none⟩) 0 0) (xs := []) (p := p1) (ys := bs) (c := c1) rfl _ _ rfl w3.heap.size rfl HHE.out rfl HYA.out K1 (by simp) ?_))
  intro v5 wa o5 g5 _
  have hba := own_below (by simp) HHW.out HHE.out g5
  have o5 : OwnB w3.heap.size wa v5 bs := o5
  obtain ⟨g, cap5, rfl⟩ := Joins.ownsRow_form o5 (by have := HN4.out; omega)
  have hcell : wa.cell? ⟨g, k, none⟩ = some (.int .u8 ob) := by
    rw [World.ownsRow.cellAt o5 k (by have := HN4.out; omega)]
    simp [List.getElem?_map, HOBB.out]
  have hfz : wa.frozen? ⟨g, k, none⟩ = false := World.ownsRow.frozenAt o5 k
  have hi1 : at_ < (bs.length : Int) := by have := HN4.out; omega
  have hi2 : k < bs.length := by have := HN4.out; omega
  have hi3 : 0 ≤ at_ := by omega
  have hos := (World.ownsRow.stored o5 k (.int .u8 y)).1
  rw [← List.map_set] at hos
  have hos : OwnB w3.heap.size (wa.setCell ⟨g, k, none⟩ (.int .u8 y)) (.slice (some ⟨g, 0, none⟩) bs.length cap5) (bs.set k y) := by unfold OwnB; rw [List.length_set]; exact hos
  have hbs := hba.setCell (p := ⟨g, k, none⟩) (World.ownsRow.lt o5 g rfl).1 (.int .u8 y)
  obtain ⟨q5, k5, hq5, m5, y5, _⟩ := OwnB.byS hos
  rw [List.length_set] at hq5 m5
  cases hq5
  have HY5 := Lib.hid y5
  have HM5 := Lib.hid m5
  have hv := HV.out.trans (hbs.mono HV.out.size)
  have xTX := TX.out.below hbs TX.out.lt
  have xTZ := TZ.out.below hbs TZ.out.lt
  clear HV HY1 HHE HHW HYA K1 o5 g5 hba hos hbs y5 m5 TX TZ
  have HV := Lib.hid hv
  have TX := Lib.hid xTX
  have TZ := Lib.hid xTZ
  clear hv xTX xTZ
  go_wp2_with fail
  clear hcell hfz hi1 hi2 hyy
  refine (HDEC.out _ _ _ HY5.out HM5.out (HF.out.below HV.out)).mono ?_
  rintro e w5 ⟨rfl, hb⟩
  have hv := HV.out.trans (hb.mono HV.out.size)
  have xTX := TX.out.below hb TX.out.lt
  have xTZ := TZ.out.below hb TZ.out.lt
  clear hb HV TX TZ
  have HV := Lib.hid hv
  have TX := Lib.hid xTX
  have TZ := Lib.hid xTZ
  clear hv xTX xTZ
  go_upto_region 14 with fail
  have hv := HV.out
  have hv := hv.alloc hv.size (.cells #[.int .i64 0, .slice none 0 0] 25)
  have xTX := (TX.out).alloc (.cells #[.int .i64 0, .slice none 0 0] 25)
  have xTZ := (TZ.out).alloc (.cells #[.int .i64 0, .slice none 0 0] 25)
  have xTY : Blk (w5.alloc (.cells #[.int .i64 0, .slice none 0 0] 25)) (w5.heap.size) 25 #[.int .i64 0, .slice none 0 0] := by
    have := Blk.new w5 25 #[.int .i64 0, .slice none 0 0]
    simpa using this
  generalize hvv : (w5.alloc (.cells #[.int .i64 0, .slice none 0 0] 25)) = v2 at *
  clear hvv
  generalize w5.heap.size = gTY at *
  clear HV TX TZ
  have HV := Lib.hid hv
  have TX := Lib.hid xTX
  have TZ := Lib.hid xTZ
  have TY := Lib.hid xTY
  clear hv xTX xTZ xTY
  go_wp2_with fail
  refine (num5_any _ _).mono ?_
  rintro e wn6 ⟨rfl, rfl⟩
  go_wp2_with fail
  refine (num5_any _ _).mono ?_
  rintro e wn7 ⟨rfl, rfl⟩
  go_wp2_with fail
  refine (HY0.out _ (HF.out.below HV.out)).mono ?_
  rintro e w8 ⟨rfl, hb⟩
  have hv := HV.out.trans (hb.mono HV.out.size)
  have xTX := TX.out.below hb TX.out.lt
  have xTZ := TZ.out.below hb TZ.out.lt
  have xTY := TY.out.below hb TY.out.lt
  clear hb HV TX TZ TY
  have HV := Lib.hid hv
  have TX := Lib.hid xTX
  have TZ := Lib.hid xTZ
  have TY := Lib.hid xTY
  clear hv xTX xTZ xTY
  go_wp2_with fail
  go_ret
  exact ⟨rfl, HV.out⟩

set_option maxRecDepth 1000000 in
set_option maxHeartbeats 6400000 in
theorem law05_holds_bad01 (c : Int) (A : Option Addr) (ca : Nat) (l : List Ent) (ho : OkL l) (c2 : Int) (B : Option Addr) (cb : Nat) (l2 : List Ent) (ho2 : OkL l2) (wt : Int) (w0 : 0 ≤ wt) (w1 : wt < 256) (hl : l.length ≤ 40) (hl2 : l2.length ≤ 40) (h0 : encNo ⟨c, l⟩ = 0) (h2 : encNo ⟨c2, l2⟩ = 0) (hz : ¬ wt = 0) (hcom : ¬ comD (bits .xor .u8 c wt)) (w : World) (hA : EntS w A l) (hB : EntS w B l2) (hf : Fit3 w) :
    Calls Tryd.prog 7 #[datV c A l.length ca, datV c2 B l2.length cb, .int .i64 0, .int .u8 wt] w fun e w' => e = .returned (.bool true) ∧ Below w.heap.size w w' := by
  have HF := Lib.hid hf
  have HA := Lib.hid hA
  have HB := Lib.hid hB
  have HO := Lib.hid ho
  have HO2 := Lib.hid ho2
  have HY0 : Hid (∀ W, Fit3 W → Calls Tryd.prog 8 #[] W fun e w' => e = .returned (.bool true) ∧ Below W.heap.size W w') := yes5
  clear hf hA hB ho ho2
  have nl : ¬ 40 < (l.length : Int) := by omega
  have nl2 : ¬ 40 < (l2.length : Int) := by omega
  have hE := fun W (h : EntS W A l) (hF : Fit3 W) => encode5_yes c A ca l (by omega) HO.out W h hF h0
  have hN := bytesD_len ⟨c, l⟩
  have h25 := (encNo_zero.1 h0).2.1
  dsimp only at hN h25
  have hG := fun W (h : EntS W B l2) (hF : Fit3 W) => encode5_yes c2 B cb l2 (by omega) HO2.out W h hF h2
  have hst := strD_eq h0 h2 HO.out HO2.out
  dsimp only at hst
  have hS := fun W (h1 : EntS W A l) (h2 : EntS W B l2) => same5_any c c2 A B ca cb l l2 (by omega) (by omega) W h1 h2
  generalize decide (c = c2 ∧ l = l2) = q at *
  have HS := Lib.hid hS
  clear hS
  have hob : (bytesD ⟨c, l⟩)[0]? = some c := rfl
  have hov : c = 0 ∨ c = 1 ∨ c = 2 := .inr (encNo_zero.1 h0).1
  obtain ⟨x1, x2, x3⟩ := xor8_ne hov w0 w1 hz
  obtain ⟨s1, s2, s3⟩ := spoilD h0 (k := 0) (by omega) hob x1 x2 x3
  have hxr : ∀ W : World, (binOp .xor 5 (.int .u8 c) (.int .u8 wt)).run Tryd.prog W = .ok (.int .u8 (bits .xor .u8 c wt)) W := fun W => by kernel_rfl
  obtain ⟨s4, s5⟩ := s2 (.inr hcom)
  have hkz : ¬ chkNo ((bytesD ⟨c, l⟩).set 0 (bits .xor .u8 c wt)) = 0 := by omega
  have hdec := fun q cc W (hy : ByS W q ((bytesD ⟨c, l⟩).set 0 (bits .xor .u8 c wt))) (hc : ((bytesD ⟨c, l⟩).set 0 (bits .xor .u8 c wt)).length ≤ cc) (hF : Fit3 W) => decode5_no q cc _ s1 (by rw [List.length_set]; omega) hc W hy hF hkz
  generalize chkNo ((bytesD ⟨c, l⟩).set 0 (bits .xor .u8 c wt)) = no at *
  clear s1 s2 s3 x1 x2 x3 hov
  rw [List.length_set] at hdec
  have HDEC := Lib.hid hdec
  clear hdec
  have HOBB := Lib.hid hob
  clear hob
  clear hxr
  generalize hyy : bits .xor .u8 c wt = y at *
  have hwz : (wt == 0) = false := by simpa using hz
  have HE := Lib.hid hE
  have HG := Lib.hid hG
  clear hE hG
  generalize bytesD ⟨c, l⟩ = bs at *
  have n4 : ¬ (bs.length : Int) < 4 := by omega
  have n5 : ¬ 504 < (bs.length : Int) := by omega
  have HN4 : Hid (4 ≤ bs.length ∧ bs.length ≤ 1000000) := Lib.hid (by omega)
  clear hN h25
  generalize bytesD ⟨c2, l2⟩ = bs2 at *
  go_enter Tryd.func7, Tryd.ntmps7
  go_wp2_with fail
  have hv := Below.refl w.heap.size w
  have hv := hv.alloc hv.size (.cells #[.int .i64 c, .slice A l.length ca] 25)
  have hv := hv.alloc hv.size (.cells #[.int .i64 c2, .slice B l2.length cb] 25)
  have xTX : Blk ((w.alloc (.cells #[.int .i64 c, .slice A l.length ca] 25)).alloc (.cells #[.int .i64 c2, .slice B l2.length cb] 25)) (w.heap.size) 25 #[.int .i64 c, .slice A l.length ca] := by
    have := (Blk.new w 25 #[.int .i64 c, .slice A l.length ca]).alloc (.cells #[.int .i64 c2, .slice B l2.length cb] 25)
    simpa using this
  have xTZ : Blk ((w.alloc (.cells #[.int .i64 c, .slice A l.length ca] 25)).alloc (.cells #[.int .i64 c2, .slice B l2.length cb] 25)) (w.heap.size + 1) 25 #[.int .i64 c2, .slice B l2.length cb] := by
    have := Blk.new (w.alloc (.cells #[.int .i64 c, .slice A l.length ca] 25)) 25 #[.int .i64 c2, .slice B l2.length cb]
    simpa using this
  generalize hvv : ((w.alloc (.cells #[.int .i64 c, .slice A l.length ca] 25)).alloc (.cells #[.int .i64 c2, .slice B l2.length cb] 25)) = v1 at *
  clear hvv
  have HV := Lib.hid hv
  have TX := Lib.hid xTX
  have TZ := Lib.hid xTZ
  clear hv xTX xTZ
  have lTX := TX.out.lt
  have kTX0 := TX.out.cell 0
  have kTX1 := TX.out.cell 1
  have lTZ := TZ.out.lt
  have kTZ0 := TZ.out.cell 0
  have kTZ1 := TZ.out.cell 1
  simp only [List.getElem?_toArray, List.getElem?_cons_zero, List.getElem?_cons_succ] at kTX0 kTX1 kTZ0 kTZ1
  go_wp2_with fail
  refine (HE.out _ (HA.out.below HV.out) (HF.out.below HV.out)).mono ?_
  rintro e w1 ⟨⟨v, rfl, hob⟩, hb⟩
  clear lTX lTZ kTX0 kTX1 kTZ0 kTZ1
  have hv := HV.out.trans (hb.mono HV.out.size)
  have xTX := TX.out.below hb TX.out.lt
  have xTZ := TZ.out.below hb TZ.out.lt
  clear hb HV TX TZ
  have HV := Lib.hid hv
  have TX := Lib.hid xTX
  have TZ := Lib.hid xTZ
  clear hv xTX xTZ
  obtain ⟨p1, c1, rfl, m1, y1, _⟩ := OwnB.byS hob
  have HY1 := Lib.hid y1
  clear hob y1
  have lTX := TX.out.lt
  have kTX0 := TX.out.cell 0
  have kTX1 := TX.out.cell 1
  have lTZ := TZ.out.lt
  have kTZ0 := TZ.out.cell 0
  have kTZ1 := TZ.out.cell 1
  simp only [List.getElem?_toArray, List.getElem?_cons_zero, List.getElem?_cons_succ] at kTX0 kTX1 kTZ0 kTZ1
  go_wp2_with fail
  refine (HG.out _ (HB.out.below HV.out) (HF.out.below HV.out)).mono ?_
  rintro e w2 ⟨⟨v, rfl, hob⟩, hb⟩
  clear lTX lTZ kTX0 kTX1 kTZ0 kTZ1
  have hv := HV.out.trans (hb.mono HV.out.size)
  have xTX := TX.out.below hb TX.out.lt
  have xTZ := TZ.out.below hb TZ.out.lt
  have yHY1 := HY1.out.below hb
  clear hb HV TX TZ
  have HV := Lib.hid hv
  have TX := Lib.hid xTX
  have TZ := Lib.hid xTZ
  clear hv xTX xTZ
  clear HY1
  have HY1 := Lib.hid yHY1
  clear yHY1
  obtain ⟨p2, c2_, rfl, m2, y2, _⟩ := OwnB.byS hob
  have HY2 := Lib.hid y2
  clear hob y2
  have lTX := TX.out.lt
  have kTX0 := TX.out.cell 0
  have kTX1 := TX.out.cell 1
  have lTZ := TZ.out.lt
  have kTZ0 := TZ.out.cell 0
  have kTZ1 := TZ.out.cell 1
  simp only [List.getElem?_toArray, List.getElem?_cons_zero, List.getElem?_cons_succ] at kTX0 kTX1 kTZ0 kTZ1
  clear HE HG
  go_wp2_with fail
  have e3 : ∀ d os, Sem.run Tryd.prog (convert 27 9 (.slice p1 bs.length c1)) (grow (redrawn w2 d) os) = .ok (.string (strOfNums bs)) (grow (redrawn w2 d) os) := fun d os => conv_bytes (HY1.out.below (below_regrown w2 d os)) c1
  have e4 : ∀ d os, Sem.run Tryd.prog (convert 27 9 (.slice p2 bs2.length c2_)) (grow (redrawn w2 d) os) = .ok (.string (strOfNums bs2)) (grow (redrawn w2 d) os) := fun d os => conv_bytes (HY2.out.below (below_regrown w2 d os)) c2_
  generalize strOfNums bs = st1 at *
  generalize strOfNums bs2 = st2 at *
  clear HY2
  clear lTX lTZ kTX0 kTX1 kTZ0 kTZ1
  have kTX0 := TX.out.cell 0
  have kTX1 := TX.out.cell 1
  have kTZ0 := TZ.out.cell 0
  have kTZ1 := TZ.out.cell 1
  simp only [List.getElem?_toArray, List.getElem?_cons_zero, List.getElem?_cons_succ] at kTX0 kTX1 kTZ0 kTZ1
  have rkTX0 := cell_regrown kTX0
  have rkTX1 := cell_regrown kTX1
  have rkTZ0 := cell_regrown kTZ0
  have rkTZ1 := cell_regrown kTZ1
  have cN : ∀ (n : Int) d os, Calls Tryd.prog 11 #[.int .i64 n] (grow (redrawn w2 d) os) fun e w'' => e = .returned (.int .i64 n) ∧ ∃ p : Regrown, w'' = grow (redrawn w2 p.d) p.os := fun n d os => Calls.regrown_of ((num5_any n _).mono fun _ _ ⟨he, hw⟩ => ⟨he, by rw [← hw]; exact Below.refl _ _⟩)
  have cS : ∀ d os, Calls Tryd.prog 22 #[.agg #[.int .i64 c, .slice A l.length ca], .agg #[.int .i64 c2, .slice B l2.length cb]] (grow (redrawn w2 d) os) fun e w'' => e = .returned (.bool q) ∧ ∃ p : Regrown, w'' = grow (redrawn w2 p.d) p.os := fun d os => Calls.regrown_of (HS.out _ (HA.out.below (HV.out.trans ((below_regrown w2 d os).mono HV.out.size))) (HB.out.below (HV.out.trans ((below_regrown w2 d os).mono HV.out.size))))
  clear kTX0 kTX1 kTZ0 kTZ1
  refine wp_region_quiet_below (by kernel_rfl) (by kernel_rfl) ?_
  try simp only [List.append_eq, List.cons_append, List.nil_append]
  repeat (go_big_quiet_step (first | (with_reducible exact cN _ _ _) | (with_reducible exact cS _ _)))
  refine wpQuiet_nil ?_
  intro wq hwq
  obtain ⟨⟨dq, osq⟩, rfl⟩ := hwq
  have hb := below_regrown w2 dq osq
  have yHY1 := HY1.out.below hb
  have hv := HV.out.trans (hb.mono HV.out.size)
  have xTX := TX.out.below hb TX.out.lt
  have xTZ := TZ.out.below hb TZ.out.lt
  generalize grow (redrawn w2 dq) osq = w3 at *
  clear hb HV TX TZ rkTX0 rkTX1 rkTZ0 rkTZ1 cN cS
  have HV := Lib.hid hv
  have TX := Lib.hid xTX
  have TZ := Lib.hid xTZ
  clear hv xTX xTZ
  clear HY1
  have HY1 := Lib.hid yHY1
  clear yHY1
  have lTX := TX.out.lt
  have kTX0 := TX.out.cell 0
  have kTX1 := TX.out.cell 1
  have lTZ := TZ.out.lt
  have kTZ0 := TZ.out.cell 0
  have kTZ1 := TZ.out.cell 1
  simp only [List.getElem?_toArray, List.getElem?_cons_zero, List.getElem?_cons_succ] at kTX0 kTX1 kTZ0 kTZ1
  clear e3 e4 hst
  go_wp2_with fail
  refine (num5_any _ _).mono ?_
  rintro e wn4 ⟨rfl, rfl⟩
  go_upto_region 11 with fail
  clear lTX lTZ kTX0 kTX1 kTZ0 kTZ1
  have HHE : Hid (OwnB w3.heap.size (w3.alloc (.cells #[] 5)) (.slice (some ⟨w3.heap.size, 0, none⟩) 0 0) []) := World.ownsRow_made w3 #[] 0 (Nat.le_refl _) (Nat.zero_le _) (by simp)
  have HHW : Hid (Below w3.heap.size w3 (w3.alloc (.cells #[] 5))) := (Below.refl _ _).alloc (Nat.le_refl _) _
  have HYA := Lib.hid (HY1.out.below HHW.out)
  have K1 : ([] : List Int).length + bs.length ≤ 1000000 := by have := HN4.out; simp; omega
  go_wp2_with (first | (at_builtin; refine wpList_app_bytes (v := .slice (some ⟨w3.heap.size, 0, none⟩) 0 0) (xs := []) (p := p1) (ys := bs) (c := c1) rfl _ _ rfl w3.heap.size rfl HHE.out rfl HYA.out K1 (by simp) ?_))
  intro v5 wa o5 g5 _
  have hba := own_below (by simp) HHW.out HHE.out g5
  have o5 : OwnB w3.heap.size wa v5 bs := o5
  obtain ⟨g, cap5, rfl⟩ := Joins.ownsRow_form o5 (by have := HN4.out; omega)
  have hcell : wa.cell? ⟨g, 0, none⟩ = some (.int .u8 c) := by
    rw [World.ownsRow.cellAt o5 0 (by have := HN4.out; omega)]
    simp [List.getElem?_map, HOBB.out]
  have hfz : wa.frozen? ⟨g, 0, none⟩ = false := World.ownsRow.frozenAt o5 0
  have hi1 : 0 < (bs.length : Int) := by have := HN4.out; omega
  have hi2 : 0 < bs.length := by have := HN4.out; omega
  have hos := (World.ownsRow.stored o5 0 (.int .u8 y)).1
  rw [← List.map_set] at hos
  have hos : OwnB w3.heap.size (wa.setCell ⟨g, 0, none⟩ (.int .u8 y)) (.slice (some ⟨g, 0, none⟩) bs.length cap5) (bs.set 0 y) := by unfold OwnB; rw [List.length_set]; exact hos
  have hbs := hba.setCell (p := ⟨g, 0, none⟩) (World.ownsRow.lt o5 g rfl).1 (.int .u8 y)
  obtain ⟨q5, k5, hq5, m5, y5, _⟩ := OwnB.byS hos
  rw [List.length_set] at hq5 m5
  cases hq5
  have HY5 := Lib.hid y5
  have HM5 := Lib.hid m5
  have hv := HV.out.trans (hbs.mono HV.out.size)
  have xTX := TX.out.below hbs TX.out.lt
  have xTZ := TZ.out.below hbs TZ.out.lt
  clear HV HY1 HHE HHW HYA K1 o5 g5 hba hos hbs y5 m5 TX TZ
  have HV := Lib.hid hv
  have TX := Lib.hid xTX
  have TZ := Lib.hid xTZ
  clear hv xTX xTZ
  go_wp2_with fail
  clear hcell hfz hi1 hi2 hyy
  refine (HDEC.out _ _ _ HY5.out HM5.out (HF.out.below HV.out)).mono ?_
  rintro e w5 ⟨rfl, hb⟩
  have hv := HV.out.trans (hb.mono HV.out.size)
  have xTX := TX.out.below hb TX.out.lt
  have xTZ := TZ.out.below hb TZ.out.lt
  clear hb HV TX TZ
  have HV := Lib.hid hv
  have TX := Lib.hid xTX
  have TZ := Lib.hid xTZ
  clear hv xTX xTZ
  go_upto_region 14 with fail
  have hv := HV.out
  have hv := hv.alloc hv.size (.cells #[.int .i64 0, .slice none 0 0] 25)
  have xTX := (TX.out).alloc (.cells #[.int .i64 0, .slice none 0 0] 25)
  have xTZ := (TZ.out).alloc (.cells #[.int .i64 0, .slice none 0 0] 25)
  have xTY : Blk (w5.alloc (.cells #[.int .i64 0, .slice none 0 0] 25)) (w5.heap.size) 25 #[.int .i64 0, .slice none 0 0] := by
    have := Blk.new w5 25 #[.int .i64 0, .slice none 0 0]
    simpa using this
  generalize hvv : (w5.alloc (.cells #[.int .i64 0, .slice none 0 0] 25)) = v2 at *
  clear hvv
  generalize w5.heap.size = gTY at *
  clear HV TX TZ
  have HV := Lib.hid hv
  have TX := Lib.hid xTX
  have TZ := Lib.hid xTZ
  have TY := Lib.hid xTY
  clear hv xTX xTZ xTY
  go_wp2_with fail
  refine (num5_any _ _).mono ?_
  rintro e wn6 ⟨rfl, rfl⟩
  go_wp2_with fail
  refine (num5_any _ _).mono ?_
  rintro e wn7 ⟨rfl, rfl⟩
  go_wp2_with fail
  refine (num5_any _ _).mono ?_
  rintro e wn8 ⟨rfl, rfl⟩
  go_wp2_with fail
  refine (HY0.out _ (HF.out.below HV.out)).mono ?_
  rintro e w9 ⟨rfl, hb⟩
  have hv := HV.out.trans (hb.mono HV.out.size)
  have xTX := TX.out.below hb TX.out.lt
  have xTZ := TZ.out.below hb TZ.out.lt
  have xTY := TY.out.below hb TY.out.lt
  clear hb HV TX TZ TY
  have HV := Lib.hid hv
  have TX := Lib.hid xTX
  have TZ := Lib.hid xTZ
  have TY := Lib.hid xTY
  clear hv xTX xTZ xTY
  go_wp2_with fail
  go_ret
  exact ⟨rfl, HV.out⟩

set_option maxRecDepth 1000000 in
set_option maxHeartbeats 6400000 in
theorem law05_holds_good1 (c : Int) (A : Option Addr) (ca : Nat) (l : List Ent) (ho : OkL l) (c2 : Int) (B : Option Addr) (cb : Nat) (l2 : List Ent) (ho2 : OkL l2) (wt : Int) (w0 : 0 ≤ wt) (w1 : wt < 256) (hl : l.length ≤ 40) (hl2 : l2.length ≤ 40) (h0 : encNo ⟨c, l⟩ = 0) (h2 : encNo ⟨c2, l2⟩ = 0) (hz : ¬ wt = 0) (hcom : comD (bits .xor .u8 c wt)) (w : World) (hA : EntS w A l) (hB : EntS w B l2) (hf : Fit3 w) :
    Calls Tryd.prog 7 #[datV c A l.length ca, datV c2 B l2.length cb, .int .i64 0, .int .u8 wt] w fun e w' => e = .returned (.bool true) ∧ Below w.heap.size w w' := by
  have HF := Lib.hid hf
  have HA := Lib.hid hA
  have HB := Lib.hid hB
  have HO := Lib.hid ho
  have HO2 := Lib.hid ho2
  have HY0 : Hid (∀ W, Fit3 W → Calls Tryd.prog 8 #[] W fun e w' => e = .returned (.bool true) ∧ Below W.heap.size W w') := yes5
  clear hf hA hB ho ho2
  have nl : ¬ 40 < (l.length : Int) := by omega
  have nl2 : ¬ 40 < (l2.length : Int) := by omega
  have hE := fun W (h : EntS W A l) (hF : Fit3 W) => encode5_yes c A ca l (by omega) HO.out W h hF h0
  have hN := bytesD_len ⟨c, l⟩
  have h25 := (encNo_zero.1 h0).2.1
  dsimp only at hN h25
  have hG := fun W (h : EntS W B l2) (hF : Fit3 W) => encode5_yes c2 B cb l2 (by omega) HO2.out W h hF h2
  have hst := strD_eq h0 h2 HO.out HO2.out
  dsimp only at hst
  have hS := fun W (h1 : EntS W A l) (h2 : EntS W B l2) => same5_any c c2 A B ca cb l l2 (by omega) (by omega) W h1 h2
  generalize decide (c = c2 ∧ l = l2) = q at *
  have HS := Lib.hid hS
  clear hS
  have hob : (bytesD ⟨c, l⟩)[0]? = some c := rfl
  have hov : c = 0 ∨ c = 1 ∨ c = 2 := .inr (encNo_zero.1 h0).1
  obtain ⟨x1, x2, x3⟩ := xor8_ne hov w0 w1 hz
  obtain ⟨s1, s2, s3⟩ := spoilD h0 (k := 0) (by omega) hob x1 x2 x3
  have hxr : ∀ W : World, (binOp .xor 5 (.int .u8 c) (.int .u8 wt)).run Tryd.prog W = .ok (.int .u8 (bits .xor .u8 c wt)) W := fun W => by kernel_rfl
  obtain ⟨s4, s5⟩ := s3 rfl hcom
  have hdec := fun q cc W (hy : ByS W q (bytesD ⟨bits .xor .u8 c wt, l⟩)) (hc : (bytesD ⟨bits .xor .u8 c wt, l⟩).length ≤ cc) (hF : Fit3 W) => decBack (bits .xor .u8 c wt) l s4 HO.out q cc W hy hc hF
  rw [← s5] at hdec
  have hsm := fun A3 k3 W (h1 : EntS W A3 l) (h2 : EntS W A l) => refSame4_any A3 A k3 ca l l (by omega) (by omega) W h1 h2
  simp only [decide_true] at hsm
  have HSM := Lib.hid hsm
  clear hsm
  have hxc : (bits .xor .u8 c wt != c) = true := by simpa using x1
  clear s1 s2 s3 s4 s5 hov x2 x3
  rw [List.length_set] at hdec
  have HDEC := Lib.hid hdec
  clear hdec
  have HOBB := Lib.hid hob
  clear hob
  clear hxr
  generalize hyy : bits .xor .u8 c wt = y at *
  have hwz : (wt == 0) = false := by simpa using hz
  have HE := Lib.hid hE
  have HG := Lib.hid hG
  clear hE hG
  generalize bytesD ⟨c, l⟩ = bs at *
  have n4 : ¬ (bs.length : Int) < 4 := by omega
  have n5 : ¬ 504 < (bs.length : Int) := by omega
  have HN4 : Hid (4 ≤ bs.length ∧ bs.length ≤ 1000000) := Lib.hid (by omega)
  clear hN h25
  generalize bytesD ⟨c2, l2⟩ = bs2 at *
  go_enter Tryd.func7, Tryd.ntmps7
  go_wp2_with fail
  have hv := Below.refl w.heap.size w
  have hv := hv.alloc hv.size (.cells #[.int .i64 c, .slice A l.length ca] 25)
  have hv := hv.alloc hv.size (.cells #[.int .i64 c2, .slice B l2.length cb] 25)
  have xTX : Blk ((w.alloc (.cells #[.int .i64 c, .slice A l.length ca] 25)).alloc (.cells #[.int .i64 c2, .slice B l2.length cb] 25)) (w.heap.size) 25 #[.int .i64 c, .slice A l.length ca] := by
    have := (Blk.new w 25 #[.int .i64 c, .slice A l.length ca]).alloc (.cells #[.int .i64 c2, .slice B l2.length cb] 25)
    simpa using this
  have xTZ : Blk ((w.alloc (.cells #[.int .i64 c, .slice A l.length ca] 25)).alloc (.cells #[.int .i64 c2, .slice B l2.length cb] 25)) (w.heap.size + 1) 25 #[.int .i64 c2, .slice B l2.length cb] := by
    have := Blk.new (w.alloc (.cells #[.int .i64 c, .slice A l.length ca] 25)) 25 #[.int .i64 c2, .slice B l2.length cb]
    simpa using this
  generalize hvv : ((w.alloc (.cells #[.int .i64 c, .slice A l.length ca] 25)).alloc (.cells #[.int .i64 c2, .slice B l2.length cb] 25)) = v1 at *
  clear hvv
  have HV := Lib.hid hv
  have TX := Lib.hid xTX
  have TZ := Lib.hid xTZ
  clear hv xTX xTZ
  have lTX := TX.out.lt
  have kTX0 := TX.out.cell 0
  have kTX1 := TX.out.cell 1
  have lTZ := TZ.out.lt
  have kTZ0 := TZ.out.cell 0
  have kTZ1 := TZ.out.cell 1
  simp only [List.getElem?_toArray, List.getElem?_cons_zero, List.getElem?_cons_succ] at kTX0 kTX1 kTZ0 kTZ1
  go_wp2_with fail
  refine (HE.out _ (HA.out.below HV.out) (HF.out.below HV.out)).mono ?_
  rintro e w1 ⟨⟨v, rfl, hob⟩, hb⟩
  clear lTX lTZ kTX0 kTX1 kTZ0 kTZ1
  have hv := HV.out.trans (hb.mono HV.out.size)
  have xTX := TX.out.below hb TX.out.lt
  have xTZ := TZ.out.below hb TZ.out.lt
  clear hb HV TX TZ
  have HV := Lib.hid hv
  have TX := Lib.hid xTX
  have TZ := Lib.hid xTZ
  clear hv xTX xTZ
  obtain ⟨p1, c1, rfl, m1, y1, _⟩ := OwnB.byS hob
  have HY1 := Lib.hid y1
  clear hob y1
  have lTX := TX.out.lt
  have kTX0 := TX.out.cell 0
  have kTX1 := TX.out.cell 1
  have lTZ := TZ.out.lt
  have kTZ0 := TZ.out.cell 0
  have kTZ1 := TZ.out.cell 1
  simp only [List.getElem?_toArray, List.getElem?_cons_zero, List.getElem?_cons_succ] at kTX0 kTX1 kTZ0 kTZ1
  go_wp2_with fail
  refine (HG.out _ (HB.out.below HV.out) (HF.out.below HV.out)).mono ?_
  rintro e w2 ⟨⟨v, rfl, hob⟩, hb⟩
  clear lTX lTZ kTX0 kTX1 kTZ0 kTZ1
  have hv := HV.out.trans (hb.mono HV.out.size)
  have xTX := TX.out.below hb TX.out.lt
  have xTZ := TZ.out.below hb TZ.out.lt
  have yHY1 := HY1.out.below hb
  clear hb HV TX TZ
  have HV := Lib.hid hv
  have TX := Lib.hid xTX
  have TZ := Lib.hid xTZ
  clear hv xTX xTZ
  clear HY1
  have HY1 := Lib.hid yHY1
  clear yHY1
  obtain ⟨p2, c2_, rfl, m2, y2, _⟩ := OwnB.byS hob
  have HY2 := Lib.hid y2
  clear hob y2
  have lTX := TX.out.lt
  have kTX0 := TX.out.cell 0
  have kTX1 := TX.out.cell 1
  have lTZ := TZ.out.lt
  have kTZ0 := TZ.out.cell 0
  have kTZ1 := TZ.out.cell 1
  simp only [List.getElem?_toArray, List.getElem?_cons_zero, List.getElem?_cons_succ] at kTX0 kTX1 kTZ0 kTZ1
  clear HE HG
  go_wp2_with fail
  have e3 : ∀ d os, Sem.run Tryd.prog (convert 27 9 (.slice p1 bs.length c1)) (grow (redrawn w2 d) os) = .ok (.string (strOfNums bs)) (grow (redrawn w2 d) os) := fun d os => conv_bytes (HY1.out.below (below_regrown w2 d os)) c1
  have e4 : ∀ d os, Sem.run Tryd.prog (convert 27 9 (.slice p2 bs2.length c2_)) (grow (redrawn w2 d) os) = .ok (.string (strOfNums bs2)) (grow (redrawn w2 d) os) := fun d os => conv_bytes (HY2.out.below (below_regrown w2 d os)) c2_
  generalize strOfNums bs = st1 at *
  generalize strOfNums bs2 = st2 at *
  clear HY2
  clear lTX lTZ kTX0 kTX1 kTZ0 kTZ1
  have kTX0 := TX.out.cell 0
  have kTX1 := TX.out.cell 1
  have kTZ0 := TZ.out.cell 0
  have kTZ1 := TZ.out.cell 1
  simp only [List.getElem?_toArray, List.getElem?_cons_zero, List.getElem?_cons_succ] at kTX0 kTX1 kTZ0 kTZ1
  have rkTX0 := cell_regrown kTX0
  have rkTX1 := cell_regrown kTX1
  have rkTZ0 := cell_regrown kTZ0
  have rkTZ1 := cell_regrown kTZ1
  have cN : ∀ (n : Int) d os, Calls Tryd.prog 11 #[.int .i64 n] (grow (redrawn w2 d) os) fun e w'' => e = .returned (.int .i64 n) ∧ ∃ p : Regrown, w'' = grow (redrawn w2 p.d) p.os := fun n d os => Calls.regrown_of ((num5_any n _).mono fun _ _ ⟨he, hw⟩ => ⟨he, by rw [← hw]; exact Below.refl _ _⟩)
  have cS : ∀ d os, Calls Tryd.prog 22 #[.agg #[.int .i64 c, .slice A l.length ca], .agg #[.int .i64 c2, .slice B l2.length cb]] (grow (redrawn w2 d) os) fun e w'' => e = .returned (.bool q) ∧ ∃ p : Regrown, w'' = grow (redrawn w2 p.d) p.os := fun d os => Calls.regrown_of (HS.out _ (HA.out.below (HV.out.trans ((below_regrown w2 d os).mono HV.out.size))) (HB.out.below (HV.out.trans ((below_regrown w2 d os).mono HV.out.size))))
  clear kTX0 kTX1 kTZ0 kTZ1
  refine wp_region_quiet_below (by kernel_rfl) (by kernel_rfl) ?_
  try simp only [List.append_eq, List.cons_append, List.nil_append]
  repeat (go_big_quiet_step (first | (with_reducible exact cN _ _ _) | (with_reducible exact cS _ _)))
  refine wpQuiet_nil ?_
  intro wq hwq
  obtain ⟨⟨dq, osq⟩, rfl⟩ := hwq
  have hb := below_regrown w2 dq osq
  have yHY1 := HY1.out.below hb
  have hv := HV.out.trans (hb.mono HV.out.size)
  have xTX := TX.out.below hb TX.out.lt
  have xTZ := TZ.out.below hb TZ.out.lt
  generalize grow (redrawn w2 dq) osq = w3 at *
  clear hb HV TX TZ rkTX0 rkTX1 rkTZ0 rkTZ1 cN cS
  have HV := Lib.hid hv
  have TX := Lib.hid xTX
  have TZ := Lib.hid xTZ
  clear hv xTX xTZ
  clear HY1
  have HY1 := Lib.hid yHY1
  clear yHY1
  have lTX := TX.out.lt
  have kTX0 := TX.out.cell 0
  have kTX1 := TX.out.cell 1
  have lTZ := TZ.out.lt
  have kTZ0 := TZ.out.cell 0
  have kTZ1 := TZ.out.cell 1
  simp only [List.getElem?_toArray, List.getElem?_cons_zero, List.getElem?_cons_succ] at kTX0 kTX1 kTZ0 kTZ1
  clear e3 e4 hst
  go_wp2_with fail
  refine (num5_any _ _).mono ?_
  rintro e wn4 ⟨rfl, rfl⟩
  go_upto_region 11 with fail
  clear lTX lTZ kTX0 kTX1 kTZ0 kTZ1
  have HHE : Hid (OwnB w3.heap.size (w3.alloc (.cells #[] 5)) (.slice (some ⟨w3.heap.size, 0, none⟩) 0 0) []) := World.ownsRow_made w3 #[] 0 (Nat.le_refl _) (Nat.zero_le _) (by simp)
  have HHW : Hid (Below w3.heap.size w3 (w3.alloc (.cells #[] 5))) := (Below.refl _ _).alloc (Nat.le_refl _) _
  have HYA := Lib.hid (HY1.out.below HHW.out)
  have K1 : ([] : List Int).length + bs.length ≤ 1000000 := by have := HN4.out; simp; omega
  go_wp2_with (first | (at_builtin; refine wpList_app_bytes (v := .slice (some ⟨w3.heap.size, 0, none⟩) 0 0) (xs := []) (p := p1) (ys := bs) (c := c1) rfl _ _ rfl w3.heap.size rfl HHE.out rfl HYA.out K1 (by simp) ?_))
  intro v5 wa o5 g5 _
  have hba := own_below (by simp) HHW.out HHE.out g5
  have o5 : OwnB w3.heap.size wa v5 bs := o5
  obtain ⟨g, cap5, rfl⟩ := Joins.ownsRow_form o5 (by have := HN4.out; omega)
  have hcell : wa.cell? ⟨g, 0, none⟩ = some (.int .u8 c) := by
    rw [World.ownsRow.cellAt o5 0 (by have := HN4.out; omega)]
    simp [List.getElem?_map, HOBB.out]
  have hfz : wa.frozen? ⟨g, 0, none⟩ = false := World.ownsRow.frozenAt o5 0
  have hi1 : 0 < (bs.length : Int) := by have := HN4.out; omega
  have hi2 : 0 < bs.length := by have := HN4.out; omega
  have hos := (World.ownsRow.stored o5 0 (.int .u8 y)).1
  rw [← List.map_set] at hos
  have hos : OwnB w3.heap.size (wa.setCell ⟨g, 0, none⟩ (.int .u8 y)) (.slice (some ⟨g, 0, none⟩) bs.length cap5) (bs.set 0 y) := by unfold OwnB; rw [List.length_set]; exact hos
  have hbs := hba.setCell (p := ⟨g, 0, none⟩) (World.ownsRow.lt o5 g rfl).1 (.int .u8 y)
  obtain ⟨q5, k5, hq5, m5, y5, _⟩ := OwnB.byS hos
  rw [List.length_set] at hq5 m5
  cases hq5
  have HY5 := Lib.hid y5
  have HM5 := Lib.hid m5
  have hv := HV.out.trans (hbs.mono HV.out.size)
  have xTX := TX.out.below hbs TX.out.lt
  have xTZ := TZ.out.below hbs TZ.out.lt
  clear HV HY1 HHE HHW HYA K1 o5 g5 hba hos hbs y5 m5 TX TZ
  have HV := Lib.hid hv
  have TX := Lib.hid xTX
  have TZ := Lib.hid xTZ
  clear hv xTX xTZ
  go_wp2_with fail
  clear hcell hfz hi1 hi2 hyy
  refine (HDEC.out _ _ _ HY5.out HM5.out (HF.out.below HV.out)).mono ?_
  rintro e w5 ⟨⟨A3, k3, rfl, hE3⟩, hb⟩
  have hv := HV.out.trans (hb.mono HV.out.size)
  have xTX := TX.out.below hb TX.out.lt
  have xTZ := TZ.out.below hb TZ.out.lt
  clear hb HV TX TZ
  have HV := Lib.hid hv
  have TX := Lib.hid xTX
  have TZ := Lib.hid xTZ
  clear hv xTX xTZ
  have HE3 := Lib.hid hE3
  clear hE3
  go_upto_region 14 with fail
  have hbx := (Below.refl w5.heap.size w5).alloc (Nat.le_refl _) (.cells #[.int .i64 y, .slice A3 l.length k3] 25)
  have yHE3 := HE3.out.below hbx
  clear hbx
  have hv := HV.out
  have hv := hv.alloc hv.size (.cells #[.int .i64 y, .slice A3 l.length k3] 25)
  have xTX := (TX.out).alloc (.cells #[.int .i64 y, .slice A3 l.length k3] 25)
  have xTZ := (TZ.out).alloc (.cells #[.int .i64 y, .slice A3 l.length k3] 25)
  have xTY : Blk (w5.alloc (.cells #[.int .i64 y, .slice A3 l.length k3] 25)) (w5.heap.size) 25 #[.int .i64 y, .slice A3 l.length k3] := by
    have := Blk.new w5 25 #[.int .i64 y, .slice A3 l.length k3]
    simpa using this
  generalize hvv : (w5.alloc (.cells #[.int .i64 y, .slice A3 l.length k3] 25)) = v2 at *
  clear hvv
  generalize w5.heap.size = gTY at *
  clear HV TX TZ
  have HV := Lib.hid hv
  have TX := Lib.hid xTX
  have TZ := Lib.hid xTZ
  have TY := Lib.hid xTY
  clear hv xTX xTZ xTY
  clear HE3
  have HE3 := Lib.hid yHE3
  clear yHE3
  have lTX := TX.out.lt
  have kTX0 := TX.out.cell 0
  have kTX1 := TX.out.cell 1
  have lTY := TY.out.lt
  have kTY0 := TY.out.cell 0
  have kTY1 := TY.out.cell 1
  simp only [List.getElem?_toArray, List.getElem?_cons_zero, List.getElem?_cons_succ] at kTX0 kTX1 kTY0 kTY1
  go_wp2_with fail
  refine (num5_any _ _).mono ?_
  rintro e wn6 ⟨rfl, rfl⟩
  go_wp2_with fail
  refine (HSM.out _ _ _ HE3.out (HA.out.below HV.out)).mono ?_
  rintro e w7 ⟨rfl, hb⟩
  clear lTX lTY kTX0 kTX1 kTY0 kTY1
  have hv := HV.out.trans (hb.mono HV.out.size)
  have xTX := TX.out.below hb TX.out.lt
  have xTZ := TZ.out.below hb TZ.out.lt
  have xTY := TY.out.below hb TY.out.lt
  have yHE3 := HE3.out.below hb
  clear hb HV TX TZ TY
  have HV := Lib.hid hv
  have TX := Lib.hid xTX
  have TZ := Lib.hid xTZ
  have TY := Lib.hid xTY
  clear hv xTX xTZ xTY
  clear HE3
  have HE3 := Lib.hid yHE3
  clear yHE3
  go_wp2_with fail
  refine (HY0.out _ (HF.out.below HV.out)).mono ?_
  rintro e w8 ⟨rfl, hb⟩
  have hv := HV.out.trans (hb.mono HV.out.size)
  have xTX := TX.out.below hb TX.out.lt
  have xTZ := TZ.out.below hb TZ.out.lt
  have xTY := TY.out.below hb TY.out.lt
  have yHE3 := HE3.out.below hb
  clear hb HV TX TZ TY
  have HV := Lib.hid hv
  have TX := Lib.hid xTX
  have TZ := Lib.hid xTZ
  have TY := Lib.hid xTY
  clear hv xTX xTZ xTY
  clear HE3
  have HE3 := Lib.hid yHE3
  clear yHE3
  go_wp2_with fail
  go_ret
  exact ⟨rfl, HV.out⟩

set_option maxRecDepth 1000000 in
set_option maxHeartbeats 6400000 in
theorem law05_holds_e0 (c : Int) (A : Option Addr) (ca : Nat) (l : List Ent) (ho : OkL l) (c2 : Int) (B : Option Addr) (cb : Nat) (l2 : List Ent) (ho2 : OkL l2) (at_ wt : Int) (hl : l.length ≤ 40) (hl2 : l2.length ≤ 40) (h0 : ¬ encNo ⟨c, l⟩ = 0) (hr1 : 0 ≤ encNo ⟨c, l⟩ ∧ encNo ⟨c, l⟩ ≤ 3) (h2 : ¬ encNo ⟨c2, l2⟩ = 0) (hr2 : 0 ≤ encNo ⟨c2, l2⟩ ∧ encNo ⟨c2, l2⟩ ≤ 3)  (w : World) (hA : EntS w A l) (hB : EntS w B l2) (hf : Fit3 w) :
    Calls Tryd.prog 7 #[datV c A l.length ca, datV c2 B l2.length cb, .int .i64 at_, .int .u8 wt] w fun e w' => e = .returned (.bool true) ∧ Below w.heap.size w w' := by
  have HF := Lib.hid hf
  have HA := Lib.hid hA
  have HB := Lib.hid hB
  have HO := Lib.hid ho
  have HO2 := Lib.hid ho2
  have HY0 : Hid (∀ W, Fit3 W → Calls Tryd.prog 8 #[] W fun e w' => e = .returned (.bool true) ∧ Below W.heap.size W w') := yes5
  clear hf hA hB ho ho2
  have nl : ¬ 40 < (l.length : Int) := by omega
  have nl2 : ¬ 40 < (l2.length : Int) := by omega
  have hE := fun W (h : EntS W A l) (hF : Fit3 W) => encode5_no c A ca l (by omega) HO.out W h hF h0
  have hG := fun W (h : EntS W B l2) (hF : Fit3 W) => encode5_no c2 B cb l2 (by omega) HO2.out W h hF h2
  have HE := Lib.hid hE
  have HG := Lib.hid hG
  clear hE hG
  generalize encNo ⟨c, l⟩ = no1 at *
  have hn1 : 0 ≤ no1 ∧ no1 ≤ 3 := hr1
  clear hr1
  generalize encNo ⟨c2, l2⟩ = no2 at *
  have hn2 : 0 ≤ no2 ∧ no2 ≤ 3 := hr2
  clear hr2
  obtain ⟨sm, hsm⟩ : ∃ sm, no1 + no2 = sm := ⟨_, rfl⟩
  have hsw : IntKind.i64.wrap sm = sm := by rw [IntKind.wrap_i64]; omega
  have hsz : ¬ sm = 0 := by omega
  have hzq : (sm == 0) = false := by simpa using hsz
  clear hn1 hn2
  go_enter Tryd.func7, Tryd.ntmps7
  go_wp2_with fail
  have hv := Below.refl w.heap.size w
  have hv := hv.alloc hv.size (.cells #[.int .i64 c, .slice A l.length ca] 25)
  have hv := hv.alloc hv.size (.cells #[.int .i64 c2, .slice B l2.length cb] 25)
  have xTX : Blk ((w.alloc (.cells #[.int .i64 c, .slice A l.length ca] 25)).alloc (.cells #[.int .i64 c2, .slice B l2.length cb] 25)) (w.heap.size) 25 #[.int .i64 c, .slice A l.length ca] := by
    have := (Blk.new w 25 #[.int .i64 c, .slice A l.length ca]).alloc (.cells #[.int .i64 c2, .slice B l2.length cb] 25)
    simpa using this
  have xTZ : Blk ((w.alloc (.cells #[.int .i64 c, .slice A l.length ca] 25)).alloc (.cells #[.int .i64 c2, .slice B l2.length cb] 25)) (w.heap.size + 1) 25 #[.int .i64 c2, .slice B l2.length cb] := by
    have := Blk.new (w.alloc (.cells #[.int .i64 c, .slice A l.length ca] 25)) 25 #[.int .i64 c2, .slice B l2.length cb]
    simpa using this
  generalize hvv : ((w.alloc (.cells #[.int .i64 c, .slice A l.length ca] 25)).alloc (.cells #[.int .i64 c2, .slice B l2.length cb] 25)) = v1 at *
  clear hvv
  have HV := Lib.hid hv
  have TX := Lib.hid xTX
  have TZ := Lib.hid xTZ
  clear hv xTX xTZ
  have lTX := TX.out.lt
  have kTX0 := TX.out.cell 0
  have kTX1 := TX.out.cell 1
  have lTZ := TZ.out.lt
  have kTZ0 := TZ.out.cell 0
  have kTZ1 := TZ.out.cell 1
  simp only [List.getElem?_toArray, List.getElem?_cons_zero, List.getElem?_cons_succ] at kTX0 kTX1 kTZ0 kTZ1
  go_wp2_with fail
  refine (HE.out _ (HA.out.below HV.out) (HF.out.below HV.out)).mono ?_
  rintro e w1 ⟨rfl, hb⟩
  clear lTX lTZ kTX0 kTX1 kTZ0 kTZ1
  have hv := HV.out.trans (hb.mono HV.out.size)
  have xTX := TX.out.below hb TX.out.lt
  have xTZ := TZ.out.below hb TZ.out.lt
  clear hb HV TX TZ
  have HV := Lib.hid hv
  have TX := Lib.hid xTX
  have TZ := Lib.hid xTZ
  clear hv xTX xTZ
  have lTX := TX.out.lt
  have kTX0 := TX.out.cell 0
  have kTX1 := TX.out.cell 1
  have lTZ := TZ.out.lt
  have kTZ0 := TZ.out.cell 0
  have kTZ1 := TZ.out.cell 1
  simp only [List.getElem?_toArray, List.getElem?_cons_zero, List.getElem?_cons_succ] at kTX0 kTX1 kTZ0 kTZ1
  go_wp2_with fail
  refine (HG.out _ (HB.out.below HV.out) (HF.out.below HV.out)).mono ?_
  rintro e w2 ⟨rfl, hb⟩
  clear lTX lTZ kTX0 kTX1 kTZ0 kTZ1
  have hv := HV.out.trans (hb.mono HV.out.size)
  have xTX := TX.out.below hb TX.out.lt
  have xTZ := TZ.out.below hb TZ.out.lt
  clear hb HV TX TZ
  have HV := Lib.hid hv
  have TX := Lib.hid xTX
  have TZ := Lib.hid xTZ
  clear hv xTX xTZ
  have lTX := TX.out.lt
  have kTX0 := TX.out.cell 0
  have kTX1 := TX.out.cell 1
  have lTZ := TZ.out.lt
  have kTZ0 := TZ.out.cell 0
  have kTZ1 := TZ.out.cell 1
  simp only [List.getElem?_toArray, List.getElem?_cons_zero, List.getElem?_cons_succ] at kTX0 kTX1 kTZ0 kTZ1
  clear HE HG
  go_wp2_with fail
  clear lTX lTZ kTX0 kTX1 kTZ0 kTZ1
  have kTX0 := TX.out.cell 0
  have kTX1 := TX.out.cell 1
  have kTZ0 := TZ.out.cell 0
  have kTZ1 := TZ.out.cell 1
  simp only [List.getElem?_toArray, List.getElem?_cons_zero, List.getElem?_cons_succ] at kTX0 kTX1 kTZ0 kTZ1
  have rkTX0 := cell_regrown kTX0
  have rkTX1 := cell_regrown kTX1
  have rkTZ0 := cell_regrown kTZ0
  have rkTZ1 := cell_regrown kTZ1
  have cN : ∀ (n : Int) d os, Calls Tryd.prog 11 #[.int .i64 n] (grow (redrawn w2 d) os) fun e w'' => e = .returned (.int .i64 n) ∧ ∃ p : Regrown, w'' = grow (redrawn w2 p.d) p.os := fun n d os => Calls.regrown_of ((num5_any n _).mono fun _ _ ⟨he, hw⟩ => ⟨he, by rw [← hw]; exact Below.refl _ _⟩)
  clear kTX0 kTX1 kTZ0 kTZ1
  refine wp_region_quiet_below (by kernel_rfl) (by kernel_rfl) ?_
  try simp only [List.append_eq, List.cons_append, List.nil_append]
  repeat (go_big_quiet_step (first | (with_reducible exact cN _ _ _)))
  refine wpQuiet_nil ?_
  intro wq hwq
  obtain ⟨⟨dq, osq⟩, rfl⟩ := hwq
  have hb := below_regrown w2 dq osq
  have hv := HV.out.trans (hb.mono HV.out.size)
  have xTX := TX.out.below hb TX.out.lt
  have xTZ := TZ.out.below hb TZ.out.lt
  generalize grow (redrawn w2 dq) osq = w3 at *
  clear hb HV TX TZ rkTX0 rkTX1 rkTZ0 rkTZ1 cN
  have HV := Lib.hid hv
  have TX := Lib.hid xTX
  have TZ := Lib.hid xTZ
  clear hv xTX xTZ
  have lTX := TX.out.lt
  have kTX0 := TX.out.cell 0
  have kTX1 := TX.out.cell 1
  have lTZ := TZ.out.lt
  have kTZ0 := TZ.out.cell 0
  have kTZ1 := TZ.out.cell 1
  simp only [List.getElem?_toArray, List.getElem?_cons_zero, List.getElem?_cons_succ] at kTX0 kTX1 kTZ0 kTZ1
  go_wp2_with fail
  refine (num5_any _ _).mono ?_
  rintro e wn4 ⟨rfl, rfl⟩
  go_wp2_with fail
  refine (HY0.out _ (HF.out.below HV.out)).mono ?_
  rintro e w5 ⟨rfl, hb⟩
  clear lTX lTZ kTX0 kTX1 kTZ0 kTZ1
  have hv := HV.out.trans (hb.mono HV.out.size)
  have xTX := TX.out.below hb TX.out.lt
  have xTZ := TZ.out.below hb TZ.out.lt
  clear hb HV TX TZ
  have HV := Lib.hid hv
  have TX := Lib.hid xTX
  have TZ := Lib.hid xTZ
  clear hv xTX xTZ
  go_wp2_with fail
  go_ret
  exact ⟨rfl, HV.out⟩

set_option maxRecDepth 1000000 in
set_option maxHeartbeats 6400000 in
theorem law05_holds_stop10 (c : Int) (A : Option Addr) (ca : Nat) (l : List Ent) (ho : OkL l) (c2 : Int) (B : Option Addr) (cb : Nat) (l2 : List Ent) (ho2 : OkL l2) (at_ wt : Int) (hl : l.length ≤ 40) (hl2 : l2.length ≤ 40) (h0 : encNo ⟨c, l⟩ = 0) (h2 : ¬ encNo ⟨c2, l2⟩ = 0) (hr2 : 0 ≤ encNo ⟨c2, l2⟩ ∧ encNo ⟨c2, l2⟩ ≤ 3) (ha : at_ < 0) (w : World) (hA : EntS w A l) (hB : EntS w B l2) (hf : Fit3 w) :
    Calls Tryd.prog 7 #[datV c A l.length ca, datV c2 B l2.length cb, .int .i64 at_, .int .u8 wt] w fun e w' => e = .returned (.bool true) ∧ Below w.heap.size w w' := by
  have HF := Lib.hid hf
  have HA := Lib.hid hA
  have HB := Lib.hid hB
  have HO := Lib.hid ho
  have HO2 := Lib.hid ho2
  have HY0 : Hid (∀ W, Fit3 W → Calls Tryd.prog 8 #[] W fun e w' => e = .returned (.bool true) ∧ Below W.heap.size W w') := yes5
  clear hf hA hB ho ho2
  have nl : ¬ 40 < (l.length : Int) := by omega
  have nl2 : ¬ 40 < (l2.length : Int) := by omega
  have hE := fun W (h : EntS W A l) (hF : Fit3 W) => encode5_yes c A ca l (by omega) HO.out W h hF h0
  have hN := bytesD_len ⟨c, l⟩
  have h25 := (encNo_zero.1 h0).2.1
  dsimp only at hN h25
  have hG := fun W (h : EntS W B l2) (hF : Fit3 W) => encode5_no c2 B cb l2 (by omega) HO2.out W h hF h2
  have HE := Lib.hid hE
  have HG := Lib.hid hG
  clear hE hG
  generalize bytesD ⟨c, l⟩ = bs at *
  have n4 : ¬ (bs.length : Int) < 4 := by omega
  have n5 : ¬ 504 < (bs.length : Int) := by omega
  have HN4 : Hid (4 ≤ bs.length ∧ bs.length ≤ 1000000) := Lib.hid (by omega)
  clear hN h25
  generalize encNo ⟨c2, l2⟩ = no2 at *
  have hn2 : 0 ≤ no2 ∧ no2 ≤ 3 := hr2
  clear hr2
  have hsw : IntKind.i64.wrap no2 = no2 := by rw [IntKind.wrap_i64]; omega
  have hzq : (no2 == 0) = false := by simpa using h2
  clear hn2
  go_enter Tryd.func7, Tryd.ntmps7
  go_wp2_with fail
  have hv := Below.refl w.heap.size w
  have hv := hv.alloc hv.size (.cells #[.int .i64 c, .slice A l.length ca] 25)
  have hv := hv.alloc hv.size (.cells #[.int .i64 c2, .slice B l2.length cb] 25)
  have xTX : Blk ((w.alloc (.cells #[.int .i64 c, .slice A l.length ca] 25)).alloc (.cells #[.int .i64 c2, .slice B l2.length cb] 25)) (w.heap.size) 25 #[.int .i64 c, .slice A l.length ca] := by
    have := (Blk.new w 25 #[.int .i64 c, .slice A l.length ca]).alloc (.cells #[.int .i64 c2, .slice B l2.length cb] 25)
    simpa using this
  have xTZ : Blk ((w.alloc (.cells #[.int .i64 c, .slice A l.length ca] 25)).alloc (.cells #[.int .i64 c2, .slice B l2.length cb] 25)) (w.heap.size + 1) 25 #[.int .i64 c2, .slice B l2.length cb] := by
    have := Blk.new (w.alloc (.cells #[.int .i64 c, .slice A l.length ca] 25)) 25 #[.int .i64 c2, .slice B l2.length cb]
    simpa using this
  generalize hvv : ((w.alloc (.cells #[.int .i64 c, .slice A l.length ca] 25)).alloc (.cells #[.int .i64 c2, .slice B l2.length cb] 25)) = v1 at *
  clear hvv
  have HV := Lib.hid hv
  have TX := Lib.hid xTX
  have TZ := Lib.hid xTZ
  clear hv xTX xTZ
  have lTX := TX.out.lt
  have kTX0 := TX.out.cell 0
  have kTX1 := TX.out.cell 1
  have lTZ := TZ.out.lt
  have kTZ0 := TZ.out.cell 0
  have kTZ1 := TZ.out.cell 1
  simp only [List.getElem?_toArray, List.getElem?_cons_zero, List.getElem?_cons_succ] at kTX0 kTX1 kTZ0 kTZ1
  go_wp2_with fail
  refine (HE.out _ (HA.out.below HV.out) (HF.out.below HV.out)).mono ?_
  rintro e w1 ⟨⟨v, rfl, hob⟩, hb⟩
  clear lTX lTZ kTX0 kTX1 kTZ0 kTZ1
  have hv := HV.out.trans (hb.mono HV.out.size)
  have xTX := TX.out.below hb TX.out.lt
  have xTZ := TZ.out.below hb TZ.out.lt
  clear hb HV TX TZ
  have HV := Lib.hid hv
  have TX := Lib.hid xTX
  have TZ := Lib.hid xTZ
  clear hv xTX xTZ
  obtain ⟨p1, c1, rfl, m1, y1, _⟩ := OwnB.byS hob
  have HY1 := Lib.hid y1
  clear hob y1
  have lTX := TX.out.lt
  have kTX0 := TX.out.cell 0
  have kTX1 := TX.out.cell 1
  have lTZ := TZ.out.lt
  have kTZ0 := TZ.out.cell 0
  have kTZ1 := TZ.out.cell 1
  simp only [List.getElem?_toArray, List.getElem?_cons_zero, List.getElem?_cons_succ] at kTX0 kTX1 kTZ0 kTZ1
  go_wp2_with fail
  refine (HG.out _ (HB.out.below HV.out) (HF.out.below HV.out)).mono ?_
  rintro e w2 ⟨rfl, hb⟩
  clear lTX lTZ kTX0 kTX1 kTZ0 kTZ1
  have hv := HV.out.trans (hb.mono HV.out.size)
  have xTX := TX.out.below hb TX.out.lt
  have xTZ := TZ.out.below hb TZ.out.lt
  have yHY1 := HY1.out.below hb
  clear hb HV TX TZ
  have HV := Lib.hid hv
  have TX := Lib.hid xTX
  have TZ := Lib.hid xTZ
  clear hv xTX xTZ
  clear HY1
  have HY1 := Lib.hid yHY1
  clear yHY1
  have lTX := TX.out.lt
  have kTX0 := TX.out.cell 0
  have kTX1 := TX.out.cell 1
  have lTZ := TZ.out.lt
  have kTZ0 := TZ.out.cell 0
  have kTZ1 := TZ.out.cell 1
  simp only [List.getElem?_toArray, List.getElem?_cons_zero, List.getElem?_cons_succ] at kTX0 kTX1 kTZ0 kTZ1
  clear HE HG
  go_wp2_with fail
  clear lTX lTZ kTX0 kTX1 kTZ0 kTZ1
  have kTX0 := TX.out.cell 0
  have kTX1 := TX.out.cell 1
  have kTZ0 := TZ.out.cell 0
  have kTZ1 := TZ.out.cell 1
  simp only [List.getElem?_toArray, List.getElem?_cons_zero, List.getElem?_cons_succ] at kTX0 kTX1 kTZ0 kTZ1
  have rkTX0 := cell_regrown kTX0
  have rkTX1 := cell_regrown kTX1
  have rkTZ0 := cell_regrown kTZ0
  have rkTZ1 := cell_regrown kTZ1
  have cN : ∀ (n : Int) d os, Calls Tryd.prog 11 #[.int .i64 n] (grow (redrawn w2 d) os) fun e w'' => e = .returned (.int .i64 n) ∧ ∃ p : Regrown, w'' = grow (redrawn w2 p.d) p.os := fun n d os => Calls.regrown_of ((num5_any n _).mono fun _ _ ⟨he, hw⟩ => ⟨he, by rw [← hw]; exact Below.refl _ _⟩)
  clear kTX0 kTX1 kTZ0 kTZ1
  refine wp_region_quiet_below (by kernel_rfl) (by kernel_rfl) ?_
  try simp only [List.append_eq, List.cons_append, List.nil_append]
  repeat (go_big_quiet_step (first | (with_reducible exact cN _ _ _)))
  refine wpQuiet_nil ?_
  intro wq hwq
  obtain ⟨⟨dq, osq⟩, rfl⟩ := hwq
  have hb := below_regrown w2 dq osq
  have yHY1 := HY1.out.below hb
  have hv := HV.out.trans (hb.mono HV.out.size)
  have xTX := TX.out.below hb TX.out.lt
  have xTZ := TZ.out.below hb TZ.out.lt
  generalize grow (redrawn w2 dq) osq = w3 at *
  clear hb HV TX TZ rkTX0 rkTX1 rkTZ0 rkTZ1 cN
  have HV := Lib.hid hv
  have TX := Lib.hid xTX
  have TZ := Lib.hid xTZ
  clear hv xTX xTZ
  clear HY1
  have HY1 := Lib.hid yHY1
  clear yHY1
  have lTX := TX.out.lt
  have kTX0 := TX.out.cell 0
  have kTX1 := TX.out.cell 1
  have lTZ := TZ.out.lt
  have kTZ0 := TZ.out.cell 0
  have kTZ1 := TZ.out.cell 1
  simp only [List.getElem?_toArray, List.getElem?_cons_zero, List.getElem?_cons_succ] at kTX0 kTX1 kTZ0 kTZ1
  go_wp2_with fail
  refine (num5_any _ _).mono ?_
  rintro e wn4 ⟨rfl, rfl⟩
  go_wp2_with fail
  refine (HY0.out _ (HF.out.below HV.out)).mono ?_
  rintro e w5 ⟨rfl, hb⟩
  clear lTX lTZ kTX0 kTX1 kTZ0 kTZ1
  have hv := HV.out.trans (hb.mono HV.out.size)
  have xTX := TX.out.below hb TX.out.lt
  have xTZ := TZ.out.below hb TZ.out.lt
  have yHY1 := HY1.out.below hb
  clear hb HV TX TZ
  have HV := Lib.hid hv
  have TX := Lib.hid xTX
  have TZ := Lib.hid xTZ
  clear hv xTX xTZ
  clear HY1
  have HY1 := Lib.hid yHY1
  clear yHY1
  go_wp2_with fail
  go_ret
  exact ⟨rfl, HV.out⟩

set_option maxRecDepth 1000000 in
set_option maxHeartbeats 6400000 in
theorem law05_holds_stop20 (c : Int) (A : Option Addr) (ca : Nat) (l : List Ent) (ho : OkL l) (c2 : Int) (B : Option Addr) (cb : Nat) (l2 : List Ent) (ho2 : OkL l2) (at_ wt : Int) (hl : l.length ≤ 40) (hl2 : l2.length ≤ 40) (h0 : encNo ⟨c, l⟩ = 0) (h2 : ¬ encNo ⟨c2, l2⟩ = 0) (hr2 : 0 ≤ encNo ⟨c2, l2⟩ ∧ encNo ⟨c2, l2⟩ ≤ 3) (ha : ¬ at_ < 0) (hb : 3 < at_) (w : World) (hA : EntS w A l) (hB : EntS w B l2) (hf : Fit3 w) :
    Calls Tryd.prog 7 #[datV c A l.length ca, datV c2 B l2.length cb, .int .i64 at_, .int .u8 wt] w fun e w' => e = .returned (.bool true) ∧ Below w.heap.size w w' := by
  have HF := Lib.hid hf
  have HA := Lib.hid hA
  have HB := Lib.hid hB
  have HO := Lib.hid ho
  have HO2 := Lib.hid ho2
  have HY0 : Hid (∀ W, Fit3 W → Calls Tryd.prog 8 #[] W fun e w' => e = .returned (.bool true) ∧ Below W.heap.size W w') := yes5
  clear hf hA hB ho ho2
  have nl : ¬ 40 < (l.length : Int) := by omega
  have nl2 : ¬ 40 < (l2.length : Int) := by omega
  have hE := fun W (h : EntS W A l) (hF : Fit3 W) => encode5_yes c A ca l (by omega) HO.out W h hF h0
  have hN := bytesD_len ⟨c, l⟩
  have h25 := (encNo_zero.1 h0).2.1
  dsimp only at hN h25
  have hG := fun W (h : EntS W B l2) (hF : Fit3 W) => encode5_no c2 B cb l2 (by omega) HO2.out W h hF h2
  have HE := Lib.hid hE
  have HG := Lib.hid hG
  clear hE hG
  generalize bytesD ⟨c, l⟩ = bs at *
  have n4 : ¬ (bs.length : Int) < 4 := by omega
  have n5 : ¬ 504 < (bs.length : Int) := by omega
  have HN4 : Hid (4 ≤ bs.length ∧ bs.length ≤ 1000000) := Lib.hid (by omega)
  clear hN h25
  generalize encNo ⟨c2, l2⟩ = no2 at *
  have hn2 : 0 ≤ no2 ∧ no2 ≤ 3 := hr2
  clear hr2
  have hsw : IntKind.i64.wrap no2 = no2 := by rw [IntKind.wrap_i64]; omega
  have hzq : (no2 == 0) = false := by simpa using h2
  clear hn2
  go_enter Tryd.func7, Tryd.ntmps7
  go_wp2_with fail
  have hv := Below.refl w.heap.size w
  have hv := hv.alloc hv.size (.cells #[.int .i64 c, .slice A l.length ca] 25)
  have hv := hv.alloc hv.size (.cells #[.int .i64 c2, .slice B l2.length cb] 25)
  have xTX : Blk ((w.alloc (.cells #[.int .i64 c, .slice A l.length ca] 25)).alloc (.cells #[.int .i64 c2, .slice B l2.length cb] 25)) (w.heap.size) 25 #[.int .i64 c, .slice A l.length ca] := by
    have := (Blk.new w 25 #[.int .i64 c, .slice A l.length ca]).alloc (.cells #[.int .i64 c2, .slice B l2.length cb] 25)
    simpa using this
  have xTZ : Blk ((w.alloc (.cells #[.int .i64 c, .slice A l.length ca] 25)).alloc (.cells #[.int .i64 c2, .slice B l2.length cb] 25)) (w.heap.size + 1) 25 #[.int .i64 c2, .slice B l2.length cb] := by
    have := Blk.new (w.alloc (.cells #[.int .i64 c, .slice A l.length ca] 25)) 25 #[.int .i64 c2, .slice B l2.length cb]
    simpa using this
  generalize hvv : ((w.alloc (.cells #[.int .i64 c, .slice A l.length ca] 25)).alloc (.cells #[.int .i64 c2, .slice B l2.length cb] 25)) = v1 at *
  clear hvv
  have HV := Lib.hid hv
  have TX := Lib.hid xTX
  have TZ := Lib.hid xTZ
  clear hv xTX xTZ
  have lTX := TX.out.lt
  have kTX0 := TX.out.cell 0
  have kTX1 := TX.out.cell 1
  have lTZ := TZ.out.lt
  have kTZ0 := TZ.out.cell 0
  have kTZ1 := TZ.out.cell 1
  simp only [List.getElem?_toArray, List.getElem?_cons_zero, List.getElem?_cons_succ] at kTX0 kTX1 kTZ0 kTZ1
  go_wp2_with fail
  refine (HE.out _ (HA.out.below HV.out) (HF.out.below HV.out)).mono ?_
  rintro e w1 ⟨⟨v, rfl, hob⟩, hb⟩
  clear lTX lTZ kTX0 kTX1 kTZ0 kTZ1
  have hv := HV.out.trans (hb.mono HV.out.size)
  have xTX := TX.out.below hb TX.out.lt
  have xTZ := TZ.out.below hb TZ.out.lt
  clear hb HV TX TZ
  have HV := Lib.hid hv
  have TX := Lib.hid xTX
  have TZ := Lib.hid xTZ
  clear hv xTX xTZ
  obtain ⟨p1, c1, rfl, m1, y1, _⟩ := OwnB.byS hob
  have HY1 := Lib.hid y1
  clear hob y1
  have lTX := TX.out.lt
  have kTX0 := TX.out.cell 0
  have kTX1 := TX.out.cell 1
  have lTZ := TZ.out.lt
  have kTZ0 := TZ.out.cell 0
  have kTZ1 := TZ.out.cell 1
  simp only [List.getElem?_toArray, List.getElem?_cons_zero, List.getElem?_cons_succ] at kTX0 kTX1 kTZ0 kTZ1
  go_wp2_with fail
  refine (HG.out _ (HB.out.below HV.out) (HF.out.below HV.out)).mono ?_
  rintro e w2 ⟨rfl, hb⟩
  clear lTX lTZ kTX0 kTX1 kTZ0 kTZ1
  have hv := HV.out.trans (hb.mono HV.out.size)
  have xTX := TX.out.below hb TX.out.lt
  have xTZ := TZ.out.below hb TZ.out.lt
  have yHY1 := HY1.out.below hb
  clear hb HV TX TZ
  have HV := Lib.hid hv
  have TX := Lib.hid xTX
  have TZ := Lib.hid xTZ
  clear hv xTX xTZ
  clear HY1
  have HY1 := Lib.hid yHY1
  clear yHY1
  have lTX := TX.out.lt
  have kTX0 := TX.out.cell 0
  have kTX1 := TX.out.cell 1
  have lTZ := TZ.out.lt
  have kTZ0 := TZ.out.cell 0
  have kTZ1 := TZ.out.cell 1
  simp only [List.getElem?_toArray, List.getElem?_cons_zero, List.getElem?_cons_succ] at kTX0 kTX1 kTZ0 kTZ1
  clear HE HG
  go_wp2_with fail
  clear lTX lTZ kTX0 kTX1 kTZ0 kTZ1
  have kTX0 := TX.out.cell 0
  have kTX1 := TX.out.cell 1
  have kTZ0 := TZ.out.cell 0
  have kTZ1 := TZ.out.cell 1
  simp only [List.getElem?_toArray, List.getElem?_cons_zero, List.getElem?_cons_succ] at kTX0 kTX1 kTZ0 kTZ1
  have rkTX0 := cell_regrown kTX0
  have rkTX1 := cell_regrown kTX1
  have rkTZ0 := cell_regrown kTZ0
  have rkTZ1 := cell_regrown kTZ1
  have cN : ∀ (n : Int) d os, Calls Tryd.prog 11 #[.int .i64 n] (grow (redrawn w2 d) os) fun e w'' => e = .returned (.int .i64 n) ∧ ∃ p : Regrown, w'' = grow (redrawn w2 p.d) p.os := fun n d os => Calls.regrown_of ((num5_any n _).mono fun _ _ ⟨he, hw⟩ => ⟨he, by rw [← hw]; exact Below.refl _ _⟩)
  clear kTX0 kTX1 kTZ0 kTZ1
  refine wp_region_quiet_below (by kernel_rfl) (by kernel_rfl) ?_
  try simp only [List.append_eq, List.cons_append, List.nil_append]
  repeat (go_big_quiet_step (first | (with_reducible exact cN _ _ _)))
  refine wpQuiet_nil ?_
  intro wq hwq
  obtain ⟨⟨dq, osq⟩, rfl⟩ := hwq
  have hb := below_regrown w2 dq osq
  have yHY1 := HY1.out.below hb
  have hv := HV.out.trans (hb.mono HV.out.size)
  have xTX := TX.out.below hb TX.out.lt
  have xTZ := TZ.out.below hb TZ.out.lt
  generalize grow (redrawn w2 dq) osq = w3 at *
  clear hb HV TX TZ rkTX0 rkTX1 rkTZ0 rkTZ1 cN
  have HV := Lib.hid hv
  have TX := Lib.hid xTX
  have TZ := Lib.hid xTZ
  clear hv xTX xTZ
  clear HY1
  have HY1 := Lib.hid yHY1
  clear yHY1
  have lTX := TX.out.lt
  have kTX0 := TX.out.cell 0
  have kTX1 := TX.out.cell 1
  have lTZ := TZ.out.lt
  have kTZ0 := TZ.out.cell 0
  have kTZ1 := TZ.out.cell 1
  simp only [List.getElem?_toArray, List.getElem?_cons_zero, List.getElem?_cons_succ] at kTX0 kTX1 kTZ0 kTZ1
  go_wp2_with fail
  refine (num5_any _ _).mono ?_
  rintro e wn4 ⟨rfl, rfl⟩
  go_wp2_with fail
  refine (HY0.out _ (HF.out.below HV.out)).mono ?_
  rintro e w5 ⟨rfl, hb⟩
  clear lTX lTZ kTX0 kTX1 kTZ0 kTZ1
  have hv := HV.out.trans (hb.mono HV.out.size)
  have xTX := TX.out.below hb TX.out.lt
  have xTZ := TZ.out.below hb TZ.out.lt
  have yHY1 := HY1.out.below hb
  clear hb HV TX TZ
  have HV := Lib.hid hv
  have TX := Lib.hid xTX
  have TZ := Lib.hid xTZ
  clear hv xTX xTZ
  clear HY1
  have HY1 := Lib.hid yHY1
  clear yHY1
  go_wp2_with fail
  go_ret
  exact ⟨rfl, HV.out⟩

set_option maxRecDepth 1000000 in
set_option maxHeartbeats 6400000 in
theorem law05_holds_stop30 (c : Int) (A : Option Addr) (ca : Nat) (l : List Ent) (ho : OkL l) (c2 : Int) (B : Option Addr) (cb : Nat) (l2 : List Ent) (ho2 : OkL l2) (at_ : Int) (hl : l.length ≤ 40) (hl2 : l2.length ≤ 40) (h0 : encNo ⟨c, l⟩ = 0) (h2 : ¬ encNo ⟨c2, l2⟩ = 0) (hr2 : 0 ≤ encNo ⟨c2, l2⟩ ∧ encNo ⟨c2, l2⟩ ≤ 3) (ha : ¬ at_ < 0) (hb : ¬ 3 < at_) (w : World) (hA : EntS w A l) (hB : EntS w B l2) (hf : Fit3 w) :
    Calls Tryd.prog 7 #[datV c A l.length ca, datV c2 B l2.length cb, .int .i64 at_, .int .u8 0] w fun e w' => e = .returned (.bool true) ∧ Below w.heap.size w w' := by
  have HF := Lib.hid hf
  have HA := Lib.hid hA
  have HB := Lib.hid hB
  have HO := Lib.hid ho
  have HO2 := Lib.hid ho2
  have HY0 : Hid (∀ W, Fit3 W → Calls Tryd.prog 8 #[] W fun e w' => e = .returned (.bool true) ∧ Below W.heap.size W w') := yes5
  clear hf hA hB ho ho2
  have nl : ¬ 40 < (l.length : Int) := by omega
  have nl2 : ¬ 40 < (l2.length : Int) := by omega
  have hE := fun W (h : EntS W A l) (hF : Fit3 W) => encode5_yes c A ca l (by omega) HO.out W h hF h0
  have hN := bytesD_len ⟨c, l⟩
  have h25 := (encNo_zero.1 h0).2.1
  dsimp only at hN h25
  have hG := fun W (h : EntS W B l2) (hF : Fit3 W) => encode5_no c2 B cb l2 (by omega) HO2.out W h hF h2
  have HE := Lib.hid hE
  have HG := Lib.hid hG
  clear hE hG
  generalize bytesD ⟨c, l⟩ = bs at *
  have n4 : ¬ (bs.length : Int) < 4 := by omega
  have n5 : ¬ 504 < (bs.length : Int) := by omega
  have HN4 : Hid (4 ≤ bs.length ∧ bs.length ≤ 1000000) := Lib.hid (by omega)
  clear hN h25
  generalize encNo ⟨c2, l2⟩ = no2 at *
  have hn2 : 0 ≤ no2 ∧ no2 ≤ 3 := hr2
  clear hr2
  have hsw : IntKind.i64.wrap no2 = no2 := by rw [IntKind.wrap_i64]; omega
  have hzq : (no2 == 0) = false := by simpa using h2
  clear hn2
  go_enter Tryd.func7, Tryd.ntmps7
  go_wp2_with fail
  have hv := Below.refl w.heap.size w
  have hv := hv.alloc hv.size (.cells #[.int .i64 c, .slice A l.length ca] 25)
  have hv := hv.alloc hv.size (.cells #[.int .i64 c2, .slice B l2.length cb] 25)
  have xTX : Blk ((w.alloc (.cells #[.int .i64 c, .slice A l.length ca] 25)).alloc (.cells #[.int .i64 c2, .slice B l2.length cb] 25)) (w.heap.size) 25 #[.int .i64 c, .slice A l.length ca] := by
    have := (Blk.new w 25 #[.int .i64 c, .slice A l.length ca]).alloc (.cells #[.int .i64 c2, .slice B l2.length cb] 25)
    simpa using this
  have xTZ : Blk ((w.alloc (.cells #[.int .i64 c, .slice A l.length ca] 25)).alloc (.cells #[.int .i64 c2, .slice B l2.length cb] 25)) (w.heap.size + 1) 25 #[.int .i64 c2, .slice B l2.length cb] := by
    have := Blk.new (w.alloc (.cells #[.int .i64 c, .slice A l.length ca] 25)) 25 #[.int .i64 c2, .slice B l2.length cb]
    simpa using this
  generalize hvv : ((w.alloc (.cells #[.int .i64 c, .slice A l.length ca] 25)).alloc (.cells #[.int .i64 c2, .slice B l2.length cb] 25)) = v1 at *
  clear hvv
  have HV := Lib.hid hv
  have TX := Lib.hid xTX
  have TZ := Lib.hid xTZ
  clear hv xTX xTZ
  have lTX := TX.out.lt
  have kTX0 := TX.out.cell 0
  have kTX1 := TX.out.cell 1
  have lTZ := TZ.out.lt
  have kTZ0 := TZ.out.cell 0
  have kTZ1 := TZ.out.cell 1
  simp only [List.getElem?_toArray, List.getElem?_cons_zero, List.getElem?_cons_succ] at kTX0 kTX1 kTZ0 kTZ1
  go_wp2_with fail
  refine (HE.out _ (HA.out.below HV.out) (HF.out.below HV.out)).mono ?_
  rintro e w1 ⟨⟨v, rfl, hob⟩, hb⟩
  clear lTX lTZ kTX0 kTX1 kTZ0 kTZ1
  have hv := HV.out.trans (hb.mono HV.out.size)
  have xTX := TX.out.below hb TX.out.lt
  have xTZ := TZ.out.below hb TZ.out.lt
  clear hb HV TX TZ
  have HV := Lib.hid hv
  have TX := Lib.hid xTX
  have TZ := Lib.hid xTZ
  clear hv xTX xTZ
  obtain ⟨p1, c1, rfl, m1, y1, _⟩ := OwnB.byS hob
  have HY1 := Lib.hid y1
  clear hob y1
  have lTX := TX.out.lt
  have kTX0 := TX.out.cell 0
  have kTX1 := TX.out.cell 1
  have lTZ := TZ.out.lt
  have kTZ0 := TZ.out.cell 0
  have kTZ1 := TZ.out.cell 1
  simp only [List.getElem?_toArray, List.getElem?_cons_zero, List.getElem?_cons_succ] at kTX0 kTX1 kTZ0 kTZ1
  go_wp2_with fail
  refine (HG.out _ (HB.out.below HV.out) (HF.out.below HV.out)).mono ?_
  rintro e w2 ⟨rfl, hb⟩
  clear lTX lTZ kTX0 kTX1 kTZ0 kTZ1
  have hv := HV.out.trans (hb.mono HV.out.size)
  have xTX := TX.out.below hb TX.out.lt
  have xTZ := TZ.out.below hb TZ.out.lt
  have yHY1 := HY1.out.below hb
  clear hb HV TX TZ
  have HV := Lib.hid hv
  have TX := Lib.hid xTX
  have TZ := Lib.hid xTZ
  clear hv xTX xTZ
  clear HY1
  have HY1 := Lib.hid yHY1
  clear yHY1
  have lTX := TX.out.lt
  have kTX0 := TX.out.cell 0
  have kTX1 := TX.out.cell 1
  have lTZ := TZ.out.lt
  have kTZ0 := TZ.out.cell 0
  have kTZ1 := TZ.out.cell 1
  simp only [List.getElem?_toArray, List.getElem?_cons_zero, List.getElem?_cons_succ] at kTX0 kTX1 kTZ0 kTZ1
  clear HE HG
  go_wp2_with fail
  clear lTX lTZ kTX0 kTX1 kTZ0 kTZ1
  have kTX0 := TX.out.cell 0
  have kTX1 := TX.out.cell 1
  have kTZ0 := TZ.out.cell 0
  have kTZ1 := TZ.out.cell 1
  simp only [List.getElem?_toArray, List.getElem?_cons_zero, List.getElem?_cons_succ] at kTX0 kTX1 kTZ0 kTZ1
  have rkTX0 := cell_regrown kTX0
  have rkTX1 := cell_regrown kTX1
  have rkTZ0 := cell_regrown kTZ0
  have rkTZ1 := cell_regrown kTZ1
  have cN : ∀ (n : Int) d os, Calls Tryd.prog 11 #[.int .i64 n] (grow (redrawn w2 d) os) fun e w'' => e = .returned (.int .i64 n) ∧ ∃ p : Regrown, w'' = grow (redrawn w2 p.d) p.os := fun n d os => Calls.regrown_of ((num5_any n _).mono fun _ _ ⟨he, hw⟩ => ⟨he, by rw [← hw]; exact Below.refl _ _⟩)
  clear kTX0 kTX1 kTZ0 kTZ1
  refine wp_region_quiet_below (by kernel_rfl) (by kernel_rfl) ?_
  try simp only [List.append_eq, List.cons_append, List.nil_append]
  repeat (go_big_quiet_step (first | (with_reducible exact cN _ _ _)))
  refine wpQuiet_nil ?_
  intro wq hwq
  obtain ⟨⟨dq, osq⟩, rfl⟩ := hwq
  have hb := below_regrown w2 dq osq
  have yHY1 := HY1.out.below hb
  have hv := HV.out.trans (hb.mono HV.out.size)
  have xTX := TX.out.below hb TX.out.lt
  have xTZ := TZ.out.below hb TZ.out.lt
  generalize grow (redrawn w2 dq) osq = w3 at *
  clear hb HV TX TZ rkTX0 rkTX1 rkTZ0 rkTZ1 cN
  have HV := Lib.hid hv
  have TX := Lib.hid xTX
  have TZ := Lib.hid xTZ
  clear hv xTX xTZ
  clear HY1
  have HY1 := Lib.hid yHY1
  clear yHY1
  have lTX := TX.out.lt
  have kTX0 := TX.out.cell 0
  have kTX1 := TX.out.cell 1
  have lTZ := TZ.out.lt
  have kTZ0 := TZ.out.cell 0
  have kTZ1 := TZ.out.cell 1
  simp only [List.getElem?_toArray, List.getElem?_cons_zero, List.getElem?_cons_succ] at kTX0 kTX1 kTZ0 kTZ1
  go_wp2_with fail
  refine (num5_any _ _).mono ?_
  rintro e wn4 ⟨rfl, rfl⟩
  go_wp2_with fail
  refine (HY0.out _ (HF.out.below HV.out)).mono ?_
  rintro e w5 ⟨rfl, hb⟩
  clear lTX lTZ kTX0 kTX1 kTZ0 kTZ1
  have hv := HV.out.trans (hb.mono HV.out.size)
  have xTX := TX.out.below hb TX.out.lt
  have xTZ := TZ.out.below hb TZ.out.lt
  have yHY1 := HY1.out.below hb
  clear hb HV TX TZ
  have HV := Lib.hid hv
  have TX := Lib.hid xTX
  have TZ := Lib.hid xTZ
  clear hv xTX xTZ
  clear HY1
  have HY1 := Lib.hid yHY1
  clear yHY1
  go_wp2_with fail
  go_ret
  exact ⟨rfl, HV.out⟩

set_option maxRecDepth 1000000 in
set_option maxHeartbeats 6400000 in
theorem law05_holds_badp0 (c : Int) (A : Option Addr) (ca : Nat) (l : List Ent) (ho : OkL l) (c2 : Int) (B : Option Addr) (cb : Nat) (l2 : List Ent) (ho2 : OkL l2) (k : Nat) (at_ wt : Int) (w0 : 0 ≤ wt) (w1 : wt < 256) (hl : l.length ≤ 40) (hl2 : l2.length ≤ 40) (h0 : encNo ⟨c, l⟩ = 0) (h2 : ¬ encNo ⟨c2, l2⟩ = 0) (hr2 : 0 ≤ encNo ⟨c2, l2⟩ ∧ encNo ⟨c2, l2⟩ ≤ 3) (ha : ¬ at_ < 0) (hb : ¬ 3 < at_) (hp : 0 < at_) (hat : at_.toNat = k) (hk4 : k < 4) (hk1 : 1 ≤ k) (hz : ¬ wt = 0) (w : World) (hA : EntS w A l) (hB : EntS w B l2) (hf : Fit3 w) :
    Calls Tryd.prog 7 #[datV c A l.length ca, datV c2 B l2.length cb, .int .i64 at_, .int .u8 wt] w fun e w' => e = .returned (.bool true) ∧ Below w.heap.size w w' := by
  have HF := Lib.hid hf
  have HA := Lib.hid hA
  have HB := Lib.hid hB
  have HO := Lib.hid ho
  have HO2 := Lib.hid ho2
  have HY0 : Hid (∀ W, Fit3 W → Calls Tryd.prog 8 #[] W fun e w' => e = .returned (.bool true) ∧ Below W.heap.size W w') := yes5
  clear hf hA hB ho ho2
  have nl : ¬ 40 < (l.length : Int) := by omega
  have nl2 : ¬ 40 < (l2.length : Int) := by omega
  have hE := fun W (h : EntS W A l) (hF : Fit3 W) => encode5_yes c A ca l (by omega) HO.out W h hF h0
  have hN := bytesD_len ⟨c, l⟩
  have h25 := (encNo_zero.1 h0).2.1
  dsimp only at hN h25
  have hG := fun W (h : EntS W B l2) (hF : Fit3 W) => encode5_no c2 B cb l2 (by omega) HO2.out W h hF h2
  obtain ⟨ob, hob, hov⟩ := headD h0 (k := k) hk4
  obtain ⟨x1, x2, x3⟩ := xor8_ne hov w0 w1 hz
  obtain ⟨s1, s2, s3⟩ := spoilD h0 (k := k) (by omega) hob x1 x2 x3
  have hxr : ∀ W : World, (binOp .xor 5 (.int .u8 ob) (.int .u8 wt)).run Tryd.prog W = .ok (.int .u8 (bits .xor .u8 ob wt)) W := fun W => by kernel_rfl
  obtain ⟨s4, s5⟩ := s2 (.inl (by omega))
  have hkz : ¬ chkNo ((bytesD ⟨c, l⟩).set k (bits .xor .u8 ob wt)) = 0 := by omega
  have hdec := fun q cc W (hy : ByS W q ((bytesD ⟨c, l⟩).set k (bits .xor .u8 ob wt))) (hc : ((bytesD ⟨c, l⟩).set k (bits .xor .u8 ob wt)).length ≤ cc) (hF : Fit3 W) => decode5_no q cc _ s1 (by rw [List.length_set]; omega) hc W hy hF hkz
  generalize chkNo ((bytesD ⟨c, l⟩).set k (bits .xor .u8 ob wt)) = no at *
  clear s1 s2 s3 x1 x2 x3 hov
  rw [List.length_set] at hdec
  have HDEC := Lib.hid hdec
  clear hdec
  have HOBB := Lib.hid hob
  clear hob
  clear hxr
  generalize hyy : bits .xor .u8 ob wt = y at *
  have hwz : (wt == 0) = false := by simpa using hz
  have HE := Lib.hid hE
  have HG := Lib.hid hG
  clear hE hG
  generalize bytesD ⟨c, l⟩ = bs at *
  have n4 : ¬ (bs.length : Int) < 4 := by omega
  have n5 : ¬ 504 < (bs.length : Int) := by omega
  have HN4 : Hid (4 ≤ bs.length ∧ bs.length ≤ 1000000) := Lib.hid (by omega)
  clear hN h25
  generalize encNo ⟨c2, l2⟩ = no2 at *
  have hn2 : 0 ≤ no2 ∧ no2 ≤ 3 := hr2
  clear hr2
  have hsw : IntKind.i64.wrap no2 = no2 := by rw [IntKind.wrap_i64]; omega
  have hzq : (no2 == 0) = false := by simpa using h2
  clear hn2
  go_enter Tryd.func7, Tryd.ntmps7
  go_wp2_with fail
  have hv := Below.refl w.heap.size w
  have hv := hv.alloc hv.size (.cells #[.int .i64 c, .slice A l.length ca] 25)
  have hv := hv.alloc hv.size (.cells #[.int .i64 c2, .slice B l2.length cb] 25)
  have xTX : Blk ((w.alloc (.cells #[.int .i64 c, .slice A l.length ca] 25)).alloc (.cells #[.int .i64 c2, .slice B l2.length cb] 25)) (w.heap.size) 25 #[.int .i64 c, .slice A l.length ca] := by
    have := (Blk.new w 25 #[.int .i64 c, .slice A l.length ca]).alloc (.cells #[.int .i64 c2, .slice B l2.length cb] 25)
    simpa using this
  have xTZ : Blk ((w.alloc (.cells #[.int .i64 c, .slice A l.length ca] 25)).alloc (.cells #[.int .i64 c2, .slice B l2.length cb] 25)) (w.heap.size + 1) 25 #[.int .i64 c2, .slice B l2.length cb] := by
    have := Blk.new (w.alloc (.cells #[.int .i64 c, .slice A l.length ca] 25)) 25 #[.int .i64 c2, .slice B l2.length cb]
    simpa using this
  generalize hvv : ((w.alloc (.cells #[.int .i64 c, .slice A l.length ca] 25)).alloc (.cells #[.int .i64 c2, .slice B l2.length cb] 25)) = v1 at *
  clear hvv
  have HV := Lib.hid hv
  have TX := Lib.hid xTX
  have TZ := Lib.hid xTZ
  clear hv xTX xTZ
  have lTX := TX.out.lt
  have kTX0 := TX.out.cell 0
  have kTX1 := TX.out.cell 1
  have lTZ := TZ.out.lt
  have kTZ0 := TZ.out.cell 0
  have kTZ1 := TZ.out.cell 1
  simp only [List.getElem?_toArray, List.getElem?_cons_zero, List.getElem?_cons_succ] at kTX0 kTX1 kTZ0 kTZ1
  go_wp2_with fail
  refine (HE.out _ (HA.out.below HV.out) (HF.out.below HV.out)).mono ?_
  rintro e w1 ⟨⟨v, rfl, hob⟩, hb⟩
  clear lTX lTZ kTX0 kTX1 kTZ0 kTZ1
  have hv := HV.out.trans (hb.mono HV.out.size)
  have xTX := TX.out.below hb TX.out.lt
  have xTZ := TZ.out.below hb TZ.out.lt
  clear hb HV TX TZ
  have HV := Lib.hid hv
  have TX := Lib.hid xTX
  have TZ := Lib.hid xTZ
  clear hv xTX xTZ
  obtain ⟨p1, c1, rfl, m1, y1, _⟩ := OwnB.byS hob
  have HY1 := Lib.hid y1
  clear hob y1
  have lTX := TX.out.lt
  have kTX0 := TX.out.cell 0
  have kTX1 := TX.out.cell 1
  have lTZ := TZ.out.lt
  have kTZ0 := TZ.out.cell 0
  have kTZ1 := TZ.out.cell 1
  simp only [List.getElem?_toArray, List.getElem?_cons_zero, List.getElem?_cons_succ] at kTX0 kTX1 kTZ0 kTZ1
  go_wp2_with fail
  refine (HG.out _ (HB.out.below HV.out) (HF.out.below HV.out)).mono ?_
  rintro e w2 ⟨rfl, hb⟩
  clear lTX lTZ kTX0 kTX1 kTZ0 kTZ1
  have hv := HV.out.trans (hb.mono HV.out.size)
  have xTX := TX.out.below hb TX.out.lt
  have xTZ := TZ.out.below hb TZ.out.lt
  have yHY1 := HY1.out.below hb
  clear hb HV TX TZ
  have HV := Lib.hid hv
  have TX := Lib.hid xTX
  have TZ := Lib.hid xTZ
  clear hv xTX xTZ
  clear HY1
  have HY1 := Lib.hid yHY1
  clear yHY1
  have lTX := TX.out.lt
  have kTX0 := TX.out.cell 0
  have kTX1 := TX.out.cell 1
  have lTZ := TZ.out.lt
  have kTZ0 := TZ.out.cell 0
  have kTZ1 := TZ.out.cell 1
  simp only [List.getElem?_toArray, List.getElem?_cons_zero, List.getElem?_cons_succ] at kTX0 kTX1 kTZ0 kTZ1
  clear HE HG
  go_wp2_with fail
  clear lTX lTZ kTX0 kTX1 kTZ0 kTZ1
  have kTX0 := TX.out.cell 0
  have kTX1 := TX.out.cell 1
  have kTZ0 := TZ.out.cell 0
  have kTZ1 := TZ.out.cell 1
  simp only [List.getElem?_toArray, List.getElem?_cons_zero, List.getElem?_cons_succ] at kTX0 kTX1 kTZ0 kTZ1
  have rkTX0 := cell_regrown kTX0
  have rkTX1 := cell_regrown kTX1
  have rkTZ0 := cell_regrown kTZ0
  have rkTZ1 := cell_regrown kTZ1
  have cN : ∀ (n : Int) d os, Calls Tryd.prog 11 #[.int .i64 n] (grow (redrawn w2 d) os) fun e w'' => e = .returned (.int .i64 n) ∧ ∃ p : Regrown, w'' = grow (redrawn w2 p.d) p.os := fun n d os => Calls.regrown_of ((num5_any n _).mono fun _ _ ⟨he, hw⟩ => ⟨he, by rw [← hw]; exact Below.refl _ _⟩)
  clear kTX0 kTX1 kTZ0 kTZ1
  refine wp_region_quiet_below (by kernel_rfl) (by kernel_rfl) ?_
  try simp only [List.append_eq, List.cons_append, List.nil_append]
  repeat (go_big_quiet_step (first | (with_reducible exact cN _ _ _)))
  refine wpQuiet_nil ?_
  intro wq hwq
  obtain ⟨⟨dq, osq⟩, rfl⟩ := hwq
  have hb := below_regrown w2 dq osq
  have yHY1 := HY1.out.below hb
  have hv := HV.out.trans (hb.mono HV.out.size)
  have xTX := TX.out.below hb TX.out.lt
  have xTZ := TZ.out.below hb TZ.out.lt
  generalize grow (redrawn w2 dq) osq = w3 at *
  clear hb HV TX TZ rkTX0 rkTX1 rkTZ0 rkTZ1 cN
  have HV := Lib.hid hv
  have TX := Lib.hid xTX
  have TZ := Lib.hid xTZ
  clear hv xTX xTZ
  clear HY1
  have HY1 := Lib.hid yHY1
  clear yHY1
  have lTX := TX.out.lt
  have kTX0 := TX.out.cell 0
  have kTX1 := TX.out.cell 1
  have lTZ := TZ.out.lt
  have kTZ0 := TZ.out.cell 0
  have kTZ1 := TZ.out.cell 1
  simp only [List.getElem?_toArray, List.getElem?_cons_zero, List.getElem?_cons_succ] at kTX0 kTX1 kTZ0 kTZ1
  go_wp2_with fail
  refine (num5_any _ _).mono ?_
  rintro e wn4 ⟨rfl, rfl⟩
  go_upto_region 11 with fail
  clear lTX lTZ kTX0 kTX1 kTZ0 kTZ1
  have HHE : Hid (OwnB w3.heap.size (w3.alloc (.cells #[] 5)) (.slice (some ⟨w3.heap.size, 0, none⟩) 0 0) []) := World.ownsRow_made w3 #[] 0 (Nat.le_refl _) (Nat.zero_le _) (by simp)
  have HHW : Hid (Below w3.heap.size w3 (w3.alloc (.cells #[] 5))) := (Below.refl _ _).alloc (Nat.le_refl _) _
  have HYA := Lib.hid (HY1.out.below HHW.out)
  have K1 : ([] : List Int).length + bs.length ≤ 1000000 := by have := HN4.out; simp; omega
  go_wp2_with (first | (at_builtin; refine wpList_app_bytes (v := .slice (some ⟨w3.heap.size, 0, none⟩) 0 0) (xs := []) (p := p1) (ys := bs) (c := c1) rfl _ _ rfl w3.heap.size rfl HHE.out rfl HYA.out K1 (by simp) ?_))
  intro v5 wa o5 g5 _
  have hba := own_below (by simp) HHW.out HHE.out g5
  have o5 : OwnB w3.heap.size wa v5 bs := o5
  obtain ⟨g, cap5, rfl⟩ := Joins.ownsRow_form o5 (by have := HN4.out; omega)
  have hcell : wa.cell? ⟨g, k, none⟩ = some (.int .u8 ob) := by
    rw [World.ownsRow.cellAt o5 k (by have := HN4.out; omega)]
    simp [List.getElem?_map, HOBB.out]
  have hfz : wa.frozen? ⟨g, k, none⟩ = false := World.ownsRow.frozenAt o5 k
  have hi1 : at_ < (bs.length : Int) := by have := HN4.out; omega
  have hi2 : k < bs.length := by have := HN4.out; omega
  have hi3 : 0 ≤ at_ := by omega
  have hos := (World.ownsRow.stored o5 k (.int .u8 y)).1
  rw [← List.map_set] at hos
  have hos : OwnB w3.heap.size (wa.setCell ⟨g, k, none⟩ (.int .u8 y)) (.slice (some ⟨g, 0, none⟩) bs.length cap5) (bs.set k y) := by unfold OwnB; rw [List.length_set]; exact hos
  have hbs := hba.setCell (p := ⟨g, k, none⟩) (World.ownsRow.lt o5 g rfl).1 (.int .u8 y)
  obtain ⟨q5, k5, hq5, m5, y5, _⟩ := OwnB.byS hos
  rw [List.length_set] at hq5 m5
  cases hq5
  have HY5 := Lib.hid y5
  have HM5 := Lib.hid m5
  have hv := HV.out.trans (hbs.mono HV.out.size)
  have xTX := TX.out.below hbs TX.out.lt
  have xTZ := TZ.out.below hbs TZ.out.lt
  clear HV HY1 HHE HHW HYA K1 o5 g5 hba hos hbs y5 m5 TX TZ
  have HV := Lib.hid hv
  have TX := Lib.hid xTX
  have TZ := Lib.hid xTZ
  clear hv xTX xTZ
  go_wp2_with fail
  clear hcell hfz hi1 hi2 hyy
  refine (HDEC.out _ _ _ HY5.out HM5.out (HF.out.below HV.out)).mono ?_
  rintro e w5 ⟨rfl, hb⟩
  have hv := HV.out.trans (hb.mono HV.out.size)
  have xTX := TX.out.below hb TX.out.lt
  have xTZ := TZ.out.below hb TZ.out.lt
  clear hb HV TX TZ
  have HV := Lib.hid hv
  have TX := Lib.hid xTX
  have TZ := Lib.hid xTZ
  clear hv xTX xTZ
  go_upto_region 14 with fail
  have hv := HV.out
  have hv := hv.alloc hv.size (.cells #[.int .i64 0, .slice none 0 0] 25)
  have xTX := (TX.out).alloc (.cells #[.int .i64 0, .slice none 0 0] 25)
  have xTZ := (TZ.out).alloc (.cells #[.int .i64 0, .slice none 0 0] 25)
  have xTY : Blk (w5.alloc (.cells #[.int .i64 0, .slice none 0 0] 25)) (w5.heap.size) 25 #[.int .i64 0, .slice none 0 0] := by
    have := Blk.new w5 25 #[.int .i64 0, .slice none 0 0]
    simpa using this
  generalize hvv : (w5.alloc (.cells #[.int .i64 0, .slice none 0 0] 25)) = v2 at *
  clear hvv
  generalize w5.heap.size = gTY at *
  clear HV TX TZ
  have HV := Lib.hid hv
  have TX := Lib.hid xTX
  have TZ := Lib.hid xTZ
  have TY := Lib.hid xTY
  clear hv xTX xTZ xTY
  go_wp2_with fail
  refine (num5_any _ _).mono ?_
  rintro e wn6 ⟨rfl, rfl⟩
  go_wp2_with fail
  refine (num5_any _ _).mono ?_
  rintro e wn7 ⟨rfl, rfl⟩
  go_wp2_with fail
  refine (HY0.out _ (HF.out.below HV.out)).mono ?_
  rintro e w8 ⟨rfl, hb⟩
  have hv := HV.out.trans (hb.mono HV.out.size)
  have xTX := TX.out.below hb TX.out.lt
  have xTZ := TZ.out.below hb TZ.out.lt
  have xTY := TY.out.below hb TY.out.lt
  clear hb HV TX TZ TY
  have HV := Lib.hid hv
  have TX := Lib.hid xTX
  have TZ := Lib.hid xTZ
  have TY := Lib.hid xTY
  clear hv xTX xTZ xTY
  go_wp2_with fail
  go_ret
  exact ⟨rfl, HV.out⟩

set_option maxRecDepth 1000000 in
set_option maxHeartbeats 6400000 in
theorem law05_holds_bad00 (c : Int) (A : Option Addr) (ca : Nat) (l : List Ent) (ho : OkL l) (c2 : Int) (B : Option Addr) (cb : Nat) (l2 : List Ent) (ho2 : OkL l2) (wt : Int) (w0 : 0 ≤ wt) (w1 : wt < 256) (hl : l.length ≤ 40) (hl2 : l2.length ≤ 40) (h0 : encNo ⟨c, l⟩ = 0) (h2 : ¬ encNo ⟨c2, l2⟩ = 0) (hr2 : 0 ≤ encNo ⟨c2, l2⟩ ∧ encNo ⟨c2, l2⟩ ≤ 3) (hz : ¬ wt = 0) (hcom : ¬ comD (bits .xor .u8 c wt)) (w : World) (hA : EntS w A l) (hB : EntS w B l2) (hf : Fit3 w) :
    Calls Tryd.prog 7 #[datV c A l.length ca, datV c2 B l2.length cb, .int .i64 0, .int .u8 wt] w fun e w' => e = .returned (.bool true) ∧ Below w.heap.size w w' := by
  have HF := Lib.hid hf
  have HA := Lib.hid hA
  have HB := Lib.hid hB
  have HO := Lib.hid ho
  have HO2 := Lib.hid ho2
  have HY0 : Hid (∀ W, Fit3 W → Calls Tryd.prog 8 #[] W fun e w' => e = .returned (.bool true) ∧ Below W.heap.size W w') := yes5
  clear hf hA hB ho ho2
  have nl : ¬ 40 < (l.length : Int) := by omega
  have nl2 : ¬ 40 < (l2.length : Int) := by omega
  have hE := fun W (h : EntS W A l) (hF : Fit3 W) => encode5_yes c A ca l (by omega) HO.out W h hF h0
  have hN := bytesD_len ⟨c, l⟩
  have h25 := (encNo_zero.1 h0).2.1
  dsimp only at hN h25
  have hG := fun W (h : EntS W B l2) (hF : Fit3 W) => encode5_no c2 B cb l2 (by omega) HO2.out W h hF h2
  have hob : (bytesD ⟨c, l⟩)[0]? = some c := rfl
  have hov : c = 0 ∨ c = 1 ∨ c = 2 := .inr (encNo_zero.1 h0).1
  obtain ⟨x1, x2, x3⟩ := xor8_ne hov w0 w1 hz
  obtain ⟨s1, s2, s3⟩ := spoilD h0 (k := 0) (by omega) hob x1 x2 x3
  have hxr : ∀ W : World, (binOp .xor 5 (.int .u8 c) (.int .u8 wt)).run Tryd.prog W = .ok (.int .u8 (bits .xor .u8 c wt)) W := fun W => by kernel_rfl
  obtain ⟨s4, s5⟩ := s2 (.inr hcom)
  have hkz : ¬ chkNo ((bytesD ⟨c, l⟩).set 0 (bits .xor .u8 c wt)) = 0 := by omega
  have hdec := fun q cc W (hy : ByS W q ((bytesD ⟨c, l⟩).set 0 (bits .xor .u8 c wt))) (hc : ((bytesD ⟨c, l⟩).set 0 (bits .xor .u8 c wt)).length ≤ cc) (hF : Fit3 W) => decode5_no q cc _ s1 (by rw [List.length_set]; omega) hc W hy hF hkz
  generalize chkNo ((bytesD ⟨c, l⟩).set 0 (bits .xor .u8 c wt)) = no at *
  clear s1 s2 s3 x1 x2 x3 hov
  rw [List.length_set] at hdec
  have HDEC := Lib.hid hdec
  clear hdec
  have HOBB := Lib.hid hob
  clear hob
  clear hxr
  generalize hyy : bits .xor .u8 c wt = y at *
  have hwz : (wt == 0) = false := by simpa using hz
  have HE := Lib.hid hE
  have HG := Lib.hid hG
  clear hE hG
  generalize bytesD ⟨c, l⟩ = bs at *
  have n4 : ¬ (bs.length : Int) < 4 := by omega
  have n5 : ¬ 504 < (bs.length : Int) := by omega
  have HN4 : Hid (4 ≤ bs.length ∧ bs.length ≤ 1000000) := Lib.hid (by omega)
  clear hN h25
  generalize encNo ⟨c2, l2⟩ = no2 at *
  have hn2 : 0 ≤ no2 ∧ no2 ≤ 3 := hr2
  clear hr2
  have hsw : IntKind.i64.wrap no2 = no2 := by rw [IntKind.wrap_i64]; omega
  have hzq : (no2 == 0) = false := by simpa using h2
  clear hn2
  go_enter Tryd.func7, Tryd.ntmps7
  go_wp2_with fail
  have hv := Below.refl w.heap.size w
  have hv := hv.alloc hv.size (.cells #[.int .i64 c, .slice A l.length ca] 25)
  have hv := hv.alloc hv.size (.cells #[.int .i64 c2, .slice B l2.length cb] 25)
  have xTX : Blk ((w.alloc (.cells #[.int .i64 c, .slice A l.length ca] 25)).alloc (.cells #[.int .i64 c2, .slice B l2.length cb] 25)) (w.heap.size) 25 #[.int .i64 c, .slice A l.length ca] := by
    have := (Blk.new w 25 #[.int .i64 c, .slice A l.length ca]).alloc (.cells #[.int .i64 c2, .slice B l2.length cb] 25)
    simpa using this
  have xTZ : Blk ((w.alloc (.cells #[.int .i64 c, .slice A l.length ca] 25)).alloc (.cells #[.int .i64 c2, .slice B l2.length cb] 25)) (w.heap.size + 1) 25 #[.int .i64 c2, .slice B l2.length cb] := by
    have := Blk.new (w.alloc (.cells #[.int .i64 c, .slice A l.length ca] 25)) 25 #[.int .i64 c2, .slice B l2.length cb]
    simpa using this
  generalize hvv : ((w.alloc (.cells #[.int .i64 c, .slice A l.length ca] 25)).alloc (.cells #[.int .i64 c2, .slice B l2.length cb] 25)) = v1 at *
  clear hvv
  have HV := Lib.hid hv
  have TX := Lib.hid xTX
  have TZ := Lib.hid xTZ
  clear hv xTX xTZ
  have lTX := TX.out.lt
  have kTX0 := TX.out.cell 0
  have kTX1 := TX.out.cell 1
  have lTZ := TZ.out.lt
  have kTZ0 := TZ.out.cell 0
  have kTZ1 := TZ.out.cell 1
  simp only [List.getElem?_toArray, List.getElem?_cons_zero, List.getElem?_cons_succ] at kTX0 kTX1 kTZ0 kTZ1
  go_wp2_with fail
  refine (HE.out _ (HA.out.below HV.out) (HF.out.below HV.out)).mono ?_
  rintro e w1 ⟨⟨v, rfl, hob⟩, hb⟩
  clear lTX lTZ kTX0 kTX1 kTZ0 kTZ1
  have hv := HV.out.trans (hb.mono HV.out.size)
  have xTX := TX.out.below hb TX.out.lt
  have xTZ := TZ.out.below hb TZ.out.lt
  clear hb HV TX TZ
  have HV := Lib.hid hv
  have TX := Lib.hid xTX
  have TZ := Lib.hid xTZ
  clear hv xTX xTZ
  obtain ⟨p1, c1, rfl, m1, y1, _⟩ := OwnB.byS hob
  have HY1 := Lib.hid y1
  clear hob y1
  have lTX := TX.out.lt
  have kTX0 := TX.out.cell 0
  have kTX1 := TX.out.cell 1
  have lTZ := TZ.out.lt
  have kTZ0 := TZ.out.cell 0
  have kTZ1 := TZ.out.cell 1
  simp only [List.getElem?_toArray, List.getElem?_cons_zero, List.getElem?_cons_succ] at kTX0 kTX1 kTZ0 kTZ1
  go_wp2_with fail
  refine (HG.out _ (HB.out.below HV.out) (HF.out.below HV.out)).mono ?_
  rintro e w2 ⟨rfl, hb⟩
  clear lTX lTZ kTX0 kTX1 kTZ0 kTZ1
  have hv := HV.out.trans (hb.mono HV.out.size)
  have xTX := TX.out.below hb TX.out.lt
  have xTZ := TZ.out.below hb TZ.out.lt
  have yHY1 := HY1.out.below hb
  clear hb HV TX TZ
  have HV := Lib.hid hv
  have TX := Lib.hid xTX
  have TZ := Lib.hid xTZ
  clear hv xTX xTZ
  clear HY1
  have HY1 := Lib.hid yHY1
  clear yHY1
  have lTX := TX.out.lt
  have kTX0 := TX.out.cell 0
  have kTX1 := TX.out.cell 1
  have lTZ := TZ.out.lt
  have kTZ0 := TZ.out.cell 0
  have kTZ1 := TZ.out.cell 1
  simp only [List.getElem?_toArray, List.getElem?_cons_zero, List.getElem?_cons_succ] at kTX0 kTX1 kTZ0 kTZ1
  clear HE HG
  go_wp2_with fail
  clear lTX lTZ kTX0 kTX1 kTZ0 kTZ1
  have kTX0 := TX.out.cell 0
  have kTX1 := TX.out.cell 1
  have kTZ0 := TZ.out.cell 0
  have kTZ1 := TZ.out.cell 1
  simp only [List.getElem?_toArray, List.getElem?_cons_zero, List.getElem?_cons_succ] at kTX0 kTX1 kTZ0 kTZ1
  have rkTX0 := cell_regrown kTX0
  have rkTX1 := cell_regrown kTX1
  have rkTZ0 := cell_regrown kTZ0
  have rkTZ1 := cell_regrown kTZ1
  have cN : ∀ (n : Int) d os, Calls Tryd.prog 11 #[.int .i64 n] (grow (redrawn w2 d) os) fun e w'' => e = .returned (.int .i64 n) ∧ ∃ p : Regrown, w'' = grow (redrawn w2 p.d) p.os := fun n d os => Calls.regrown_of ((num5_any n _).mono fun _ _ ⟨he, hw⟩ => ⟨he, by rw [← hw]; exact Below.refl _ _⟩)
  clear kTX0 kTX1 kTZ0 kTZ1
  refine wp_region_quiet_below (by kernel_rfl) (by kernel_rfl) ?_
  try simp only [List.append_eq, List.cons_append, List.nil_append]
  repeat (go_big_quiet_step (first | (with_reducible exact cN _ _ _)))
  refine wpQuiet_nil ?_
  intro wq hwq
  obtain ⟨⟨dq, osq⟩, rfl⟩ := hwq
  have hb := below_regrown w2 dq osq
  have yHY1 := HY1.out.below hb
  have hv := HV.out.trans (hb.mono HV.out.size)
  have xTX := TX.out.below hb TX.out.lt
  have xTZ := TZ.out.below hb TZ.out.lt
  generalize grow (redrawn w2 dq) osq = w3 at *
  clear hb HV TX TZ rkTX0 rkTX1 rkTZ0 rkTZ1 cN
  have HV := Lib.hid hv
  have TX := Lib.hid xTX
  have TZ := Lib.hid xTZ
  clear hv xTX xTZ
  clear HY1
  have HY1 := Lib.hid yHY1
  clear yHY1
  have lTX := TX.out.lt
  have kTX0 := TX.out.cell 0
  have kTX1 := TX.out.cell 1
  have lTZ := TZ.out.lt
  have kTZ0 := TZ.out.cell 0
  have kTZ1 := TZ.out.cell 1
  simp only [List.getElem?_toArray, List.getElem?_cons_zero, List.getElem?_cons_succ] at kTX0 kTX1 kTZ0 kTZ1
  go_wp2_with fail
  refine (num5_any _ _).mono ?_
  rintro e wn4 ⟨rfl, rfl⟩
  go_upto_region 11 with fail
  clear lTX lTZ kTX0 kTX1 kTZ0 kTZ1
  have HHE : Hid (OwnB w3.heap.size (w3.alloc (.cells #[] 5)) (.slice (some ⟨w3.heap.size, 0, none⟩) 0 0) []) := World.ownsRow_made w3 #[] 0 (Nat.le_refl _) (Nat.zero_le _) (by simp)
  have HHW : Hid (Below w3.heap.size w3 (w3.alloc (.cells #[] 5))) := (Below.refl _ _).alloc (Nat.le_refl _) _
  have HYA := Lib.hid (HY1.out.below HHW.out)
  have K1 : ([] : List Int).length + bs.length ≤ 1000000 := by have := HN4.out; simp; omega
  go_wp2_with (first | (at_builtin; refine wpList_app_bytes (v := .slice (some ⟨w3.heap.size, 0, none⟩) 0 0) (xs := []) (p := p1) (ys := bs) (c := c1) rfl _ _ rfl w3.heap.size rfl HHE.out rfl HYA.out K1 (by simp) ?_))
  intro v5 wa o5 g5 _
  have hba := own_below (by simp) HHW.out HHE.out g5
  have o5 : OwnB w3.heap.size wa v5 bs := o5
  obtain ⟨g, cap5, rfl⟩ := Joins.ownsRow_form o5 (by have := HN4.out; omega)
  have hcell : wa.cell? ⟨g, 0, none⟩ = some (.int .u8 c) := by
    rw [World.ownsRow.cellAt o5 0 (by have := HN4.out; omega)]
    simp [List.getElem?_map, HOBB.out]
  have hfz : wa.frozen? ⟨g, 0, none⟩ = false := World.ownsRow.frozenAt o5 0
  have hi1 : 0 < (bs.length : Int) := by have := HN4.out; omega
  have hi2 : 0 < bs.length := by have := HN4.out; omega
  have hos := (World.ownsRow.stored o5 0 (.int .u8 y)).1
  rw [← List.map_set] at hos
  have hos : OwnB w3.heap.size (wa.setCell ⟨g, 0, none⟩ (.int .u8 y)) (.slice (some ⟨g, 0, none⟩) bs.length cap5) (bs.set 0 y) := by unfold OwnB; rw [List.length_set]; exact hos
  have hbs := hba.setCell (p := ⟨g, 0, none⟩) (World.ownsRow.lt o5 g rfl).1 (.int .u8 y)
  obtain ⟨q5, k5, hq5, m5, y5, _⟩ := OwnB.byS hos
  rw [List.length_set] at hq5 m5
  cases hq5
  have HY5 := Lib.hid y5
  have HM5 := Lib.hid m5
  have hv := HV.out.trans (hbs.mono HV.out.size)
  have xTX := TX.out.below hbs TX.out.lt
  have xTZ := TZ.out.below hbs TZ.out.lt
  clear HV HY1 HHE HHW HYA K1 o5 g5 hba hos hbs y5 m5 TX TZ
  have HV := Lib.hid hv
  have TX := Lib.hid xTX
  have TZ := Lib.hid xTZ
  clear hv xTX xTZ
  go_wp2_with fail
  clear hcell hfz hi1 hi2 hyy
  refine (HDEC.out _ _ _ HY5.out HM5.out (HF.out.below HV.out)).mono ?_
  rintro e w5 ⟨rfl, hb⟩
  have hv := HV.out.trans (hb.mono HV.out.size)
  have xTX := TX.out.below hb TX.out.lt
  have xTZ := TZ.out.below hb TZ.out.lt
  clear hb HV TX TZ
  have HV := Lib.hid hv
  have TX := Lib.hid xTX
  have TZ := Lib.hid xTZ
  clear hv xTX xTZ
  go_upto_region 14 with fail
  have hv := HV.out
  have hv := hv.alloc hv.size (.cells #[.int .i64 0, .slice none 0 0] 25)
  have xTX := (TX.out).alloc (.cells #[.int .i64 0, .slice none 0 0] 25)
  have xTZ := (TZ.out).alloc (.cells #[.int .i64 0, .slice none 0 0] 25)
  have xTY : Blk (w5.alloc (.cells #[.int .i64 0, .slice none 0 0] 25)) (w5.heap.size) 25 #[.int .i64 0, .slice none 0 0] := by
    have := Blk.new w5 25 #[.int .i64 0, .slice none 0 0]
    simpa using this
  generalize hvv : (w5.alloc (.cells #[.int .i64 0, .slice none 0 0] 25)) = v2 at *
  clear hvv
  generalize w5.heap.size = gTY at *
  clear HV TX TZ
  have HV := Lib.hid hv
  have TX := Lib.hid xTX
  have TZ := Lib.hid xTZ
  have TY := Lib.hid xTY
  clear hv xTX xTZ xTY
  go_wp2_with fail
  refine (num5_any _ _).mono ?_
  rintro e wn6 ⟨rfl, rfl⟩
  go_wp2_with fail
  refine (num5_any _ _).mono ?_
  rintro e wn7 ⟨rfl, rfl⟩
  go_wp2_with fail
  refine (num5_any _ _).mono ?_
  rintro e wn8 ⟨rfl, rfl⟩
  go_wp2_with fail
  refine (HY0.out _ (HF.out.below HV.out)).mono ?_
  rintro e w9 ⟨rfl, hb⟩
  have hv := HV.out.trans (hb.mono HV.out.size)
  have xTX := TX.out.below hb TX.out.lt
  have xTZ := TZ.out.below hb TZ.out.lt
  have xTY := TY.out.below hb TY.out.lt
  clear hb HV TX TZ TY
  have HV := Lib.hid hv
  have TX := Lib.hid xTX
  have TZ := Lib.hid xTZ
  have TY := Lib.hid xTY
  clear hv xTX xTZ xTY
  go_wp2_with fail
  go_ret
  exact ⟨rfl, HV.out⟩

set_option maxRecDepth 1000000 in
set_option maxHeartbeats 6400000 in
theorem law05_holds_good0 (c : Int) (A : Option Addr) (ca : Nat) (l : List Ent) (ho : OkL l) (c2 : Int) (B : Option Addr) (cb : Nat) (l2 : List Ent) (ho2 : OkL l2) (wt : Int) (w0 : 0 ≤ wt) (w1 : wt < 256) (hl : l.length ≤ 40) (hl2 : l2.length ≤ 40) (h0 : encNo ⟨c, l⟩ = 0) (h2 : ¬ encNo ⟨c2, l2⟩ = 0) (hr2 : 0 ≤ encNo ⟨c2, l2⟩ ∧ encNo ⟨c2, l2⟩ ≤ 3) (hz : ¬ wt = 0) (hcom : comD (bits .xor .u8 c wt)) (w : World) (hA : EntS w A l) (hB : EntS w B l2) (hf : Fit3 w) :
    Calls Tryd.prog 7 #[datV c A l.length ca, datV c2 B l2.length cb, .int .i64 0, .int .u8 wt] w fun e w' => e = .returned (.bool true) ∧ Below w.heap.size w w' := by
  have HF := Lib.hid hf
  have HA := Lib.hid hA
  have HB := Lib.hid hB
  have HO := Lib.hid ho
  have HO2 := Lib.hid ho2
  have HY0 : Hid (∀ W, Fit3 W → Calls Tryd.prog 8 #[] W fun e w' => e = .returned (.bool true) ∧ Below W.heap.size W w') := yes5
  clear hf hA hB ho ho2
  have nl : ¬ 40 < (l.length : Int) := by omega
  have nl2 : ¬ 40 < (l2.length : Int) := by omega
  have hE := fun W (h : EntS W A l) (hF : Fit3 W) => encode5_yes c A ca l (by omega) HO.out W h hF h0
  have hN := bytesD_len ⟨c, l⟩
  have h25 := (encNo_zero.1 h0).2.1
  dsimp only at hN h25
  have hG := fun W (h : EntS W B l2) (hF : Fit3 W) => encode5_no c2 B cb l2 (by omega) HO2.out W h hF h2
  have hob : (bytesD ⟨c, l⟩)[0]? = some c := rfl
  have hov : c = 0 ∨ c = 1 ∨ c = 2 := .inr (encNo_zero.1 h0).1
  obtain ⟨x1, x2, x3⟩ := xor8_ne hov w0 w1 hz
  obtain ⟨s1, s2, s3⟩ := spoilD h0 (k := 0) (by omega) hob x1 x2 x3
  have hxr : ∀ W : World, (binOp .xor 5 (.int .u8 c) (.int .u8 wt)).run Tryd.prog W = .ok (.int .u8 (bits .xor .u8 c wt)) W := fun W => by kernel_rfl
  obtain ⟨s4, s5⟩ := s3 rfl hcom
  have hdec := fun q cc W (hy : ByS W q (bytesD ⟨bits .xor .u8 c wt, l⟩)) (hc : (bytesD ⟨bits .xor .u8 c wt, l⟩).length ≤ cc) (hF : Fit3 W) => decBack (bits .xor .u8 c wt) l s4 HO.out q cc W hy hc hF
  rw [← s5] at hdec
  have hsm := fun A3 k3 W (h1 : EntS W A3 l) (h2 : EntS W A l) => refSame4_any A3 A k3 ca l l (by omega) (by omega) W h1 h2
  simp only [decide_true] at hsm
  have HSM := Lib.hid hsm
  clear hsm
  have hxc : (bits .xor .u8 c wt != c) = true := by simpa using x1
  clear s1 s2 s3 s4 s5 hov x2 x3
  rw [List.length_set] at hdec
  have HDEC := Lib.hid hdec
  clear hdec
  have HOBB := Lib.hid hob
  clear hob
  clear hxr
  generalize hyy : bits .xor .u8 c wt = y at *
  have hwz : (wt == 0) = false := by simpa using hz
  have HE := Lib.hid hE
  have HG := Lib.hid hG
  clear hE hG
  generalize bytesD ⟨c, l⟩ = bs at *
  have n4 : ¬ (bs.length : Int) < 4 := by omega
  have n5 : ¬ 504 < (bs.length : Int) := by omega
  have HN4 : Hid (4 ≤ bs.length ∧ bs.length ≤ 1000000) := Lib.hid (by omega)
  clear hN h25
  generalize encNo ⟨c2, l2⟩ = no2 at *
  have hn2 : 0 ≤ no2 ∧ no2 ≤ 3 := hr2
  clear hr2
  have hsw : IntKind.i64.wrap no2 = no2 := by rw [IntKind.wrap_i64]; omega
  have hzq : (no2 == 0) = false := by simpa using h2
  clear hn2
  go_enter Tryd.func7, Tryd.ntmps7
  go_wp2_with fail
  have hv := Below.refl w.heap.size w
  have hv := hv.alloc hv.size (.cells #[.int .i64 c, .slice A l.length ca] 25)
  have hv := hv.alloc hv.size (.cells #[.int .i64 c2, .slice B l2.length cb] 25)
  have xTX : Blk ((w.alloc (.cells #[.int .i64 c, .slice A l.length ca] 25)).alloc (.cells #[.int .i64 c2, .slice B l2.length cb] 25)) (w.heap.size) 25 #[.int .i64 c, .slice A l.length ca] := by
    have := (Blk.new w 25 #[.int .i64 c, .slice A l.length ca]).alloc (.cells #[.int .i64 c2, .slice B l2.length cb] 25)
    simpa using this
  have xTZ : Blk ((w.alloc (.cells #[.int .i64 c, .slice A l.length ca] 25)).alloc (.cells #[.int .i64 c2, .slice B l2.length cb] 25)) (w.heap.size + 1) 25 #[.int .i64 c2, .slice B l2.length cb] := by
    have := Blk.new (w.alloc (.cells #[.int .i64 c, .slice A l.length ca] 25)) 25 #[.int .i64 c2, .slice B l2.length cb]
    simpa using this
  generalize hvv : ((w.alloc (.cells #[.int .i64 c, .slice A l.length ca] 25)).alloc (.cells #[.int .i64 c2, .slice B l2.length cb] 25)) = v1 at *
  clear hvv
  have HV := Lib.hid hv
  have TX := Lib.hid xTX
  have TZ := Lib.hid xTZ
  clear hv xTX xTZ
  have lTX := TX.out.lt
  have kTX0 := TX.out.cell 0
  have kTX1 := TX.out.cell 1
  have lTZ := TZ.out.lt
  have kTZ0 := TZ.out.cell 0
  have kTZ1 := TZ.out.cell 1
  simp only [List.getElem?_toArray, List.getElem?_cons_zero, List.getElem?_cons_succ] at kTX0 kTX1 kTZ0 kTZ1
  go_wp2_with fail
  refine (HE.out _ (HA.out.below HV.out) (HF.out.below HV.out)).mono ?_
  rintro e w1 ⟨⟨v, rfl, hob⟩, hb⟩
  clear lTX lTZ kTX0 kTX1 kTZ0 kTZ1
  have hv := HV.out.trans (hb.mono HV.out.size)
  have xTX := TX.out.below hb TX.out.lt
  have xTZ := TZ.out.below hb TZ.out.lt
  clear hb HV TX TZ
  have HV := Lib.hid hv
  have TX := Lib.hid xTX
  have TZ := Lib.hid xTZ
  clear hv xTX xTZ
  obtain ⟨p1, c1, rfl, m1, y1, _⟩ := OwnB.byS hob
  have HY1 := Lib.hid y1
  clear hob y1
  have lTX := TX.out.lt
  have kTX0 := TX.out.cell 0
  have kTX1 := TX.out.cell 1
  have lTZ := TZ.out.lt
  have kTZ0 := TZ.out.cell 0
  have kTZ1 := TZ.out.cell 1
  simp only [List.getElem?_toArray, List.getElem?_cons_zero, List.getElem?_cons_succ] at kTX0 kTX1 kTZ0 kTZ1
  go_wp2_with fail
  refine (HG.out _ (HB.out.below HV.out) (HF.out.below HV.out)).mono ?_
  rintro e w2 ⟨rfl, hb⟩
  clear lTX lTZ kTX0 kTX1 kTZ0 kTZ1
  have hv := HV.out.trans (hb.mono HV.out.size)
  have xTX := TX.out.below hb TX.out.lt
  have xTZ := TZ.out.below hb TZ.out.lt
  have yHY1 := HY1.out.below hb
  clear hb HV TX TZ
  have HV := Lib.hid hv
  have TX := Lib.hid xTX
  have TZ := Lib.hid xTZ
  clear hv xTX xTZ
  clear HY1
  have HY1 := Lib.hid yHY1
  clear yHY1
  have lTX := TX.out.lt
  have kTX0 := TX.out.cell 0
  have kTX1 := TX.out.cell 1
  have lTZ := TZ.out.lt
  have kTZ0 := TZ.out.cell 0
  have kTZ1 := TZ.out.cell 1
  simp only [List.getElem?_toArray, List.getElem?_cons_zero, List.getElem?_cons_succ] at kTX0 kTX1 kTZ0 kTZ1
  clear HE HG
  go_wp2_with fail
  clear lTX lTZ kTX0 kTX1 kTZ0 kTZ1
  have kTX0 := TX.out.cell 0
  have kTX1 := TX.out.cell 1
  have kTZ0 := TZ.out.cell 0
  have kTZ1 := TZ.out.cell 1
  simp only [List.getElem?_toArray, List.getElem?_cons_zero, List.getElem?_cons_succ] at kTX0 kTX1 kTZ0 kTZ1
  have rkTX0 := cell_regrown kTX0
  have rkTX1 := cell_regrown kTX1
  have rkTZ0 := cell_regrown kTZ0
  have rkTZ1 := cell_regrown kTZ1
  have cN : ∀ (n : Int) d os, Calls Tryd.prog 11 #[.int .i64 n] (grow (redrawn w2 d) os) fun e w'' => e = .returned (.int .i64 n) ∧ ∃ p : Regrown, w'' = grow (redrawn w2 p.d) p.os := fun n d os => Calls.regrown_of ((num5_any n _).mono fun _ _ ⟨he, hw⟩ => ⟨he, by rw [← hw]; exact Below.refl _ _⟩)
  clear kTX0 kTX1 kTZ0 kTZ1
  refine wp_region_quiet_below (by kernel_rfl) (by kernel_rfl) ?_
  try simp only [List.append_eq, List.cons_append, List.nil_append]
  repeat (go_big_quiet_step (first | (with_reducible exact cN _ _ _)))
  refine wpQuiet_nil ?_
  intro wq hwq
  obtain ⟨⟨dq, osq⟩, rfl⟩ := hwq
  have hb := below_regrown w2 dq osq
  have yHY1 := HY1.out.below hb
  have hv := HV.out.trans (hb.mono HV.out.size)
  have xTX := TX.out.below hb TX.out.lt
  have xTZ := TZ.out.below hb TZ.out.lt
  generalize grow (redrawn w2 dq) osq = w3 at *
  clear hb HV TX TZ rkTX0 rkTX1 rkTZ0 rkTZ1 cN
  have HV := Lib.hid hv
  have TX := Lib.hid xTX
  have TZ := Lib.hid xTZ
  clear hv xTX xTZ
  clear HY1
  have HY1 := Lib.hid yHY1
  clear yHY1
  have lTX := TX.out.lt
  have kTX0 := TX.out.cell 0
  have kTX1 := TX.out.cell 1
  have lTZ := TZ.out.lt
  have kTZ0 := TZ.out.cell 0
  have kTZ1 := TZ.out.cell 1
  simp only [List.getElem?_toArray, List.getElem?_cons_zero, List.getElem?_cons_succ] at kTX0 kTX1 kTZ0 kTZ1
  go_wp2_with fail
  refine (num5_any _ _).mono ?_
  rintro e wn4 ⟨rfl, rfl⟩
  go_upto_region 11 with fail
  clear lTX lTZ kTX0 kTX1 kTZ0 kTZ1
  have HHE : Hid (OwnB w3.heap.size (w3.alloc (.cells #[] 5)) (.slice (some ⟨w3.heap.size, 0, none⟩) 0 0) []) := World.ownsRow_made w3 #[] 0 (Nat.le_refl _) (Nat.zero_le _) (by simp)
  have HHW : Hid (Below w3.heap.size w3 (w3.alloc (.cells #[] 5))) := (Below.refl _ _).alloc (Nat.le_refl _) _
  have HYA := Lib.hid (HY1.out.below HHW.out)
  have K1 : ([] : List Int).length + bs.length ≤ 1000000 := by have := HN4.out; simp; omega
  go_wp2_with (first | (at_builtin; refine wpList_app_bytes (v := .slice (some ⟨w3.heap.size, 0, none⟩) 0 0) (xs := []) (p := p1) (ys := bs) (c := c1) rfl _ _ rfl w3.heap.size rfl HHE.out rfl HYA.out K1 (by simp) ?_))
  intro v5 wa o5 g5 _
  have hba := own_below (by simp) HHW.out HHE.out g5
  have o5 : OwnB w3.heap.size wa v5 bs := o5
  obtain ⟨g, cap5, rfl⟩ := Joins.ownsRow_form o5 (by have := HN4.out; omega)
  have hcell : wa.cell? ⟨g, 0, none⟩ = some (.int .u8 c) := by
    rw [World.ownsRow.cellAt o5 0 (by have := HN4.out; omega)]
    simp [List.getElem?_map, HOBB.out]
  have hfz : wa.frozen? ⟨g, 0, none⟩ = false := World.ownsRow.frozenAt o5 0
  have hi1 : 0 < (bs.length : Int) := by have := HN4.out; omega
  have hi2 : 0 < bs.length := by have := HN4.out; omega
  have hos := (World.ownsRow.stored o5 0 (.int .u8 y)).1
  rw [← List.map_set] at hos
  have hos : OwnB w3.heap.size (wa.setCell ⟨g, 0, none⟩ (.int .u8 y)) (.slice (some ⟨g, 0, none⟩) bs.length cap5) (bs.set 0 y) := by unfold OwnB; rw [List.length_set]; exact hos
  have hbs := hba.setCell (p := ⟨g, 0, none⟩) (World.ownsRow.lt o5 g rfl).1 (.int .u8 y)
  obtain ⟨q5, k5, hq5, m5, y5, _⟩ := OwnB.byS hos
  rw [List.length_set] at hq5 m5
  cases hq5
  have HY5 := Lib.hid y5
  have HM5 := Lib.hid m5
  have hv := HV.out.trans (hbs.mono HV.out.size)
  have xTX := TX.out.below hbs TX.out.lt
  have xTZ := TZ.out.below hbs TZ.out.lt
  clear HV HY1 HHE HHW HYA K1 o5 g5 hba hos hbs y5 m5 TX TZ
  have HV := Lib.hid hv
  have TX := Lib.hid xTX
  have TZ := Lib.hid xTZ
  clear hv xTX xTZ
  go_wp2_with fail
  clear hcell hfz hi1 hi2 hyy
  refine (HDEC.out _ _ _ HY5.out HM5.out (HF.out.below HV.out)).mono ?_
  rintro e w5 ⟨⟨A3, k3, rfl, hE3⟩, hb⟩
  have hv := HV.out.trans (hb.mono HV.out.size)
  have xTX := TX.out.below hb TX.out.lt
  have xTZ := TZ.out.below hb TZ.out.lt
  clear hb HV TX TZ
  have HV := Lib.hid hv
  have TX := Lib.hid xTX
  have TZ := Lib.hid xTZ
  clear hv xTX xTZ
  have HE3 := Lib.hid hE3
  clear hE3
  go_upto_region 14 with fail
  have hbx := (Below.refl w5.heap.size w5).alloc (Nat.le_refl _) (.cells #[.int .i64 y, .slice A3 l.length k3] 25)
  have yHE3 := HE3.out.below hbx
  clear hbx
  have hv := HV.out
  have hv := hv.alloc hv.size (.cells #[.int .i64 y, .slice A3 l.length k3] 25)
  have xTX := (TX.out).alloc (.cells #[.int .i64 y, .slice A3 l.length k3] 25)
  have xTZ := (TZ.out).alloc (.cells #[.int .i64 y, .slice A3 l.length k3] 25)
  have xTY : Blk (w5.alloc (.cells #[.int .i64 y, .slice A3 l.length k3] 25)) (w5.heap.size) 25 #[.int .i64 y, .slice A3 l.length k3] := by
    have := Blk.new w5 25 #[.int .i64 y, .slice A3 l.length k3]
    simpa using this
  generalize hvv : (w5.alloc (.cells #[.int .i64 y, .slice A3 l.length k3] 25)) = v2 at *
  clear hvv
  generalize w5.heap.size = gTY at *
  clear HV TX TZ
  have HV := Lib.hid hv
  have TX := Lib.hid xTX
  have TZ := Lib.hid xTZ
  have TY := Lib.hid xTY
  clear hv xTX xTZ xTY
  clear HE3
  have HE3 := Lib.hid yHE3
  clear yHE3
  have lTX := TX.out.lt
  have kTX0 := TX.out.cell 0
  have kTX1 := TX.out.cell 1
  have lTY := TY.out.lt
  have kTY0 := TY.out.cell 0
  have kTY1 := TY.out.cell 1
  simp only [List.getElem?_toArray, List.getElem?_cons_zero, List.getElem?_cons_succ] at kTX0 kTX1 kTY0 kTY1
  go_wp2_with fail
  refine (num5_any _ _).mono ?_
  rintro e wn6 ⟨rfl, rfl⟩
  go_wp2_with fail
  refine (HSM.out _ _ _ HE3.out (HA.out.below HV.out)).mono ?_
  rintro e w7 ⟨rfl, hb⟩
  clear lTX lTY kTX0 kTX1 kTY0 kTY1
  have hv := HV.out.trans (hb.mono HV.out.size)
  have xTX := TX.out.below hb TX.out.lt
  have xTZ := TZ.out.below hb TZ.out.lt
  have xTY := TY.out.below hb TY.out.lt
  have yHE3 := HE3.out.below hb
  clear hb HV TX TZ TY
  have HV := Lib.hid hv
  have TX := Lib.hid xTX
  have TZ := Lib.hid xTZ
  have TY := Lib.hid xTY
  clear hv xTX xTZ xTY
  clear HE3
  have HE3 := Lib.hid yHE3
  clear yHE3
  go_wp2_with fail
  refine (HY0.out _ (HF.out.below HV.out)).mono ?_
  rintro e w8 ⟨rfl, hb⟩
  have hv := HV.out.trans (hb.mono HV.out.size)
  have xTX := TX.out.below hb TX.out.lt
  have xTZ := TZ.out.below hb TZ.out.lt
  have xTY := TY.out.below hb TY.out.lt
  have yHE3 := HE3.out.below hb
  clear hb HV TX TZ TY
  have HV := Lib.hid hv
  have TX := Lib.hid xTX
  have TZ := Lib.hid xTZ
  have TY := Lib.hid xTY
  clear hv xTX xTZ xTY
  clear HE3
  have HE3 := Lib.hid yHE3
  clear yHE3
  go_wp2_with fail
  go_ret
  exact ⟨rfl, HV.out⟩

theorem enc_range (d : Dat) : 0 ≤ encNo d ∧ encNo d ≤ 3 := by
  unfold encNo
  split
  · omega
  · split
    · omega
    · split <;> omega
theorem law05_holds (c : Int) (A : Option Addr) (ca : Nat) (l : List Ent) (ho : OkL l) (c2 : Int) (B : Option Addr) (cb : Nat) (l2 : List Ent) (ho2 : OkL l2) (at_ wt : Int) (w0 : 0 ≤ wt) (w1 : wt < 256) (w : World) (hA : EntS w A l) (hB : EntS w B l2) (hf : Fit3 w) :
    Calls Tryd.prog 7 #[datV c A l.length ca, datV c2 B l2.length cb, .int .i64 at_, .int .u8 wt] w fun e w' => e = .returned (.bool true) ∧ Below w.heap.size w w' := by
  by_cases hl : l.length ≤ 40
  · by_cases hl2 : l2.length ≤ 40
    · have hr1 := enc_range ⟨c, l⟩
      have hr2 := enc_range ⟨c2, l2⟩
      by_cases h0 : encNo ⟨c, l⟩ = 0
      · by_cases h2 : encNo ⟨c2, l2⟩ = 0
        · by_cases ha : at_ < 0
          · exact law05_holds_stop11 c A ca l ho c2 B cb l2 ho2 at_ wt hl hl2 h0 h2 ha w hA hB hf
          · by_cases hb : 3 < at_
            · exact law05_holds_stop21 c A ca l ho c2 B cb l2 ho2 at_ wt hl hl2 h0 h2 ha hb w hA hB hf
            · by_cases hz : wt = 0
              · subst hz
                exact law05_holds_stop31 c A ca l ho c2 B cb l2 ho2 at_ hl hl2 h0 h2 ha hb w hA hB hf
              · by_cases hp : 0 < at_
                · exact law05_holds_badp1 c A ca l ho c2 B cb l2 ho2 at_.toNat at_ wt w0 w1 hl hl2 h0 h2 ha hb hp rfl (by omega) (by omega) hz w hA hB hf
                · obtain rfl : at_ = 0 := by omega
                  by_cases hcom : comD (bits .xor .u8 c wt)
                  · exact law05_holds_good1 c A ca l ho c2 B cb l2 ho2 wt w0 w1 hl hl2 h0 h2 hz hcom w hA hB hf
                  · exact law05_holds_bad01 c A ca l ho c2 B cb l2 ho2 wt w0 w1 hl hl2 h0 h2 hz hcom w hA hB hf
        · by_cases ha : at_ < 0
          · exact law05_holds_stop10 c A ca l ho c2 B cb l2 ho2 at_ wt hl hl2 h0 h2 hr2 ha w hA hB hf
          · by_cases hb : 3 < at_
            · exact law05_holds_stop20 c A ca l ho c2 B cb l2 ho2 at_ wt hl hl2 h0 h2 hr2 ha hb w hA hB hf
            · by_cases hz : wt = 0
              · subst hz
                exact law05_holds_stop30 c A ca l ho c2 B cb l2 ho2 at_ hl hl2 h0 h2 hr2 ha hb w hA hB hf
              · by_cases hp : 0 < at_
                · exact law05_holds_badp0 c A ca l ho c2 B cb l2 ho2 at_.toNat at_ wt w0 w1 hl hl2 h0 h2 hr2 ha hb hp rfl (by omega) (by omega) hz w hA hB hf
                · obtain rfl : at_ = 0 := by omega
                  by_cases hcom : comD (bits .xor .u8 c wt)
                  · exact law05_holds_good0 c A ca l ho c2 B cb l2 ho2 wt w0 w1 hl hl2 h0 h2 hr2 hz hcom w hA hB hf
                  · exact law05_holds_bad00 c A ca l ho c2 B cb l2 ho2 wt w0 w1 hl hl2 h0 h2 hr2 hz hcom w hA hB hf
      · by_cases h2 : encNo ⟨c2, l2⟩ = 0
        · exact law05_holds_e1 c A ca l ho c2 B cb l2 ho2 at_ wt hl hl2 h0 hr1 h2 w hA hB hf
        · exact law05_holds_e0 c A ca l ho c2 B cb l2 ho2 at_ wt hl hl2 h0 hr1 h2 hr2 w hA hB hf
    · exact law05_holds_big2 c A ca l ho c2 B cb l2 ho2 at_ wt hl (by omega) w hA hB hf
  · exact law05_holds_big1 c A ca l ho c2 B cb l2 ho2 at_ wt (by omega) w hA hB hf

end Go.Proofs.YtehhablobfaplaaDoor
