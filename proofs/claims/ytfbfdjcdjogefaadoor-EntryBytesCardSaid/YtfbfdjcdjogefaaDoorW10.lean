/- The walk of EntryOf (laid by tools/gen/w10.py). -/
import Derived.Test.YtfbfdjcdjogefaaDoorW9
namespace Go.Proofs.YtfbfdjcdjogefaaDoor
open Go Go.RowKit Go.Sort
attribute [local go_sem] Oper.semAt_some
attribute [local irreducible] wpQuiet

theorem all4Row2 (w : World) : Calls Tryd.prog 23 #[] w fun e w' => e = .returned (.agg #[.int .i64 0, .int .i64 0, .int .u32 0, .int .u32 0, .int .u32 0, .int .u32 16]) ∧ Below w.heap.size w w' := refAll_any w
/-- What Prefix tells of the entry of a prefix. -/
theorem pre_oneV {x n metric : Int} (hg : goodP x n) (m0 : 1 ≤ metric) (m1 : metric ≤ 16) : preA (oneE x n metric) = x ∧ preL (oneE x n metric) = n ∧ preNo (oneE x n metric) = 0 := by
  obtain ⟨hw, hp⟩ := pre_one hg m0 m1
  unfold preE at hp
  rw [if_pos hw] at hp
  cases hl : lenF (oneE x n metric).m with
  | none => rw [hl] at hp; cases hp
  | some j =>
    rw [hl] at hp
    have h2 : ((oneE x n metric).a, (j : Int)) = (x, n) := Option.some.inj hp
    unfold preA preL preNo
    rw [if_pos hw, if_pos hw, if_pos hw, hl]
    exact ⟨rfl, congrArg Prod.snd h2, rfl⟩


set_option maxRecDepth 100000 in
set_option maxHeartbeats 3200000 in
theorem law04_of_ok (x n metric : Int) (x0 : 0 ≤ x) (x1 : x < 4294967296) (hg : goodP x n) (m0 : 1 ≤ metric) (m1 : metric ≤ 16) (w : World) (hf : Fit3 w) :
    Calls Tryd.prog 5 #[pfx x n, .int .i64 metric] w fun e w' => e = .returned (.bool true) ∧ Below w.heap.size w w' := by
  have HF := Lib.hid hf
  obtain ⟨q1, q2⟩ := ofV_ok ⟨hg, m0, m1⟩
  obtain ⟨p1, p2, p3⟩ := pre_oneV hg m0 m1
  have hw0 := (pre_one hg m0 m1).1
  have hok : (oneE x n metric).Ok := by
    have := maskOf_range n.toNat
    exact ⟨x0, x1, by simp only [oneE]; omega, by simp only [oneE]; omega, by simp [oneE], by simp [oneE], by simp only [oneE]; omega, by simp only [oneE]; omega⟩
  have HO : Hid (∀ W, Calls Tryd.prog 20 #[.agg #[.int .u32 x, .int .i64 n], .int .i64 metric] W fun e w' => e = .returned (.tuple #[.agg #[.int .i64 2, .int .i64 0, .int .u32 x, .int .u32 (maskOf n.toNat), .int .u32 0, .int .u32 metric], .int .i64 0]) ∧ Below W.heap.size W w') := fun W => by
    have := of4_any x n metric x0 x1 W
    rw [q1, q2] at this
    exact this
  have HRO : Hid (∀ W, Calls Tryd.prog 21 #[.agg #[.int .u32 x, .int .i64 n], .int .i64 metric] W fun e w' => e = .returned (.tuple #[.agg #[.int .i64 2, .int .i64 0, .int .u32 x, .int .u32 (maskOf n.toNat), .int .u32 0, .int .u32 metric], .int .i64 0]) ∧ Below W.heap.size W w') := fun W => by
    have := refOf4_any x n metric x0 x1 W
    rw [q1, q2] at this
    exact this
  have HP : Hid (∀ W, Calls Tryd.prog 15 #[.agg #[.int .i64 2, .int .i64 0, .int .u32 x, .int .u32 (maskOf n.toNat), .int .u32 0, .int .u32 metric]] W fun e w' => e = .returned (.tuple #[.agg #[.int .u32 x, .int .i64 n], .int .i64 0]) ∧ Below W.heap.size W w') := fun W => by
    have := prefix4_any _ hok W
    rw [p1, p2, p3] at this
    exact this
  have HW : Hid (∀ W, Calls Tryd.prog 17 #[.agg #[.int .i64 2, .int .i64 0, .int .u32 x, .int .u32 (maskOf n.toNat), .int .u32 0, .int .u32 metric]] W fun e w' => e = .returned (.int .i64 0) ∧ Below W.heap.size W w') := fun W => by
    have := why_any _ hok W
    rw [hw0] at this
    exact this
  clear hf q1 q2 p1 p2 p3 hw0 hok hg
  generalize maskOf n.toNat = mk at *
  go_enter Tryd.func5, Tryd.ntmps5
  go_wp2_with fail
  have hv := Below.refl w.heap.size w
  have hv := hv.alloc hv.size (.cells #[.int .u32 x, .int .i64 n] 41)
  have xTA : Blk (w.alloc (.cells #[.int .u32 x, .int .i64 n] 41)) (w.heap.size) 41 #[.int .u32 x, .int .i64 n] := by
    have := Blk.new w 41 #[.int .u32 x, .int .i64 n]
    simpa using this
  generalize hvv : (w.alloc (.cells #[.int .u32 x, .int .i64 n] 41)) = v1 at *
  clear hvv
  have HV := Lib.hid hv
  have TA := Lib.hid xTA
  clear hv xTA
  refine (HO.out _).mono ?_
  rintro e w1 ⟨rfl, hb⟩
  have hv := HV.out.trans (hb.mono HV.out.size)
  have xTA := TA.out.below hb TA.out.lt
  clear hb HV TA
  have HV := Lib.hid hv
  have TA := Lib.hid xTA
  clear hv xTA
  have lTA := TA.out.lt
  have kTA0 := TA.out.cell 0
  have kTA1 := TA.out.cell 1
  simp only [List.getElem?_toArray, List.getElem?_cons_zero, List.getElem?_cons_succ] at kTA0 kTA1
  go_wp2_with fail
  clear lTA kTA0 kTA1
  have hv := HV.out
  have hv := hv.alloc hv.size (.cells #[.int .i64 2, .int .i64 0, .int .u32 x, .int .u32 mk, .int .u32 0, .int .u32 metric] 25)
  have xTA := (TA.out).alloc (.cells #[.int .i64 2, .int .i64 0, .int .u32 x, .int .u32 mk, .int .u32 0, .int .u32 metric] 25)
  have xTX : Blk (w1.alloc (.cells #[.int .i64 2, .int .i64 0, .int .u32 x, .int .u32 mk, .int .u32 0, .int .u32 metric] 25)) (w1.heap.size) 25 #[.int .i64 2, .int .i64 0, .int .u32 x, .int .u32 mk, .int .u32 0, .int .u32 metric] := by
    have := Blk.new w1 25 #[.int .i64 2, .int .i64 0, .int .u32 x, .int .u32 mk, .int .u32 0, .int .u32 metric]
    simpa using this
  generalize hvv : (w1.alloc (.cells #[.int .i64 2, .int .i64 0, .int .u32 x, .int .u32 mk, .int .u32 0, .int .u32 metric] 25)) = v2 at *
  clear hvv
  generalize w1.heap.size = gTX at *
  clear HV TA
  have HV := Lib.hid hv
  have TA := Lib.hid xTA
  have TX := Lib.hid xTX
  clear hv xTA xTX
  refine (HRO.out _).mono ?_
  rintro e w2 ⟨rfl, hb⟩
  have hv := HV.out.trans (hb.mono HV.out.size)
  have xTA := TA.out.below hb TA.out.lt
  have xTX := TX.out.below hb TX.out.lt
  clear hb HV TA TX
  have HV := Lib.hid hv
  have TA := Lib.hid xTA
  have TX := Lib.hid xTX
  clear hv xTA xTX
  have lTX := TX.out.lt
  have kTX0 := TX.out.cell 0
  have kTX1 := TX.out.cell 1
  have kTX2 := TX.out.cell 2
  have kTX3 := TX.out.cell 3
  have kTX4 := TX.out.cell 4
  have kTX5 := TX.out.cell 5
  simp only [List.getElem?_toArray, List.getElem?_cons_zero, List.getElem?_cons_succ] at kTX0 kTX1 kTX2 kTX3 kTX4 kTX5
  go_wp2_with fail
  clear lTX kTX0 kTX1 kTX2 kTX3 kTX4 kTX5
  have hv := HV.out
  have hv := hv.alloc hv.size (.cells #[.int .i64 2, .int .i64 0, .int .u32 x, .int .u32 mk, .int .u32 0, .int .u32 metric] 25)
  have xTA := (TA.out).alloc (.cells #[.int .i64 2, .int .i64 0, .int .u32 x, .int .u32 mk, .int .u32 0, .int .u32 metric] 25)
  have xTX := (TX.out).alloc (.cells #[.int .i64 2, .int .i64 0, .int .u32 x, .int .u32 mk, .int .u32 0, .int .u32 metric] 25)
  have xTY : Blk (w2.alloc (.cells #[.int .i64 2, .int .i64 0, .int .u32 x, .int .u32 mk, .int .u32 0, .int .u32 metric] 25)) (w2.heap.size) 25 #[.int .i64 2, .int .i64 0, .int .u32 x, .int .u32 mk, .int .u32 0, .int .u32 metric] := by
    have := Blk.new w2 25 #[.int .i64 2, .int .i64 0, .int .u32 x, .int .u32 mk, .int .u32 0, .int .u32 metric]
    simpa using this
  generalize hvv : (w2.alloc (.cells #[.int .i64 2, .int .i64 0, .int .u32 x, .int .u32 mk, .int .u32 0, .int .u32 metric] 25)) = v3 at *
  clear hvv
  generalize w2.heap.size = gTY at *
  clear HV TA TX
  have HV := Lib.hid hv
  have TA := Lib.hid xTA
  have TX := Lib.hid xTX
  have TY := Lib.hid xTY
  clear hv xTA xTX xTY
  refine (num4_any _ _).mono ?_
  rintro e wn3 ⟨rfl, rfl⟩
  go_wp2_with fail
  refine (all4Row _).mono ?_
  rintro e w4 ⟨rfl, hb⟩
  have hv := HV.out.trans (hb.mono HV.out.size)
  have xTA := TA.out.below hb TA.out.lt
  have xTX := TX.out.below hb TX.out.lt
  have xTY := TY.out.below hb TY.out.lt
  clear hb HV TA TX TY
  have HV := Lib.hid hv
  have TA := Lib.hid xTA
  have TX := Lib.hid xTX
  have TY := Lib.hid xTY
  clear hv xTA xTX xTY
  go_wp2_with fail
  refine (all4Row2 _).mono ?_
  rintro e w5 ⟨rfl, hb⟩
  have hv := HV.out.trans (hb.mono HV.out.size)
  have xTA := TA.out.below hb TA.out.lt
  have xTX := TX.out.below hb TX.out.lt
  have xTY := TY.out.below hb TY.out.lt
  clear hb HV TA TX TY
  have HV := Lib.hid hv
  have TA := Lib.hid xTA
  have TX := Lib.hid xTX
  have TY := Lib.hid xTY
  clear hv xTA xTX xTY
  have lTX := TX.out.lt
  have kTX0 := TX.out.cell 0
  have kTX1 := TX.out.cell 1
  have kTX2 := TX.out.cell 2
  have kTX3 := TX.out.cell 3
  have kTX4 := TX.out.cell 4
  have kTX5 := TX.out.cell 5
  simp only [List.getElem?_toArray, List.getElem?_cons_zero, List.getElem?_cons_succ] at kTX0 kTX1 kTX2 kTX3 kTX4 kTX5
  go_wp2_with fail
  refine (HP.out _).mono ?_
  rintro e w6 ⟨rfl, hb⟩
  clear lTX kTX0 kTX1 kTX2 kTX3 kTX4 kTX5
  have hv := HV.out.trans (hb.mono HV.out.size)
  have xTA := TA.out.below hb TA.out.lt
  have xTX := TX.out.below hb TX.out.lt
  have xTY := TY.out.below hb TY.out.lt
  clear hb HV TA TX TY
  have HV := Lib.hid hv
  have TA := Lib.hid xTA
  have TX := Lib.hid xTX
  have TY := Lib.hid xTY
  clear hv xTA xTX xTY
  have lTX := TX.out.lt
  have kTX0 := TX.out.cell 0
  have kTX1 := TX.out.cell 1
  have kTX2 := TX.out.cell 2
  have kTX3 := TX.out.cell 3
  have kTX4 := TX.out.cell 4
  have kTX5 := TX.out.cell 5
  have lTA := TA.out.lt
  have kTA0 := TA.out.cell 0
  have kTA1 := TA.out.cell 1
  simp only [List.getElem?_toArray, List.getElem?_cons_zero, List.getElem?_cons_succ] at kTX0 kTX1 kTX2 kTX3 kTX4 kTX5 kTA0 kTA1
  go_wp2_with fail
  clear lTX lTA kTX0 kTX1 kTX2 kTX3 kTX4 kTX5 kTA0 kTA1
  have hv := HV.out
  have hv := hv.alloc hv.size (.cells #[.int .u32 x, .int .i64 n] 41)
  have xTA := (TA.out).alloc (.cells #[.int .u32 x, .int .i64 n] 41)
  have xTX := (TX.out).alloc (.cells #[.int .u32 x, .int .i64 n] 41)
  have xTY := (TY.out).alloc (.cells #[.int .u32 x, .int .i64 n] 41)
  have xTP : Blk (w6.alloc (.cells #[.int .u32 x, .int .i64 n] 41)) (w6.heap.size) 41 #[.int .u32 x, .int .i64 n] := by
    have := Blk.new w6 41 #[.int .u32 x, .int .i64 n]
    simpa using this
  generalize hvv : (w6.alloc (.cells #[.int .u32 x, .int .i64 n] 41)) = v4 at *
  clear hvv
  generalize w6.heap.size = gTP at *
  clear HV TA TX TY
  have HV := Lib.hid hv
  have TA := Lib.hid xTA
  have TX := Lib.hid xTX
  have TY := Lib.hid xTY
  have TP := Lib.hid xTP
  clear hv xTA xTX xTY xTP
  have lTX := TX.out.lt
  have kTX0 := TX.out.cell 0
  have kTX1 := TX.out.cell 1
  have kTX2 := TX.out.cell 2
  have kTX3 := TX.out.cell 3
  have kTX4 := TX.out.cell 4
  have kTX5 := TX.out.cell 5
  simp only [List.getElem?_toArray, List.getElem?_cons_zero, List.getElem?_cons_succ] at kTX0 kTX1 kTX2 kTX3 kTX4 kTX5
  refine (num4_any _ _).mono ?_
  rintro e wn7 ⟨rfl, rfl⟩
  go_wp2_with fail
  refine (HW.out _).mono ?_
  rintro e w8 ⟨rfl, hb⟩
  clear lTX kTX0 kTX1 kTX2 kTX3 kTX4 kTX5
  have hv := HV.out.trans (hb.mono HV.out.size)
  have xTA := TA.out.below hb TA.out.lt
  have xTX := TX.out.below hb TX.out.lt
  have xTY := TY.out.below hb TY.out.lt
  have xTP := TP.out.below hb TP.out.lt
  clear hb HV TA TX TY TP
  have HV := Lib.hid hv
  have TA := Lib.hid xTA
  have TX := Lib.hid xTX
  have TY := Lib.hid xTY
  have TP := Lib.hid xTP
  clear hv xTA xTX xTY xTP
  go_wp2_with fail
  refine (yes4 _ (HF.out.below HV.out)).mono ?_
  rintro e w9 ⟨rfl, hb⟩
  have hv := HV.out.trans (hb.mono HV.out.size)
  have xTA := TA.out.below hb TA.out.lt
  have xTX := TX.out.below hb TX.out.lt
  have xTY := TY.out.below hb TY.out.lt
  have xTP := TP.out.below hb TP.out.lt
  clear hb HV TA TX TY TP
  have HV := Lib.hid hv
  have TA := Lib.hid xTA
  have TX := Lib.hid xTX
  have TY := Lib.hid xTY
  have TP := Lib.hid xTP
  clear hv xTA xTX xTY xTP
  go_wp2_with fail
  go_ret
  exact ⟨rfl, HV.out⟩

set_option maxRecDepth 100000 in
set_option maxHeartbeats 3200000 in
theorem law04_of_no (x n metric : Int) (x0 : 0 ≤ x) (x1 : x < 4294967296) (hno : ¬ (goodP x n ∧ 1 ≤ metric ∧ metric ≤ 16)) (w : World) (hf : Fit3 w) :
    Calls Tryd.prog 5 #[pfx x n, .int .i64 metric] w fun e w' => e = .returned (.bool true) ∧ Below w.heap.size w w' := by
  have HF := Lib.hid hf
  obtain ⟨q1, q2⟩ := ofV_no hno
  have HO : Hid (∀ W, Calls Tryd.prog 20 #[.agg #[.int .u32 x, .int .i64 n], .int .i64 metric] W fun e w' => e = .returned (.tuple #[.agg #[.int .i64 0, .int .i64 0, .int .u32 0, .int .u32 0, .int .u32 0, .int .u32 0], .int .i64 2]) ∧ Below W.heap.size W w') := fun W => by
    have := of4_any x n metric x0 x1 W
    rw [q1, q2] at this
    exact this
  have HRO : Hid (∀ W, Calls Tryd.prog 21 #[.agg #[.int .u32 x, .int .i64 n], .int .i64 metric] W fun e w' => e = .returned (.tuple #[.agg #[.int .i64 0, .int .i64 0, .int .u32 0, .int .u32 0, .int .u32 0, .int .u32 0], .int .i64 2]) ∧ Below W.heap.size W w') := fun W => by
    have := refOf4_any x n metric x0 x1 W
    rw [q1, q2] at this
    exact this
  clear hf q1 q2 hno
  go_enter Tryd.func5, Tryd.ntmps5
  go_wp2_with fail
  have hv := Below.refl w.heap.size w
  have hv := hv.alloc hv.size (.cells #[.int .u32 x, .int .i64 n] 41)
  have xTA : Blk (w.alloc (.cells #[.int .u32 x, .int .i64 n] 41)) (w.heap.size) 41 #[.int .u32 x, .int .i64 n] := by
    have := Blk.new w 41 #[.int .u32 x, .int .i64 n]
    simpa using this
  generalize hvv : (w.alloc (.cells #[.int .u32 x, .int .i64 n] 41)) = v1 at *
  clear hvv
  have HV := Lib.hid hv
  have TA := Lib.hid xTA
  clear hv xTA
  refine (HO.out _).mono ?_
  rintro e w1 ⟨rfl, hb⟩
  have hv := HV.out.trans (hb.mono HV.out.size)
  have xTA := TA.out.below hb TA.out.lt
  clear hb HV TA
  have HV := Lib.hid hv
  have TA := Lib.hid xTA
  clear hv xTA
  have lTA := TA.out.lt
  have kTA0 := TA.out.cell 0
  have kTA1 := TA.out.cell 1
  simp only [List.getElem?_toArray, List.getElem?_cons_zero, List.getElem?_cons_succ] at kTA0 kTA1
  go_wp2_with fail
  clear lTA kTA0 kTA1
  have hv := HV.out
  have hv := hv.alloc hv.size (.cells #[.int .i64 0, .int .i64 0, .int .u32 0, .int .u32 0, .int .u32 0, .int .u32 0] 25)
  have xTA := (TA.out).alloc (.cells #[.int .i64 0, .int .i64 0, .int .u32 0, .int .u32 0, .int .u32 0, .int .u32 0] 25)
  have xTX : Blk (w1.alloc (.cells #[.int .i64 0, .int .i64 0, .int .u32 0, .int .u32 0, .int .u32 0, .int .u32 0] 25)) (w1.heap.size) 25 #[.int .i64 0, .int .i64 0, .int .u32 0, .int .u32 0, .int .u32 0, .int .u32 0] := by
    have := Blk.new w1 25 #[.int .i64 0, .int .i64 0, .int .u32 0, .int .u32 0, .int .u32 0, .int .u32 0]
    simpa using this
  generalize hvv : (w1.alloc (.cells #[.int .i64 0, .int .i64 0, .int .u32 0, .int .u32 0, .int .u32 0, .int .u32 0] 25)) = v2 at *
  clear hvv
  generalize w1.heap.size = gTX at *
  clear HV TA
  have HV := Lib.hid hv
  have TA := Lib.hid xTA
  have TX := Lib.hid xTX
  clear hv xTA xTX
  refine (HRO.out _).mono ?_
  rintro e w2 ⟨rfl, hb⟩
  have hv := HV.out.trans (hb.mono HV.out.size)
  have xTA := TA.out.below hb TA.out.lt
  have xTX := TX.out.below hb TX.out.lt
  clear hb HV TA TX
  have HV := Lib.hid hv
  have TA := Lib.hid xTA
  have TX := Lib.hid xTX
  clear hv xTA xTX
  have lTX := TX.out.lt
  have kTX0 := TX.out.cell 0
  have kTX1 := TX.out.cell 1
  have kTX2 := TX.out.cell 2
  have kTX3 := TX.out.cell 3
  have kTX4 := TX.out.cell 4
  have kTX5 := TX.out.cell 5
  simp only [List.getElem?_toArray, List.getElem?_cons_zero, List.getElem?_cons_succ] at kTX0 kTX1 kTX2 kTX3 kTX4 kTX5
  go_wp2_with fail
  clear lTX kTX0 kTX1 kTX2 kTX3 kTX4 kTX5
  have hv := HV.out
  have hv := hv.alloc hv.size (.cells #[.int .i64 0, .int .i64 0, .int .u32 0, .int .u32 0, .int .u32 0, .int .u32 0] 25)
  have xTA := (TA.out).alloc (.cells #[.int .i64 0, .int .i64 0, .int .u32 0, .int .u32 0, .int .u32 0, .int .u32 0] 25)
  have xTX := (TX.out).alloc (.cells #[.int .i64 0, .int .i64 0, .int .u32 0, .int .u32 0, .int .u32 0, .int .u32 0] 25)
  have xTY : Blk (w2.alloc (.cells #[.int .i64 0, .int .i64 0, .int .u32 0, .int .u32 0, .int .u32 0, .int .u32 0] 25)) (w2.heap.size) 25 #[.int .i64 0, .int .i64 0, .int .u32 0, .int .u32 0, .int .u32 0, .int .u32 0] := by
    have := Blk.new w2 25 #[.int .i64 0, .int .i64 0, .int .u32 0, .int .u32 0, .int .u32 0, .int .u32 0]
    simpa using this
  generalize hvv : (w2.alloc (.cells #[.int .i64 0, .int .i64 0, .int .u32 0, .int .u32 0, .int .u32 0, .int .u32 0] 25)) = v3 at *
  clear hvv
  generalize w2.heap.size = gTY at *
  clear HV TA TX
  have HV := Lib.hid hv
  have TA := Lib.hid xTA
  have TX := Lib.hid xTX
  have TY := Lib.hid xTY
  clear hv xTA xTX xTY
  refine (num4_any _ _).mono ?_
  rintro e wn3 ⟨rfl, rfl⟩
  go_wp2_with fail
  refine (all4Row _).mono ?_
  rintro e w4 ⟨rfl, hb⟩
  have hv := HV.out.trans (hb.mono HV.out.size)
  have xTA := TA.out.below hb TA.out.lt
  have xTX := TX.out.below hb TX.out.lt
  have xTY := TY.out.below hb TY.out.lt
  clear hb HV TA TX TY
  have HV := Lib.hid hv
  have TA := Lib.hid xTA
  have TX := Lib.hid xTX
  have TY := Lib.hid xTY
  clear hv xTA xTX xTY
  go_wp2_with fail
  refine (all4Row2 _).mono ?_
  rintro e w5 ⟨rfl, hb⟩
  have hv := HV.out.trans (hb.mono HV.out.size)
  have xTA := TA.out.below hb TA.out.lt
  have xTX := TX.out.below hb TX.out.lt
  have xTY := TY.out.below hb TY.out.lt
  clear hb HV TA TX TY
  have HV := Lib.hid hv
  have TA := Lib.hid xTA
  have TX := Lib.hid xTX
  have TY := Lib.hid xTY
  clear hv xTA xTX xTY
  go_wp2_with fail
  refine (yes4 _ (HF.out.below HV.out)).mono ?_
  rintro e w6 ⟨rfl, hb⟩
  have hv := HV.out.trans (hb.mono HV.out.size)
  have xTA := TA.out.below hb TA.out.lt
  have xTX := TX.out.below hb TX.out.lt
  have xTY := TY.out.below hb TY.out.lt
  clear hb HV TA TX TY
  have HV := Lib.hid hv
  have TA := Lib.hid xTA
  have TX := Lib.hid xTX
  have TY := Lib.hid xTY
  clear hv xTA xTX xTY
  go_wp2_with fail
  go_ret
  exact ⟨rfl, HV.out⟩

theorem law04_of (x n metric : Int) (x0 : 0 ≤ x) (x1 : x < 4294967296) (w : World) (hf : Fit3 w) :
    Calls Tryd.prog 5 #[pfx x n, .int .i64 metric] w fun e w' => e = .returned (.bool true) ∧ Below w.heap.size w w' := by
  by_cases h : goodP x n ∧ 1 ≤ metric ∧ metric ≤ 16
  · exact law04_of_ok x n metric x0 x1 h.1 h.2.1 h.2.2 w hf
  · exact law04_of_no x n metric x0 x1 h w hf
end Go.Proofs.YtfbfdjcdjogefaaDoor
