/- The walk of PrefixTexts (laid by tools/gen/t4.py). -/
import Derived.Test.YtabpkdblcinhjaaDoorT3
namespace Go.Proofs.YtabpkdblcinhjaaDoor
open Go Go.RowKit Go.Sort
attribute [local go_sem] Oper.semAt_some
attribute [local irreducible] wpQuiet

theorem pparseEnd_some {l : List UInt8} {a n : Int} (h : pparse l = some (a, n)) : pparseEnd l = .returned (.tuple #[.agg #[.int .u32 a, .int .i64 n], .int .i64 0]) := by unfold pparseEnd; rw [h]
theorem pparseEnd_none {l : List UInt8} (h : pparse l = none) : pparseEnd l = .returned (.tuple #[.agg #[.int .u32 0, .int .i64 0], .int .i64 120]) := by unfold pparseEnd; rw [h]
theorem refPParse_hit {s : ByteArray} (hs : s.size ≤ 60) {a : Int} {n : Nat} (h : RefHit s.data.toList a n) (w : World) (hF : Fit w) :
    Calls Tryd.prog 7 #[.string s] w fun e w' => e = .returned (.tuple #[.agg #[.int .u32 a, .int .i64 n], .int .i64 0]) ∧ Below w.heap.size w w' :=
  (refPParse_any s hs w hF).mono fun _ _ ⟨he, hb⟩ => ⟨by
    rcases he with ⟨b, m, hh, rfl⟩ | ⟨hn, _⟩
    · have h1 := refHit_pparse h
      rw [refHit_pparse hh] at h1
      simp only [Option.some.injEq, Prod.mk.injEq] at h1
      rw [h1.1, h1.2]
    · exact absurd h (hn a n), hb⟩
theorem refPParse_miss {s : ByteArray} (hs : s.size ≤ 60) (h : ∀ a n, ¬ RefHit s.data.toList a n) (w : World) (hF : Fit w) :
    Calls Tryd.prog 7 #[.string s] w fun e w' => e = .returned (.tuple #[.agg #[.int .u32 0, .int .i64 0], .int .i64 120]) ∧ Below w.heap.size w w' :=
  (refPParse_any s hs w hF).mono fun _ _ ⟨he, hb⟩ => ⟨by
    rcases he with ⟨b, m, hh, _⟩ | ⟨_, h2⟩
    · exact absurd hh (h b m)
    · exact h2, hb⟩


set_option maxRecDepth 100000 in
set_option maxHeartbeats 3200000 in
theorem law02_texts_big (x n : Int) (s : ByteArray) (hs : 60 < s.size) (w : World) :
    Calls Tryd.prog 3 #[pfx x n, .string s] w fun e w' => e = .returned (.bool true) ∧ Below w.heap.size w w' := by
  go_enter Tryd.func3, Tryd.ntmps3
  go_wp2_with fail
  have hv := Below.refl w.heap.size w
  have hv := hv.alloc hv.size (.cells #[.int .u32 x, .int .i64 n] 25)
  have xTA : Blk (w.alloc (.cells #[.int .u32 x, .int .i64 n] 25)) (w.heap.size) 25 #[.int .u32 x, .int .i64 n] := by
    have := Blk.new w 25 #[.int .u32 x, .int .i64 n]
    simpa using this
  generalize hvv : (w.alloc (.cells #[.int .u32 x, .int .i64 n] 25)) = v1 at *
  clear hvv
  have HV := Lib.hid hv
  have TA := Lib.hid xTA
  clear hv xTA
  refine (works02_any _).mono ?_
  rintro e w1 ⟨rfl, hb⟩
  have hv := HV.out.trans (hb.mono HV.out.size)
  have xTA := TA.out.below hb TA.out.lt
  clear hb HV TA
  have HV := Lib.hid hv
  have TA := Lib.hid xTA
  clear hv xTA
  go_wp2_with fail
  go_ret
  exact ⟨rfl, HV.out⟩

set_option maxRecDepth 100000 in
set_option maxHeartbeats 3200000 in
theorem law02_texts_hr (x : Int) (N : Nat) (s : ByteArray) (x0 : 0 ≤ x) (x1 : x < 4294967296) (hr : right x N) (hs : s.size ≤ 60) (a : Int) (k : Nat) (hh : RefHit s.data.toList a k) (w : World) (hF : Fit w) :
    Calls Tryd.prog 3 #[pfx x N, .string s] w fun e w' => e = .returned (.bool true) ∧ Below w.heap.size w w' := by
  have HF := Lib.hid hF
  have HH := Lib.hid hh
  have HR := Lib.hid hr
  have HRR : Hid (decide (right x N) = true) := by show decide _ = _; simpa using hr
  have HP := Lib.hid (pparseEnd_some (refHit_pparse hh))
  have HS : Hid ((⟨(ptxt a k).toArray⟩ : ByteArray) = s) := by
    show _ = _
    apply ByteArray.ext
    apply Array.toList_inj.1
    rw [refHit_text hh]
  obtain ⟨e0, hh1, _⟩ := hh.2.2
  have hra := head_range hh1
  have HA0 := Lib.hid hra.1
  have HA1 := Lib.hid hra.2.1
  clear hh1 hra
  have HP2 := Lib.hid (pparseEnd_some (ptxt_parse x0 x1 hr))
  have hN : N ≤ 32 := by have := hr.2.1; omega
  clear hF hh hr
  go_enter Tryd.func3, Tryd.ntmps3
  go_wp2_with fail
  have hv := Below.refl w.heap.size w
  have hv := hv.alloc hv.size (.cells #[.int .u32 x, .int .i64 N] 25)
  have xTA : Blk (w.alloc (.cells #[.int .u32 x, .int .i64 N] 25)) (w.heap.size) 25 #[.int .u32 x, .int .i64 N] := by
    have := Blk.new w 25 #[.int .u32 x, .int .i64 N]
    simpa using this
  generalize hvv : (w.alloc (.cells #[.int .u32 x, .int .i64 N] 25)) = v1 at *
  clear hvv
  have HV := Lib.hid hv
  have TA := Lib.hid xTA
  clear hv xTA
  refine (text2_any x N x0 x1 HR.out _ (HF.out.below HV.out)).mono ?_
  rintro e w1 ⟨rfl, hb⟩
  have hv := HV.out.trans (hb.mono HV.out.size)
  have xTA := TA.out.below hb TA.out.lt
  clear hb HV TA
  have HV := Lib.hid hv
  have TA := Lib.hid xTA
  clear hv xTA
  go_wp2_with fail
  refine (pparse_any s _).mono ?_
  rw [HP.out]
  rintro e w2 ⟨rfl, hb⟩
  have hv := HV.out.trans (hb.mono HV.out.size)
  have xTA := TA.out.below hb TA.out.lt
  clear hb HV TA
  have HV := Lib.hid hv
  have TA := Lib.hid xTA
  clear hv xTA
  go_wp2_with fail
  have hv := HV.out
  have hv := hv.alloc hv.size (.cells #[.int .u32 a, .int .i64 k] 25)
  have xTA := (TA.out).alloc (.cells #[.int .u32 a, .int .i64 k] 25)
  have xTQ : Blk (w2.alloc (.cells #[.int .u32 a, .int .i64 k] 25)) (w2.heap.size) 25 #[.int .u32 a, .int .i64 k] := by
    have := Blk.new w2 25 #[.int .u32 a, .int .i64 k]
    simpa using this
  generalize hvv : (w2.alloc (.cells #[.int .u32 a, .int .i64 k] 25)) = v2 at *
  clear hvv
  generalize w2.heap.size = gTQ at *
  clear HV TA
  have HV := Lib.hid hv
  have TA := Lib.hid xTA
  have TQ := Lib.hid xTQ
  clear hv xTA xTQ
  refine (refPParse_hit hs HH.out _ (HF.out.below HV.out)).mono ?_
  rintro e w3 ⟨rfl, hb⟩
  have hv := HV.out.trans (hb.mono HV.out.size)
  have xTA := TA.out.below hb TA.out.lt
  have xTQ := TQ.out.below hb TQ.out.lt
  clear hb HV TA TQ
  have HV := Lib.hid hv
  have TA := Lib.hid xTA
  have TQ := Lib.hid xTQ
  clear hv xTA xTQ
  have lTQ := TQ.out.lt
  have kTQ0 := TQ.out.cell 0
  have kTQ1 := TQ.out.cell 1
  simp only [List.getElem?_toArray, List.getElem?_cons_zero, List.getElem?_cons_succ] at kTQ0 kTQ1
  go_wp2_with fail
  clear lTQ kTQ0 kTQ1
  have hv := HV.out
  have hv := hv.alloc hv.size (.cells #[.int .u32 a, .int .i64 k] 25)
  have xTA := (TA.out).alloc (.cells #[.int .u32 a, .int .i64 k] 25)
  have xTQ := (TQ.out).alloc (.cells #[.int .u32 a, .int .i64 k] 25)
  have xTW : Blk (w3.alloc (.cells #[.int .u32 a, .int .i64 k] 25)) (w3.heap.size) 25 #[.int .u32 a, .int .i64 k] := by
    have := Blk.new w3 25 #[.int .u32 a, .int .i64 k]
    simpa using this
  generalize hvv : (w3.alloc (.cells #[.int .u32 a, .int .i64 k] 25)) = v3 at *
  clear hvv
  generalize w3.heap.size = gTW at *
  clear HV TA TQ
  have HV := Lib.hid hv
  have TA := Lib.hid xTA
  have TQ := Lib.hid xTQ
  have TW := Lib.hid xTW
  clear hv xTA xTQ xTW
  have lTQ := TQ.out.lt
  have kTQ0 := TQ.out.cell 0
  have kTQ1 := TQ.out.cell 1
  have lTA := TA.out.lt
  have kTA0 := TA.out.cell 0
  have kTA1 := TA.out.cell 1
  simp only [List.getElem?_toArray, List.getElem?_cons_zero, List.getElem?_cons_succ] at kTQ0 kTQ1 kTA0 kTA1
  refine (num02_any _ _).mono ?_
  rintro e wn4 ⟨rfl, rfl⟩
  go_wp2_with fail
  refine (text2_any a k HA0.out HA1.out HH.out.2.1 _ (HF.out.below HV.out)).mono ?_
  rw [HS.out]
  rintro e w5 ⟨rfl, hb⟩
  clear lTQ lTA kTQ0 kTQ1 kTA0 kTA1
  have hv := HV.out.trans (hb.mono HV.out.size)
  have xTA := TA.out.below hb TA.out.lt
  have xTQ := TQ.out.below hb TQ.out.lt
  have xTW := TW.out.below hb TW.out.lt
  clear hb HV TA TQ TW
  have HV := Lib.hid hv
  have TA := Lib.hid xTA
  have TQ := Lib.hid xTQ
  have TW := Lib.hid xTW
  clear hv xTA xTQ xTW
  have lTA := TA.out.lt
  have kTA0 := TA.out.cell 0
  have kTA1 := TA.out.cell 1
  simp only [List.getElem?_toArray, List.getElem?_cons_zero, List.getElem?_cons_succ] at kTA0 kTA1
  go_wp2_with fail
  refine (num02_any _ _).mono ?_
  rintro e wn6 ⟨rfl, rfl⟩
  go_wp2_with fail
  refine (refRight_any x N x0 x1 _).mono ?_
  rw [HRR.out]
  rintro e w7 ⟨rfl, hb⟩
  clear lTA kTA0 kTA1
  have hv := HV.out.trans (hb.mono HV.out.size)
  have xTA := TA.out.below hb TA.out.lt
  have xTQ := TQ.out.below hb TQ.out.lt
  have xTW := TW.out.below hb TW.out.lt
  clear hb HV TA TQ TW
  have HV := Lib.hid hv
  have TA := Lib.hid xTA
  have TQ := Lib.hid xTQ
  have TW := Lib.hid xTW
  clear hv xTA xTQ xTW
  have lTA := TA.out.lt
  have kTA0 := TA.out.cell 0
  have kTA1 := TA.out.cell 1
  simp only [List.getElem?_toArray, List.getElem?_cons_zero, List.getElem?_cons_succ] at kTA0 kTA1
  go_wp2_with fail
  refine (pparse_any _ _).mono ?_
  rw [show pparseEnd (ByteArray.mk (ptxt x N).toArray).data.toList = _ from HP2.out]
  rintro e w8 ⟨rfl, hb⟩
  clear lTA kTA0 kTA1
  have hv := HV.out.trans (hb.mono HV.out.size)
  have xTA := TA.out.below hb TA.out.lt
  have xTQ := TQ.out.below hb TQ.out.lt
  have xTW := TW.out.below hb TW.out.lt
  clear hb HV TA TQ TW
  have HV := Lib.hid hv
  have TA := Lib.hid xTA
  have TQ := Lib.hid xTQ
  have TW := Lib.hid xTW
  clear hv xTA xTQ xTW
  have lTA := TA.out.lt
  have kTA0 := TA.out.cell 0
  have kTA1 := TA.out.cell 1
  simp only [List.getElem?_toArray, List.getElem?_cons_zero, List.getElem?_cons_succ] at kTA0 kTA1
  go_wp2_with fail
  clear lTA kTA0 kTA1
  have hv := HV.out
  have hv := hv.alloc hv.size (.cells #[.int .u32 x, .int .i64 N] 25)
  have xTA := (TA.out).alloc (.cells #[.int .u32 x, .int .i64 N] 25)
  have xTQ := (TQ.out).alloc (.cells #[.int .u32 x, .int .i64 N] 25)
  have xTW := (TW.out).alloc (.cells #[.int .u32 x, .int .i64 N] 25)
  have xTR : Blk (w8.alloc (.cells #[.int .u32 x, .int .i64 N] 25)) (w8.heap.size) 25 #[.int .u32 x, .int .i64 N] := by
    have := Blk.new w8 25 #[.int .u32 x, .int .i64 N]
    simpa using this
  generalize hvv : (w8.alloc (.cells #[.int .u32 x, .int .i64 N] 25)) = v4 at *
  clear hvv
  generalize w8.heap.size = gTR at *
  clear HV TA TQ TW
  have HV := Lib.hid hv
  have TA := Lib.hid xTA
  have TQ := Lib.hid xTQ
  have TW := Lib.hid xTW
  have TR := Lib.hid xTR
  clear hv xTA xTQ xTW xTR
  refine (refText2_any x N x0 x1 hN _ (HF.out.below HV.out)).mono ?_
  rintro e w9 ⟨rfl, hb⟩
  have hv := HV.out.trans (hb.mono HV.out.size)
  have xTA := TA.out.below hb TA.out.lt
  have xTQ := TQ.out.below hb TQ.out.lt
  have xTW := TW.out.below hb TW.out.lt
  have xTR := TR.out.below hb TR.out.lt
  clear hb HV TA TQ TW TR
  have HV := Lib.hid hv
  have TA := Lib.hid xTA
  have TQ := Lib.hid xTQ
  have TW := Lib.hid xTW
  have TR := Lib.hid xTR
  clear hv xTA xTQ xTW xTR
  have lTA := TA.out.lt
  have kTA0 := TA.out.cell 0
  have kTA1 := TA.out.cell 1
  have lTR := TR.out.lt
  have kTR0 := TR.out.cell 0
  have kTR1 := TR.out.cell 1
  simp only [List.getElem?_toArray, List.getElem?_cons_zero, List.getElem?_cons_succ] at kTA0 kTA1 kTR0 kTR1
  go_wp2_with fail
  refine (num02_any _ _).mono ?_
  rintro e wn10 ⟨rfl, rfl⟩
  go_wp2_with fail
  refine (num02_any _ _).mono ?_
  rintro e wn11 ⟨rfl, rfl⟩
  go_wp2_with fail
  refine (works02_any _).mono ?_
  rintro e w12 ⟨rfl, hb⟩
  clear lTA lTR kTA0 kTA1 kTR0 kTR1
  have hv := HV.out.trans (hb.mono HV.out.size)
  have xTA := TA.out.below hb TA.out.lt
  have xTQ := TQ.out.below hb TQ.out.lt
  have xTW := TW.out.below hb TW.out.lt
  have xTR := TR.out.below hb TR.out.lt
  clear hb HV TA TQ TW TR
  have HV := Lib.hid hv
  have TA := Lib.hid xTA
  have TQ := Lib.hid xTQ
  have TW := Lib.hid xTW
  have TR := Lib.hid xTR
  clear hv xTA xTQ xTW xTR
  go_wp2_with fail
  go_ret
  exact ⟨rfl, HV.out⟩

set_option maxRecDepth 100000 in
set_option maxHeartbeats 3200000 in
theorem law02_texts_hw (x n : Int) (s : ByteArray) (x0 : 0 ≤ x) (x1 : x < 4294967296) (hr : ¬ right x n) (hs : s.size ≤ 60) (a : Int) (k : Nat) (hh : RefHit s.data.toList a k) (w : World) (hF : Fit w) :
    Calls Tryd.prog 3 #[pfx x n, .string s] w fun e w' => e = .returned (.bool true) ∧ Below w.heap.size w w' := by
  have HF := Lib.hid hF
  have HH := Lib.hid hh
  have HR := Lib.hid hr
  have HRR : Hid (decide (right x n) = false) := by show decide _ = _; simpa using hr
  have HP := Lib.hid (pparseEnd_some (refHit_pparse hh))
  have HS : Hid ((⟨(ptxt a k).toArray⟩ : ByteArray) = s) := by
    show _ = _
    apply ByteArray.ext
    apply Array.toList_inj.1
    rw [refHit_text hh]
  obtain ⟨e0, hh1, _⟩ := hh.2.2
  have hra := head_range hh1
  have HA0 := Lib.hid hra.1
  have HA1 := Lib.hid hra.2.1
  clear hh1 hra
  clear hF hh hr
  go_enter Tryd.func3, Tryd.ntmps3
  go_wp2_with fail
  have hv := Below.refl w.heap.size w
  have hv := hv.alloc hv.size (.cells #[.int .u32 x, .int .i64 n] 25)
  have xTA : Blk (w.alloc (.cells #[.int .u32 x, .int .i64 n] 25)) (w.heap.size) 25 #[.int .u32 x, .int .i64 n] := by
    have := Blk.new w 25 #[.int .u32 x, .int .i64 n]
    simpa using this
  generalize hvv : (w.alloc (.cells #[.int .u32 x, .int .i64 n] 25)) = v1 at *
  clear hvv
  have HV := Lib.hid hv
  have TA := Lib.hid xTA
  clear hv xTA
  refine (text2_no x n x0 x1 HR.out _).mono ?_
  rintro e w1 ⟨rfl, hb⟩
  have hv := HV.out.trans (hb.mono HV.out.size)
  have xTA := TA.out.below hb TA.out.lt
  clear hb HV TA
  have HV := Lib.hid hv
  have TA := Lib.hid xTA
  clear hv xTA
  go_wp2_with fail
  refine (pparse_any s _).mono ?_
  rw [HP.out]
  rintro e w2 ⟨rfl, hb⟩
  have hv := HV.out.trans (hb.mono HV.out.size)
  have xTA := TA.out.below hb TA.out.lt
  clear hb HV TA
  have HV := Lib.hid hv
  have TA := Lib.hid xTA
  clear hv xTA
  go_wp2_with fail
  have hv := HV.out
  have hv := hv.alloc hv.size (.cells #[.int .u32 a, .int .i64 k] 25)
  have xTA := (TA.out).alloc (.cells #[.int .u32 a, .int .i64 k] 25)
  have xTQ : Blk (w2.alloc (.cells #[.int .u32 a, .int .i64 k] 25)) (w2.heap.size) 25 #[.int .u32 a, .int .i64 k] := by
    have := Blk.new w2 25 #[.int .u32 a, .int .i64 k]
    simpa using this
  generalize hvv : (w2.alloc (.cells #[.int .u32 a, .int .i64 k] 25)) = v2 at *
  clear hvv
  generalize w2.heap.size = gTQ at *
  clear HV TA
  have HV := Lib.hid hv
  have TA := Lib.hid xTA
  have TQ := Lib.hid xTQ
  clear hv xTA xTQ
  refine (refPParse_hit hs HH.out _ (HF.out.below HV.out)).mono ?_
  rintro e w3 ⟨rfl, hb⟩
  have hv := HV.out.trans (hb.mono HV.out.size)
  have xTA := TA.out.below hb TA.out.lt
  have xTQ := TQ.out.below hb TQ.out.lt
  clear hb HV TA TQ
  have HV := Lib.hid hv
  have TA := Lib.hid xTA
  have TQ := Lib.hid xTQ
  clear hv xTA xTQ
  have lTQ := TQ.out.lt
  have kTQ0 := TQ.out.cell 0
  have kTQ1 := TQ.out.cell 1
  simp only [List.getElem?_toArray, List.getElem?_cons_zero, List.getElem?_cons_succ] at kTQ0 kTQ1
  go_wp2_with fail
  clear lTQ kTQ0 kTQ1
  have hv := HV.out
  have hv := hv.alloc hv.size (.cells #[.int .u32 a, .int .i64 k] 25)
  have xTA := (TA.out).alloc (.cells #[.int .u32 a, .int .i64 k] 25)
  have xTQ := (TQ.out).alloc (.cells #[.int .u32 a, .int .i64 k] 25)
  have xTW : Blk (w3.alloc (.cells #[.int .u32 a, .int .i64 k] 25)) (w3.heap.size) 25 #[.int .u32 a, .int .i64 k] := by
    have := Blk.new w3 25 #[.int .u32 a, .int .i64 k]
    simpa using this
  generalize hvv : (w3.alloc (.cells #[.int .u32 a, .int .i64 k] 25)) = v3 at *
  clear hvv
  generalize w3.heap.size = gTW at *
  clear HV TA TQ
  have HV := Lib.hid hv
  have TA := Lib.hid xTA
  have TQ := Lib.hid xTQ
  have TW := Lib.hid xTW
  clear hv xTA xTQ xTW
  have lTQ := TQ.out.lt
  have kTQ0 := TQ.out.cell 0
  have kTQ1 := TQ.out.cell 1
  have lTA := TA.out.lt
  have kTA0 := TA.out.cell 0
  have kTA1 := TA.out.cell 1
  simp only [List.getElem?_toArray, List.getElem?_cons_zero, List.getElem?_cons_succ] at kTQ0 kTQ1 kTA0 kTA1
  refine (num02_any _ _).mono ?_
  rintro e wn4 ⟨rfl, rfl⟩
  go_wp2_with fail
  refine (text2_any a k HA0.out HA1.out HH.out.2.1 _ (HF.out.below HV.out)).mono ?_
  rw [HS.out]
  rintro e w5 ⟨rfl, hb⟩
  clear lTQ lTA kTQ0 kTQ1 kTA0 kTA1
  have hv := HV.out.trans (hb.mono HV.out.size)
  have xTA := TA.out.below hb TA.out.lt
  have xTQ := TQ.out.below hb TQ.out.lt
  have xTW := TW.out.below hb TW.out.lt
  clear hb HV TA TQ TW
  have HV := Lib.hid hv
  have TA := Lib.hid xTA
  have TQ := Lib.hid xTQ
  have TW := Lib.hid xTW
  clear hv xTA xTQ xTW
  have lTA := TA.out.lt
  have kTA0 := TA.out.cell 0
  have kTA1 := TA.out.cell 1
  simp only [List.getElem?_toArray, List.getElem?_cons_zero, List.getElem?_cons_succ] at kTA0 kTA1
  go_wp2_with fail
  refine (num02_any _ _).mono ?_
  rintro e wn6 ⟨rfl, rfl⟩
  go_wp2_with fail
  refine (refRight_any x n x0 x1 _).mono ?_
  rw [HRR.out]
  rintro e w7 ⟨rfl, hb⟩
  clear lTA kTA0 kTA1
  have hv := HV.out.trans (hb.mono HV.out.size)
  have xTA := TA.out.below hb TA.out.lt
  have xTQ := TQ.out.below hb TQ.out.lt
  have xTW := TW.out.below hb TW.out.lt
  clear hb HV TA TQ TW
  have HV := Lib.hid hv
  have TA := Lib.hid xTA
  have TQ := Lib.hid xTQ
  have TW := Lib.hid xTW
  clear hv xTA xTQ xTW
  have lTA := TA.out.lt
  have kTA0 := TA.out.cell 0
  have kTA1 := TA.out.cell 1
  simp only [List.getElem?_toArray, List.getElem?_cons_zero, List.getElem?_cons_succ] at kTA0 kTA1
  go_wp2_with fail
  refine (num02_any _ _).mono ?_
  rintro e wn8 ⟨rfl, rfl⟩
  go_wp2_with fail
  refine (works02_any _).mono ?_
  rintro e w9 ⟨rfl, hb⟩
  clear lTA kTA0 kTA1
  have hv := HV.out.trans (hb.mono HV.out.size)
  have xTA := TA.out.below hb TA.out.lt
  have xTQ := TQ.out.below hb TQ.out.lt
  have xTW := TW.out.below hb TW.out.lt
  clear hb HV TA TQ TW
  have HV := Lib.hid hv
  have TA := Lib.hid xTA
  have TQ := Lib.hid xTQ
  have TW := Lib.hid xTW
  clear hv xTA xTQ xTW
  go_wp2_with fail
  go_ret
  exact ⟨rfl, HV.out⟩

set_option maxRecDepth 100000 in
set_option maxHeartbeats 3200000 in
theorem law02_texts_mr (x : Int) (N : Nat) (s : ByteArray) (x0 : 0 ≤ x) (x1 : x < 4294967296) (hr : right x N) (hs : s.size ≤ 60) (hh : ∀ a n, ¬ RefHit s.data.toList a n) (w : World) (hF : Fit w) :
    Calls Tryd.prog 3 #[pfx x N, .string s] w fun e w' => e = .returned (.bool true) ∧ Below w.heap.size w w' := by
  have HF := Lib.hid hF
  have HH := Lib.hid hh
  have HR := Lib.hid hr
  have HRR : Hid (decide (right x N) = true) := by show decide _ = _; simpa using hr
  have HP : Hid (pparseEnd s.data.toList = .returned (.tuple #[.agg #[.int .u32 0, .int .i64 0], .int .i64 120])) := pparseEnd_none (by
    cases hp : pparse s.data.toList with
    | none => rfl
    | some q =>
      obtain ⟨j, _, hj⟩ := pparse_refHit (l := s.data.toList) (a := q.1) (n := q.2) hp
      exact absurd hj (hh _ _))
  have HP2 := Lib.hid (pparseEnd_some (ptxt_parse x0 x1 hr))
  have hN : N ≤ 32 := by have := hr.2.1; omega
  clear hF hh hr
  go_enter Tryd.func3, Tryd.ntmps3
  go_wp2_with fail
  have hv := Below.refl w.heap.size w
  have hv := hv.alloc hv.size (.cells #[.int .u32 x, .int .i64 N] 25)
  have xTA : Blk (w.alloc (.cells #[.int .u32 x, .int .i64 N] 25)) (w.heap.size) 25 #[.int .u32 x, .int .i64 N] := by
    have := Blk.new w 25 #[.int .u32 x, .int .i64 N]
    simpa using this
  generalize hvv : (w.alloc (.cells #[.int .u32 x, .int .i64 N] 25)) = v1 at *
  clear hvv
  have HV := Lib.hid hv
  have TA := Lib.hid xTA
  clear hv xTA
  refine (text2_any x N x0 x1 HR.out _ (HF.out.below HV.out)).mono ?_
  rintro e w1 ⟨rfl, hb⟩
  have hv := HV.out.trans (hb.mono HV.out.size)
  have xTA := TA.out.below hb TA.out.lt
  clear hb HV TA
  have HV := Lib.hid hv
  have TA := Lib.hid xTA
  clear hv xTA
  go_wp2_with fail
  refine (pparse_any s _).mono ?_
  rw [HP.out]
  rintro e w2 ⟨rfl, hb⟩
  have hv := HV.out.trans (hb.mono HV.out.size)
  have xTA := TA.out.below hb TA.out.lt
  clear hb HV TA
  have HV := Lib.hid hv
  have TA := Lib.hid xTA
  clear hv xTA
  go_wp2_with fail
  have hv := HV.out
  have hv := hv.alloc hv.size (.cells #[.int .u32 0, .int .i64 0] 25)
  have xTA := (TA.out).alloc (.cells #[.int .u32 0, .int .i64 0] 25)
  have xTQ : Blk (w2.alloc (.cells #[.int .u32 0, .int .i64 0] 25)) (w2.heap.size) 25 #[.int .u32 0, .int .i64 0] := by
    have := Blk.new w2 25 #[.int .u32 0, .int .i64 0]
    simpa using this
  generalize hvv : (w2.alloc (.cells #[.int .u32 0, .int .i64 0] 25)) = v2 at *
  clear hvv
  generalize w2.heap.size = gTQ at *
  clear HV TA
  have HV := Lib.hid hv
  have TA := Lib.hid xTA
  have TQ := Lib.hid xTQ
  clear hv xTA xTQ
  refine (refPParse_miss hs HH.out _ (HF.out.below HV.out)).mono ?_
  rintro e w3 ⟨rfl, hb⟩
  have hv := HV.out.trans (hb.mono HV.out.size)
  have xTA := TA.out.below hb TA.out.lt
  have xTQ := TQ.out.below hb TQ.out.lt
  clear hb HV TA TQ
  have HV := Lib.hid hv
  have TA := Lib.hid xTA
  have TQ := Lib.hid xTQ
  clear hv xTA xTQ
  have lTQ := TQ.out.lt
  have kTQ0 := TQ.out.cell 0
  have kTQ1 := TQ.out.cell 1
  simp only [List.getElem?_toArray, List.getElem?_cons_zero, List.getElem?_cons_succ] at kTQ0 kTQ1
  go_wp2_with fail
  clear lTQ kTQ0 kTQ1
  have hv := HV.out
  have hv := hv.alloc hv.size (.cells #[.int .u32 0, .int .i64 0] 25)
  have xTA := (TA.out).alloc (.cells #[.int .u32 0, .int .i64 0] 25)
  have xTQ := (TQ.out).alloc (.cells #[.int .u32 0, .int .i64 0] 25)
  have xTW : Blk (w3.alloc (.cells #[.int .u32 0, .int .i64 0] 25)) (w3.heap.size) 25 #[.int .u32 0, .int .i64 0] := by
    have := Blk.new w3 25 #[.int .u32 0, .int .i64 0]
    simpa using this
  generalize hvv : (w3.alloc (.cells #[.int .u32 0, .int .i64 0] 25)) = v3 at *
  clear hvv
  generalize w3.heap.size = gTW at *
  clear HV TA TQ
  have HV := Lib.hid hv
  have TA := Lib.hid xTA
  have TQ := Lib.hid xTQ
  have TW := Lib.hid xTW
  clear hv xTA xTQ xTW
  have lTQ := TQ.out.lt
  have kTQ0 := TQ.out.cell 0
  have kTQ1 := TQ.out.cell 1
  have lTA := TA.out.lt
  have kTA0 := TA.out.cell 0
  have kTA1 := TA.out.cell 1
  simp only [List.getElem?_toArray, List.getElem?_cons_zero, List.getElem?_cons_succ] at kTQ0 kTQ1 kTA0 kTA1
  refine (num02_any _ _).mono ?_
  rintro e wn4 ⟨rfl, rfl⟩
  go_wp2_with fail
  refine (refRight_any x N x0 x1 _).mono ?_
  rw [HRR.out]
  rintro e w5 ⟨rfl, hb⟩
  clear lTQ lTA kTQ0 kTQ1 kTA0 kTA1
  have hv := HV.out.trans (hb.mono HV.out.size)
  have xTA := TA.out.below hb TA.out.lt
  have xTQ := TQ.out.below hb TQ.out.lt
  have xTW := TW.out.below hb TW.out.lt
  clear hb HV TA TQ TW
  have HV := Lib.hid hv
  have TA := Lib.hid xTA
  have TQ := Lib.hid xTQ
  have TW := Lib.hid xTW
  clear hv xTA xTQ xTW
  have lTA := TA.out.lt
  have kTA0 := TA.out.cell 0
  have kTA1 := TA.out.cell 1
  simp only [List.getElem?_toArray, List.getElem?_cons_zero, List.getElem?_cons_succ] at kTA0 kTA1
  go_wp2_with fail
  refine (pparse_any _ _).mono ?_
  rw [show pparseEnd (ByteArray.mk (ptxt x N).toArray).data.toList = _ from HP2.out]
  rintro e w6 ⟨rfl, hb⟩
  clear lTA kTA0 kTA1
  have hv := HV.out.trans (hb.mono HV.out.size)
  have xTA := TA.out.below hb TA.out.lt
  have xTQ := TQ.out.below hb TQ.out.lt
  have xTW := TW.out.below hb TW.out.lt
  clear hb HV TA TQ TW
  have HV := Lib.hid hv
  have TA := Lib.hid xTA
  have TQ := Lib.hid xTQ
  have TW := Lib.hid xTW
  clear hv xTA xTQ xTW
  have lTA := TA.out.lt
  have kTA0 := TA.out.cell 0
  have kTA1 := TA.out.cell 1
  simp only [List.getElem?_toArray, List.getElem?_cons_zero, List.getElem?_cons_succ] at kTA0 kTA1
  go_wp2_with fail
  clear lTA kTA0 kTA1
  have hv := HV.out
  have hv := hv.alloc hv.size (.cells #[.int .u32 x, .int .i64 N] 25)
  have xTA := (TA.out).alloc (.cells #[.int .u32 x, .int .i64 N] 25)
  have xTQ := (TQ.out).alloc (.cells #[.int .u32 x, .int .i64 N] 25)
  have xTW := (TW.out).alloc (.cells #[.int .u32 x, .int .i64 N] 25)
  have xTR : Blk (w6.alloc (.cells #[.int .u32 x, .int .i64 N] 25)) (w6.heap.size) 25 #[.int .u32 x, .int .i64 N] := by
    have := Blk.new w6 25 #[.int .u32 x, .int .i64 N]
    simpa using this
  generalize hvv : (w6.alloc (.cells #[.int .u32 x, .int .i64 N] 25)) = v4 at *
  clear hvv
  generalize w6.heap.size = gTR at *
  clear HV TA TQ TW
  have HV := Lib.hid hv
  have TA := Lib.hid xTA
  have TQ := Lib.hid xTQ
  have TW := Lib.hid xTW
  have TR := Lib.hid xTR
  clear hv xTA xTQ xTW xTR
  refine (refText2_any x N x0 x1 hN _ (HF.out.below HV.out)).mono ?_
  rintro e w7 ⟨rfl, hb⟩
  have hv := HV.out.trans (hb.mono HV.out.size)
  have xTA := TA.out.below hb TA.out.lt
  have xTQ := TQ.out.below hb TQ.out.lt
  have xTW := TW.out.below hb TW.out.lt
  have xTR := TR.out.below hb TR.out.lt
  clear hb HV TA TQ TW TR
  have HV := Lib.hid hv
  have TA := Lib.hid xTA
  have TQ := Lib.hid xTQ
  have TW := Lib.hid xTW
  have TR := Lib.hid xTR
  clear hv xTA xTQ xTW xTR
  have lTA := TA.out.lt
  have kTA0 := TA.out.cell 0
  have kTA1 := TA.out.cell 1
  have lTR := TR.out.lt
  have kTR0 := TR.out.cell 0
  have kTR1 := TR.out.cell 1
  simp only [List.getElem?_toArray, List.getElem?_cons_zero, List.getElem?_cons_succ] at kTA0 kTA1 kTR0 kTR1
  go_wp2_with fail
  refine (num02_any _ _).mono ?_
  rintro e wn8 ⟨rfl, rfl⟩
  go_wp2_with fail
  refine (num02_any _ _).mono ?_
  rintro e wn9 ⟨rfl, rfl⟩
  go_wp2_with fail
  refine (works02_any _).mono ?_
  rintro e w10 ⟨rfl, hb⟩
  clear lTA lTR kTA0 kTA1 kTR0 kTR1
  have hv := HV.out.trans (hb.mono HV.out.size)
  have xTA := TA.out.below hb TA.out.lt
  have xTQ := TQ.out.below hb TQ.out.lt
  have xTW := TW.out.below hb TW.out.lt
  have xTR := TR.out.below hb TR.out.lt
  clear hb HV TA TQ TW TR
  have HV := Lib.hid hv
  have TA := Lib.hid xTA
  have TQ := Lib.hid xTQ
  have TW := Lib.hid xTW
  have TR := Lib.hid xTR
  clear hv xTA xTQ xTW xTR
  go_wp2_with fail
  go_ret
  exact ⟨rfl, HV.out⟩

set_option maxRecDepth 100000 in
set_option maxHeartbeats 3200000 in
theorem law02_texts_mw (x n : Int) (s : ByteArray) (x0 : 0 ≤ x) (x1 : x < 4294967296) (hr : ¬ right x n) (hs : s.size ≤ 60) (hh : ∀ a n, ¬ RefHit s.data.toList a n) (w : World) (hF : Fit w) :
    Calls Tryd.prog 3 #[pfx x n, .string s] w fun e w' => e = .returned (.bool true) ∧ Below w.heap.size w w' := by
  have HF := Lib.hid hF
  have HH := Lib.hid hh
  have HR := Lib.hid hr
  have HRR : Hid (decide (right x n) = false) := by show decide _ = _; simpa using hr
  have HP : Hid (pparseEnd s.data.toList = .returned (.tuple #[.agg #[.int .u32 0, .int .i64 0], .int .i64 120])) := pparseEnd_none (by
    cases hp : pparse s.data.toList with
    | none => rfl
    | some q =>
      obtain ⟨j, _, hj⟩ := pparse_refHit (l := s.data.toList) (a := q.1) (n := q.2) hp
      exact absurd hj (hh _ _))
  clear hF hh hr
  go_enter Tryd.func3, Tryd.ntmps3
  go_wp2_with fail
  have hv := Below.refl w.heap.size w
  have hv := hv.alloc hv.size (.cells #[.int .u32 x, .int .i64 n] 25)
  have xTA : Blk (w.alloc (.cells #[.int .u32 x, .int .i64 n] 25)) (w.heap.size) 25 #[.int .u32 x, .int .i64 n] := by
    have := Blk.new w 25 #[.int .u32 x, .int .i64 n]
    simpa using this
  generalize hvv : (w.alloc (.cells #[.int .u32 x, .int .i64 n] 25)) = v1 at *
  clear hvv
  have HV := Lib.hid hv
  have TA := Lib.hid xTA
  clear hv xTA
  refine (text2_no x n x0 x1 HR.out _).mono ?_
  rintro e w1 ⟨rfl, hb⟩
  have hv := HV.out.trans (hb.mono HV.out.size)
  have xTA := TA.out.below hb TA.out.lt
  clear hb HV TA
  have HV := Lib.hid hv
  have TA := Lib.hid xTA
  clear hv xTA
  go_wp2_with fail
  refine (pparse_any s _).mono ?_
  rw [HP.out]
  rintro e w2 ⟨rfl, hb⟩
  have hv := HV.out.trans (hb.mono HV.out.size)
  have xTA := TA.out.below hb TA.out.lt
  clear hb HV TA
  have HV := Lib.hid hv
  have TA := Lib.hid xTA
  clear hv xTA
  go_wp2_with fail
  have hv := HV.out
  have hv := hv.alloc hv.size (.cells #[.int .u32 0, .int .i64 0] 25)
  have xTA := (TA.out).alloc (.cells #[.int .u32 0, .int .i64 0] 25)
  have xTQ : Blk (w2.alloc (.cells #[.int .u32 0, .int .i64 0] 25)) (w2.heap.size) 25 #[.int .u32 0, .int .i64 0] := by
    have := Blk.new w2 25 #[.int .u32 0, .int .i64 0]
    simpa using this
  generalize hvv : (w2.alloc (.cells #[.int .u32 0, .int .i64 0] 25)) = v2 at *
  clear hvv
  generalize w2.heap.size = gTQ at *
  clear HV TA
  have HV := Lib.hid hv
  have TA := Lib.hid xTA
  have TQ := Lib.hid xTQ
  clear hv xTA xTQ
  refine (refPParse_miss hs HH.out _ (HF.out.below HV.out)).mono ?_
  rintro e w3 ⟨rfl, hb⟩
  have hv := HV.out.trans (hb.mono HV.out.size)
  have xTA := TA.out.below hb TA.out.lt
  have xTQ := TQ.out.below hb TQ.out.lt
  clear hb HV TA TQ
  have HV := Lib.hid hv
  have TA := Lib.hid xTA
  have TQ := Lib.hid xTQ
  clear hv xTA xTQ
  have lTQ := TQ.out.lt
  have kTQ0 := TQ.out.cell 0
  have kTQ1 := TQ.out.cell 1
  simp only [List.getElem?_toArray, List.getElem?_cons_zero, List.getElem?_cons_succ] at kTQ0 kTQ1
  go_wp2_with fail
  clear lTQ kTQ0 kTQ1
  have hv := HV.out
  have hv := hv.alloc hv.size (.cells #[.int .u32 0, .int .i64 0] 25)
  have xTA := (TA.out).alloc (.cells #[.int .u32 0, .int .i64 0] 25)
  have xTQ := (TQ.out).alloc (.cells #[.int .u32 0, .int .i64 0] 25)
  have xTW : Blk (w3.alloc (.cells #[.int .u32 0, .int .i64 0] 25)) (w3.heap.size) 25 #[.int .u32 0, .int .i64 0] := by
    have := Blk.new w3 25 #[.int .u32 0, .int .i64 0]
    simpa using this
  generalize hvv : (w3.alloc (.cells #[.int .u32 0, .int .i64 0] 25)) = v3 at *
  clear hvv
  generalize w3.heap.size = gTW at *
  clear HV TA TQ
  have HV := Lib.hid hv
  have TA := Lib.hid xTA
  have TQ := Lib.hid xTQ
  have TW := Lib.hid xTW
  clear hv xTA xTQ xTW
  have lTQ := TQ.out.lt
  have kTQ0 := TQ.out.cell 0
  have kTQ1 := TQ.out.cell 1
  have lTA := TA.out.lt
  have kTA0 := TA.out.cell 0
  have kTA1 := TA.out.cell 1
  simp only [List.getElem?_toArray, List.getElem?_cons_zero, List.getElem?_cons_succ] at kTQ0 kTQ1 kTA0 kTA1
  refine (num02_any _ _).mono ?_
  rintro e wn4 ⟨rfl, rfl⟩
  go_wp2_with fail
  refine (refRight_any x n x0 x1 _).mono ?_
  rw [HRR.out]
  rintro e w5 ⟨rfl, hb⟩
  clear lTQ lTA kTQ0 kTQ1 kTA0 kTA1
  have hv := HV.out.trans (hb.mono HV.out.size)
  have xTA := TA.out.below hb TA.out.lt
  have xTQ := TQ.out.below hb TQ.out.lt
  have xTW := TW.out.below hb TW.out.lt
  clear hb HV TA TQ TW
  have HV := Lib.hid hv
  have TA := Lib.hid xTA
  have TQ := Lib.hid xTQ
  have TW := Lib.hid xTW
  clear hv xTA xTQ xTW
  have lTA := TA.out.lt
  have kTA0 := TA.out.cell 0
  have kTA1 := TA.out.cell 1
  simp only [List.getElem?_toArray, List.getElem?_cons_zero, List.getElem?_cons_succ] at kTA0 kTA1
  go_wp2_with fail
  refine (num02_any _ _).mono ?_
  rintro e wn6 ⟨rfl, rfl⟩
  go_wp2_with fail
  refine (works02_any _).mono ?_
  rintro e w7 ⟨rfl, hb⟩
  clear lTA kTA0 kTA1
  have hv := HV.out.trans (hb.mono HV.out.size)
  have xTA := TA.out.below hb TA.out.lt
  have xTQ := TQ.out.below hb TQ.out.lt
  have xTW := TW.out.below hb TW.out.lt
  clear hb HV TA TQ TW
  have HV := Lib.hid hv
  have TA := Lib.hid xTA
  have TQ := Lib.hid xTQ
  have TW := Lib.hid xTW
  clear hv xTA xTQ xTW
  go_wp2_with fail
  go_ret
  exact ⟨rfl, HV.out⟩

theorem law02_texts (x n : Int) (s : ByteArray) (x0 : 0 ≤ x) (x1 : x < 4294967296) (w : World) (hF : Fit w) :
    Calls Tryd.prog 3 #[pfx x n, .string s] w fun e w' => e = .returned (.bool true) ∧ Below w.heap.size w w' := by
  by_cases hs : s.size ≤ 60
  · by_cases hh : ∃ (a : Int) (k : Nat), RefHit s.data.toList a k
    · obtain ⟨a, k, hh⟩ := hh
      by_cases hr : right x n
      · obtain ⟨N, rfl⟩ : ∃ N : Nat, n = N := ⟨n.toNat, by have := hr.1; omega⟩
        exact law02_texts_hr x N s x0 x1 hr hs a k hh w hF
      · exact law02_texts_hw x n s x0 x1 hr hs a k hh w hF
    · have hno : ∀ a n, ¬ RefHit s.data.toList a n := fun a k h => hh ⟨a, k, h⟩
      by_cases hr : right x n
      · obtain ⟨N, rfl⟩ : ∃ N : Nat, n = N := ⟨n.toNat, by have := hr.1; omega⟩
        exact law02_texts_mr x N s x0 x1 hr hs hno w hF
      · exact law02_texts_mw x n s x0 x1 hr hs hno w hF
  · exact law02_texts_big x n s (by omega) w
end Go.Proofs.YtabpkdblcinhjaaDoor
