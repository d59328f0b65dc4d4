/- Layer 4's reference: Read. -/
import Derived.Test.YtehhablobfaplaaDoorW15
import Derived.Test.YtehhablobfaplaaDoorW9
namespace Go.Proofs.YtehhablobfaplaaDoor
open Go Go.RowKit
attribute [local go_sem] Oper.semAt_some

theorem refRow {p : Option Addr} {c : Nat} {xs : List Int} (hb : IsBytes xs) (hn : xs.length ≤ 1000000) {a k : Nat} (hk : k = 2 ∨ k = 4) (h : a + k ≤ xs.length) {v : Int} (hv : valB ((xs.drop a).take k) = v) (W : World) (hx : ByS W p xs) :
    Calls Tryd.prog 65 #[.slice p xs.length c, .int .i64 a, .int .i64 k] W fun e w' => e = .returned (.tuple #[.int .u32 v, .int .i64 0]) ∧ Below W.heap.size W w' := by
  have := refRead_any p c xs hb hn a k W hx
  rw [read_n hk h, read_no hk (by omega), if_pos h, hv] at this
  exact this


set_option maxRecDepth 100000 in
set_option maxHeartbeats 3200000 in
theorem refRead4_any (p : Option Addr) (c : Nat) (xs : List Int) (hb : IsBytes xs) (hn : xs.length ≤ 1000000) (w : World) (hx : ByS w p xs) :
    Calls Tryd.prog 52 #[.slice p xs.length c] w fun e w' => e = .returned (.tuple #[entV (rdV xs), .int .i64 (rdNo xs)]) ∧ Below w.heap.size w w' := by
  by_cases hl : 20 ≤ xs.length
  · skip
    have e1 : rdV xs = readE xs := if_pos hl
    have e2 : rdNo xs = 0 := if_pos hl
    rw [e1, e2]
    obtain ⟨r0, hv0⟩ : ∃ v, valB ((xs.drop 0).take 2) = v := ⟨_, rfl⟩
    have HR0 := Lib.hid (fun W (hW : ByS W p xs) => refRow (p := p) (c := c) hb hn (a := 0) (k := 2) (by omega) (by omega) hv0 W hW)
    obtain ⟨r1, hv1⟩ : ∃ v, valB ((xs.drop 2).take 2) = v := ⟨_, rfl⟩
    have HR1 := Lib.hid (fun W (hW : ByS W p xs) => refRow (p := p) (c := c) hb hn (a := 2) (k := 2) (by omega) (by omega) hv1 W hW)
    obtain ⟨r2, hv2⟩ : ∃ v, valB ((xs.drop 4).take 4) = v := ⟨_, rfl⟩
    have HR2 := Lib.hid (fun W (hW : ByS W p xs) => refRow (p := p) (c := c) hb hn (a := 4) (k := 4) (by omega) (by omega) hv2 W hW)
    obtain ⟨r3, hv3⟩ : ∃ v, valB ((xs.drop 8).take 4) = v := ⟨_, rfl⟩
    have HR3 := Lib.hid (fun W (hW : ByS W p xs) => refRow (p := p) (c := c) hb hn (a := 8) (k := 4) (by omega) (by omega) hv3 W hW)
    obtain ⟨r4, hv4⟩ : ∃ v, valB ((xs.drop 12).take 4) = v := ⟨_, rfl⟩
    have HR4 := Lib.hid (fun W (hW : ByS W p xs) => refRow (p := p) (c := c) hb hn (a := 12) (k := 4) (by omega) (by omega) hv4 W hW)
    obtain ⟨r5, hv5⟩ : ∃ v, valB ((xs.drop 16).take 4) = v := ⟨_, rfl⟩
    have HR5 := Lib.hid (fun W (hW : ByS W p xs) => refRow (p := p) (c := c) hb hn (a := 16) (k := 4) (by omega) (by omega) hv5 W hW)
    have hR : readE xs = ⟨r0, r1, r2, r3, r4, r5⟩ := by
      unfold readE
      rw [← hv0, ← hv1, ← hv2, ← hv3, ← hv4, ← hv5, List.drop_zero]
    have b0 := valB_lt (l := (xs.drop 0).take 2) ((hb.drop 0).take 2) (by simp; omega)
    have l0 : ((xs.drop 0).take 2).length = 2 := by simp; omega
    rw [l0, hv0] at b0
    have q00 : 0 ≤ r0 := b0.1
    have q01 : r0 < 65536 := b0.2
    have e3 : IntKind.i64.wrap r0 = r0 := by rw [IntKind.wrap_i64]; omega
    have b1 := valB_lt (l := (xs.drop 2).take 2) ((hb.drop 2).take 2) (by simp; omega)
    have l1 : ((xs.drop 2).take 2).length = 2 := by simp; omega
    rw [l1, hv1] at b1
    have q10 : 0 ≤ r1 := b1.1
    have q11 : r1 < 65536 := b1.2
    have e4 : IntKind.i64.wrap r1 = r1 := by rw [IntKind.wrap_i64]; omega
    rw [hR]
    have HX := Lib.hid hx
    have nl : ¬ (xs.length : Int) < 20 := by omega
    clear hx hb e1 e2 hR hv0 hv1 hv2 hv3 hv4 hv5 b0 b1 l0 l1
    go_enter Tryd.func52, Tryd.ntmps52
    go_wp2_with fail
    have hv := Below.refl w.heap.size w
    have hv := hv.alloc hv.size (.cells #[.int .i64 0, .int .i64 0, .int .u32 0, .int .u32 0, .int .u32 0, .int .u32 0] 55)
    have xTR : Blk (w.alloc (.cells #[.int .i64 0, .int .i64 0, .int .u32 0, .int .u32 0, .int .u32 0, .int .u32 0] 55)) (w.heap.size) 55 #[.int .i64 0, .int .i64 0, .int .u32 0, .int .u32 0, .int .u32 0, .int .u32 0] := by
      have := Blk.new w 55 #[.int .i64 0, .int .i64 0, .int .u32 0, .int .u32 0, .int .u32 0, .int .u32 0]
      simpa using this
    generalize hvv : (w.alloc (.cells #[.int .i64 0, .int .i64 0, .int .u32 0, .int .u32 0, .int .u32 0, .int .u32 0] 55)) = v1 at *
    clear hvv
    have HV := Lib.hid hv
    have TR := Lib.hid xTR
    clear hv xTR
    refine (HR0.out _ (HX.out.below HV.out)).mono ?_
    rintro e w1 ⟨rfl, hb⟩
    have hv := HV.out.trans (hb.mono HV.out.size)
    have xTR := TR.out.below hb TR.out.lt
    clear hb HV TR
    have HV := Lib.hid hv
    have TR := Lib.hid xTR
    clear hv xTR
    go_wp2_with fail
    refine (HR1.out _ (HX.out.below HV.out)).mono ?_
    rintro e w2 ⟨rfl, hb⟩
    have hv := HV.out.trans (hb.mono HV.out.size)
    have xTR := TR.out.below hb TR.out.lt
    clear hb HV TR
    have HV := Lib.hid hv
    have TR := Lib.hid xTR
    clear hv xTR
    go_wp2_with fail
    refine (HR2.out _ (HX.out.below HV.out)).mono ?_
    rintro e w3 ⟨rfl, hb⟩
    have hv := HV.out.trans (hb.mono HV.out.size)
    have xTR := TR.out.below hb TR.out.lt
    clear hb HV TR
    have HV := Lib.hid hv
    have TR := Lib.hid xTR
    clear hv xTR
    go_wp2_with fail
    refine (HR3.out _ (HX.out.below HV.out)).mono ?_
    rintro e w4 ⟨rfl, hb⟩
    have hv := HV.out.trans (hb.mono HV.out.size)
    have xTR := TR.out.below hb TR.out.lt
    clear hb HV TR
    have HV := Lib.hid hv
    have TR := Lib.hid xTR
    clear hv xTR
    go_wp2_with fail
    refine (HR4.out _ (HX.out.below HV.out)).mono ?_
    rintro e w5 ⟨rfl, hb⟩
    have hv := HV.out.trans (hb.mono HV.out.size)
    have xTR := TR.out.below hb TR.out.lt
    clear hb HV TR
    have HV := Lib.hid hv
    have TR := Lib.hid xTR
    clear hv xTR
    go_wp2_with fail
    refine (HR5.out _ (HX.out.below HV.out)).mono ?_
    rintro e w6 ⟨rfl, hb⟩
    have hv := HV.out.trans (hb.mono HV.out.size)
    have xTR := TR.out.below hb TR.out.lt
    clear hb HV TR
    have HV := Lib.hid hv
    have TR := Lib.hid xTR
    clear hv xTR
    have lTR := TR.out.lt
    have kTR0 := TR.out.cell 0
    have kTR1 := TR.out.cell 1
    have kTR2 := TR.out.cell 2
    have kTR3 := TR.out.cell 3
    have kTR4 := TR.out.cell 4
    have kTR5 := TR.out.cell 5
    simp only [List.getElem?_toArray, List.getElem?_cons_zero, List.getElem?_cons_succ] at kTR0 kTR1 kTR2 kTR3 kTR4 kTR5
    have x0 := TR.out.frozen 0
    have x1 := TR.out.frozen 1
    have x2 := TR.out.frozen 2
    have x3 := TR.out.frozen 3
    have x4 := TR.out.frozen 4
    have x5 := TR.out.frozen 5
    go_wp2_with fail
    exact bodyPost_ret (v := .tuple #[entV ⟨r0, r1, r2, r3, r4, r5⟩, .int .i64 0]) (by simp [results, Tryd.results52, go_sem, kTR0, kTR1, kTR2, kTR3, kTR4, kTR5]) rfl ⟨rfl, (((((HV.out.setCell (by simp) _).setCell (by simp) _).setCell (by simp) _).setCell (by simp) _).setCell (by simp) _).setCell (by simp) _⟩
  · skip
    have e1 : rdV xs = ⟨0, 0, 0, 0, 0, 0⟩ := if_neg hl
    have e2 : rdNo xs = 130 := if_neg hl
    rw [e1, e2]
    have nl : (xs.length : Int) < 20 := by omega
    clear hx hb e1 e2
    go_enter Tryd.func52, Tryd.ntmps52
    go_wp2_with fail
    exact bodyPost_ret (v := .tuple #[entV ⟨0, 0, 0, 0, 0, 0⟩, .int .i64 130]) (by simp [results, Tryd.results52, go_sem]) rfl ⟨rfl, bigE w _⟩
end Go.Proofs.YtehhablobfaplaaDoor
