/- Layer 5's program: a reader's datagram, Decode, Check. -/
import Derived.Test.YtehhablobfaplaaDoorX5
import Derived.Test.YtehhablobfaplaaDoorZ2
namespace Go.Proofs.YtehhablobfaplaaDoor
open Go Go.RowKit Go.Shelf Go.Sort
attribute [local go_sem] Oper.semAt_some

/-- What is so of the first ones. -/
structure MOk (xs : List Int) (j : Nat) : Prop where
  m1 : 1 ≤ j → must1 xs = true
  m2 : 2 ≤ j → must2 xs = true
  m3 : 3 ≤ j → must3 xs = true
  m4 : 4 ≤ j → must4 xs = true
  m5 : 5 ≤ j → must5 xs = true
theorem MOk.zero {xs : List Int} (hb : IsBytes xs) (h : MOk xs 5) : chkNo xs = 0 := by
  rw [chk_musts hb]
  simp [h.m1 (by omega), h.m2 (by omega), h.m3 (by omega), h.m4 (by omega), h.m5 (by omega)]
theorem mOk_of {xs : List Int} (hb : IsBytes xs) (h : chkNo xs = 0) : MOk xs 5 := by
  rw [chk_musts hb] at h
  cases h1 : must1 xs with
  | false => simp [h1] at h
  | true =>
    cases h2 : must2 xs with
    | false => simp [h1, h2] at h
    | true =>
      cases h3 : must3 xs with
      | false => simp [h1, h2, h3] at h
      | true =>
        cases h4 : must4 xs with
        | false => simp [h1, h2, h3, h4] at h
        | true =>
          cases h5 : must5 xs with
          | false => simp [h1, h2, h3, h4, h5] at h
          | true => exact ⟨fun _ => h1, fun _ => h2, fun _ => h3, fun _ => h4, fun _ => h5⟩

/-- What the reader's function holds once it has the list. -/
structure DgC (w : World) (p : Option Addr) (n c : Nat) (W : World) : Prop where
  bl : Below w.heap.size w W
  r : Blk W w.heap.size 69 #[.slice p n c]
  d : Blk W (w.heap.size + 1) 25 #[.int .i64 0, .slice none 0 0]
  m : Blk W (w.heap.size + 1 + 1) 88 mustCs
theorem DgC.mono {w : World} {p : Option Addr} {n c : Nat} {W W' : World} (h : DgC w p n c W) (hb : Below (w.heap.size + 3) W W') : DgC w p n c W' :=
  ⟨h.bl.trans (hb.mono (by omega)), h.r.below hb (by omega), h.d.below hb (by omega), h.m.below hb (by omega)⟩

/-- How the reader's datagram ends. -/
def DgY (w : World) (xs : List Int) (e : Ending) (w' : World) : Prop := ∃ v, e = .returned (.agg #[.int .i64 (readN xs 0 1), v]) ∧ w'.ownsRow w.heap.size 55 6 v (ents (xs.drop 4)).length (entCs (ents (xs.drop 4)))

set_option maxRecDepth 100000 in
set_option maxHeartbeats 3200000 in
theorem datagram_no (p : Option Addr) (c : Nat) (xs : List Int) (hb : IsBytes xs) (hn : xs.length ≤ 1000000) (hc : xs.length ≤ c) (w : World) (hx : ByS w p xs) (hf : Fit3 w) (h0 : ¬ chkNo xs = 0) :
    Calls Tryd.prog 33 #[.agg #[.slice p xs.length c]] w fun e w' => e = gaveE (chkNo xs) ∧ Below w.heap.size w w' := by
  have HBX := Lib.hid hb
  have HX := Lib.hid hx
  have HF := Lib.hid hf
  have H0 := Lib.hid h0
  clear hb hx hf h0
  go_enter Tryd.func33, Tryd.ntmps33
  go_wp2_with fail
  refine (musts_any _).mono ?_
  rintro e w1 ⟨rfl, hk, hb1⟩
  obtain ⟨b1, b2, hbl⟩ := blks2 w _ _ _ _ hb1
  simp only [World.size_alloc] at hk
  have hs1 : w.heap.size + 3 ≤ w1.heap.size := by have := hk.lt; omega
  have HC0 : Hid (DgC w p xs.length c w1) := Lib.hid ⟨hbl, b1, b2, hk⟩
  clear hk hb1 b1 b2 hbl
  simp only [World.size_alloc]
  go_wp2_with fail
  go_loopw [10] (fun a wr => ∃ j : Nat, j ≤ 5 ∧ a = .int .i64 j ∧ Hid (MOk xs j) ∧ Hid (DgC w p xs.length c wr) ∧ Hid (w.heap.size + 3 ≤ wr.heap.size)) (fun a _ => 5 - (intOf a).toNat)
  case atStart => exact ⟨0, by omega, rfl, Lib.hid ⟨fun h => by omega, fun h => by omega, fun h => by omega, fun h => by omega, fun h => by omega⟩, HC0, Lib.hid hs1⟩
  case round =>
    obtain ⟨j, hj, rfl, HM, HC, HS⟩ := hrel
    have hs3 := HS.out
    have hl0 : w.heap.size < wr.heap.size := by omega
    match j, hj, HM with
    | 0, _, HM =>
      have k0 := HC.out.m.cell 0
      have k1 := HC.out.m.cell 1
      have r0 := HC.out.r.cell 0
      simp only [mustCs, List.getElem?_toArray, List.getElem?_cons_zero, List.getElem?_cons_succ] at k0 k1 r0
      have HC1 := Lib.hid (HC.out.mono ((Below.refl _ _).alloc hs3 (.cells #[.func (.func 58) #[] #[], .int .i64 150] 88)))
      have HBW := Lib.hid HC1.out.bl
      have HS1 : Hid (w.heap.size + 3 ≤ (wr.alloc (.cells #[.func (.func 58) #[] #[], .int .i64 150] 88)).heap.size) := Lib.hid (by simp; omega)
      have hr := must1_any p c xs (wr.alloc (.cells #[.func (.func 58) #[] #[], .int .i64 150] 88))
      by_cases hm : must1 xs = true
      · rw [hm] at hr
        have HM2 : Hid (MOk xs 1) := Lib.hid ⟨fun h => by first | exact HM.out.m1 (by omega) | exact hm | omega, fun h => by first | exact HM.out.m2 (by omega) | exact hm | omega, fun h => by first | exact HM.out.m3 (by omega) | exact hm | omega, fun h => by first | exact HM.out.m4 (by omega) | exact hm | omega, fun h => by first | exact HM.out.m5 (by omega) | exact hm | omega⟩
        clear hm
        have HR := Lib.hid hr
        clear hr
        go_wp2_with fail
        refine HR.out.mono ?_
        rintro e w2 ⟨rfl, hb⟩
        have HC2 := Lib.hid (HC1.out.mono (hb.mono HS1.out))
        have HS2 : Hid (w.heap.size + 3 ≤ w2.heap.size) := Lib.hid (Nat.le_trans HS1.out hb.size)
        clear hb HC HC1 HR HBW HS1 k0 k1 r0 hl0
        go_wp2_with fail
        go_roundw
        case rel => exact ⟨1, by omega, by go_num, HM2, HC2, HS2⟩
        case measure => simp [intOf]
      · have hm : must1 xs = false := by simpa using hm
        rw [hm] at hr
        have HNO : Hid (chkNo xs = 150) := Lib.hid (by
          rw [chk_musts HBX.out]
          simp [hm])
        clear hm
        have HR := Lib.hid hr
        clear hr
        go_wp2_with fail
        refine HR.out.mono ?_
        rintro e w2 ⟨rfl, hb⟩
        have HC2 := Lib.hid (HC1.out.mono (hb.mono HS1.out))
        have HS2 : Hid (w.heap.size + 3 ≤ w2.heap.size) := Lib.hid (Nat.le_trans HS1.out hb.size)
        have z1 := (Blk.new wr 88 #[.func (.func 58) #[] #[], .int .i64 150]).below hb (by simp)
        have z1 := z1.cell 1
        simp only [List.getElem?_toArray, List.getElem?_cons_zero, List.getElem?_cons_succ] at z1
        clear hb HC HC1 HR HBW HS1 k0 k1 r0 hl0
        go_wp2_with fail
        exact ⟨rfl, by rw [HNO.out], HC2.out.bl⟩
    | 1, _, HM =>
      have k0 := HC.out.m.cell 2
      have k1 := HC.out.m.cell 3
      have r0 := HC.out.r.cell 0
      simp only [mustCs, List.getElem?_toArray, List.getElem?_cons_zero, List.getElem?_cons_succ] at k0 k1 r0
      have HC1 := Lib.hid (HC.out.mono ((Below.refl _ _).alloc hs3 (.cells #[.func (.func 59) #[] #[], .int .i64 151] 88)))
      have HBW := Lib.hid HC1.out.bl
      have HS1 : Hid (w.heap.size + 3 ≤ (wr.alloc (.cells #[.func (.func 59) #[] #[], .int .i64 151] 88)).heap.size) := Lib.hid (by simp; omega)
      have hr := must2_any p c xs hn hc _ (HX.out.below HBW.out)
      by_cases hm : must2 xs = true
      · rw [hm] at hr
        have HM2 : Hid (MOk xs 2) := Lib.hid ⟨fun h => by first | exact HM.out.m1 (by omega) | exact hm | omega, fun h => by first | exact HM.out.m2 (by omega) | exact hm | omega, fun h => by first | exact HM.out.m3 (by omega) | exact hm | omega, fun h => by first | exact HM.out.m4 (by omega) | exact hm | omega, fun h => by first | exact HM.out.m5 (by omega) | exact hm | omega⟩
        clear hm
        have HR := Lib.hid hr
        clear hr
        go_wp2_with fail
        refine HR.out.mono ?_
        rintro e w2 ⟨rfl, hb⟩
        have HC2 := Lib.hid (HC1.out.mono (hb.mono HS1.out))
        have HS2 : Hid (w.heap.size + 3 ≤ w2.heap.size) := Lib.hid (Nat.le_trans HS1.out hb.size)
        clear hb HC HC1 HR HBW HS1 k0 k1 r0 hl0
        go_wp2_with fail
        go_roundw
        case rel => exact ⟨2, by omega, by go_num, HM2, HC2, HS2⟩
        case measure => simp [intOf]
      · have hm : must2 xs = false := by simpa using hm
        rw [hm] at hr
        have HNO : Hid (chkNo xs = 151) := Lib.hid (by
          rw [chk_musts HBX.out]
          simp [HM.out.m1 (by omega), hm])
        clear hm
        have HR := Lib.hid hr
        clear hr
        go_wp2_with fail
        refine HR.out.mono ?_
        rintro e w2 ⟨rfl, hb⟩
        have HC2 := Lib.hid (HC1.out.mono (hb.mono HS1.out))
        have HS2 : Hid (w.heap.size + 3 ≤ w2.heap.size) := Lib.hid (Nat.le_trans HS1.out hb.size)
        have z1 := (Blk.new wr 88 #[.func (.func 59) #[] #[], .int .i64 151]).below hb (by simp)
        have z1 := z1.cell 1
        simp only [List.getElem?_toArray, List.getElem?_cons_zero, List.getElem?_cons_succ] at z1
        clear hb HC HC1 HR HBW HS1 k0 k1 r0 hl0
        go_wp2_with fail
        exact ⟨rfl, by rw [HNO.out], HC2.out.bl⟩
    | 2, _, HM =>
      have k0 := HC.out.m.cell 4
      have k1 := HC.out.m.cell 5
      have r0 := HC.out.r.cell 0
      simp only [mustCs, List.getElem?_toArray, List.getElem?_cons_zero, List.getElem?_cons_succ] at k0 k1 r0
      have HC1 := Lib.hid (HC.out.mono ((Below.refl _ _).alloc hs3 (.cells #[.func (.func 61) #[] #[], .int .i64 152] 88)))
      have HBW := Lib.hid HC1.out.bl
      have HS1 : Hid (w.heap.size + 3 ≤ (wr.alloc (.cells #[.func (.func 61) #[] #[], .int .i64 152] 88)).heap.size) := Lib.hid (by simp; omega)
      have hr := must3_any p c xs HBX.out hn hc _ (HX.out.below HBW.out) (HF.out.below HBW.out)
      by_cases hm : must3 xs = true
      · rw [hm] at hr
        have HM2 : Hid (MOk xs 3) := Lib.hid ⟨fun h => by first | exact HM.out.m1 (by omega) | exact hm | omega, fun h => by first | exact HM.out.m2 (by omega) | exact hm | omega, fun h => by first | exact HM.out.m3 (by omega) | exact hm | omega, fun h => by first | exact HM.out.m4 (by omega) | exact hm | omega, fun h => by first | exact HM.out.m5 (by omega) | exact hm | omega⟩
        clear hm
        have HR := Lib.hid hr
        clear hr
        go_wp2_with fail
        refine HR.out.mono ?_
        rintro e w2 ⟨rfl, hb⟩
        have HC2 := Lib.hid (HC1.out.mono (hb.mono HS1.out))
        have HS2 : Hid (w.heap.size + 3 ≤ w2.heap.size) := Lib.hid (Nat.le_trans HS1.out hb.size)
        clear hb HC HC1 HR HBW HS1 k0 k1 r0 hl0
        go_wp2_with fail
        go_roundw
        case rel => exact ⟨3, by omega, by go_num, HM2, HC2, HS2⟩
        case measure => simp [intOf]
      · have hm : must3 xs = false := by simpa using hm
        rw [hm] at hr
        have HNO : Hid (chkNo xs = 152) := Lib.hid (by
          rw [chk_musts HBX.out]
          simp [HM.out.m1 (by omega), HM.out.m2 (by omega), hm])
        clear hm
        have HR := Lib.hid hr
        clear hr
        go_wp2_with fail
        refine HR.out.mono ?_
        rintro e w2 ⟨rfl, hb⟩
        have HC2 := Lib.hid (HC1.out.mono (hb.mono HS1.out))
        have HS2 : Hid (w.heap.size + 3 ≤ w2.heap.size) := Lib.hid (Nat.le_trans HS1.out hb.size)
        have z1 := (Blk.new wr 88 #[.func (.func 61) #[] #[], .int .i64 152]).below hb (by simp)
        have z1 := z1.cell 1
        simp only [List.getElem?_toArray, List.getElem?_cons_zero, List.getElem?_cons_succ] at z1
        clear hb HC HC1 HR HBW HS1 k0 k1 r0 hl0
        go_wp2_with fail
        exact ⟨rfl, by rw [HNO.out], HC2.out.bl⟩
    | 3, _, HM =>
      have k0 := HC.out.m.cell 6
      have k1 := HC.out.m.cell 7
      have r0 := HC.out.r.cell 0
      simp only [mustCs, List.getElem?_toArray, List.getElem?_cons_zero, List.getElem?_cons_succ] at k0 k1 r0
      have HC1 := Lib.hid (HC.out.mono ((Below.refl _ _).alloc hs3 (.cells #[.func (.func 63) #[] #[], .int .i64 153] 88)))
      have HBW := Lib.hid HC1.out.bl
      have HS1 : Hid (w.heap.size + 3 ≤ (wr.alloc (.cells #[.func (.func 63) #[] #[], .int .i64 153] 88)).heap.size) := Lib.hid (by simp; omega)
      have hr := must4_any p c xs HBX.out hn hc _ (HX.out.below HBW.out) (HF.out.below HBW.out)
      by_cases hm : must4 xs = true
      · rw [hm] at hr
        have HM2 : Hid (MOk xs 4) := Lib.hid ⟨fun h => by first | exact HM.out.m1 (by omega) | exact hm | omega, fun h => by first | exact HM.out.m2 (by omega) | exact hm | omega, fun h => by first | exact HM.out.m3 (by omega) | exact hm | omega, fun h => by first | exact HM.out.m4 (by omega) | exact hm | omega, fun h => by first | exact HM.out.m5 (by omega) | exact hm | omega⟩
        clear hm
        have HR := Lib.hid hr
        clear hr
        go_wp2_with fail
        refine HR.out.mono ?_
        rintro e w2 ⟨rfl, hb⟩
        have HC2 := Lib.hid (HC1.out.mono (hb.mono HS1.out))
        have HS2 : Hid (w.heap.size + 3 ≤ w2.heap.size) := Lib.hid (Nat.le_trans HS1.out hb.size)
        clear hb HC HC1 HR HBW HS1 k0 k1 r0 hl0
        go_wp2_with fail
        go_roundw
        case rel => exact ⟨4, by omega, by go_num, HM2, HC2, HS2⟩
        case measure => simp [intOf]
      · have hm : must4 xs = false := by simpa using hm
        rw [hm] at hr
        have HNO : Hid (chkNo xs = 153) := Lib.hid (by
          rw [chk_musts HBX.out]
          simp [HM.out.m1 (by omega), HM.out.m2 (by omega), HM.out.m3 (by omega), hm])
        clear hm
        have HR := Lib.hid hr
        clear hr
        go_wp2_with fail
        refine HR.out.mono ?_
        rintro e w2 ⟨rfl, hb⟩
        have HC2 := Lib.hid (HC1.out.mono (hb.mono HS1.out))
        have HS2 : Hid (w.heap.size + 3 ≤ w2.heap.size) := Lib.hid (Nat.le_trans HS1.out hb.size)
        have z1 := (Blk.new wr 88 #[.func (.func 63) #[] #[], .int .i64 153]).below hb (by simp)
        have z1 := z1.cell 1
        simp only [List.getElem?_toArray, List.getElem?_cons_zero, List.getElem?_cons_succ] at z1
        clear hb HC HC1 HR HBW HS1 k0 k1 r0 hl0
        go_wp2_with fail
        exact ⟨rfl, by rw [HNO.out], HC2.out.bl⟩
    | 4, _, HM =>
      have k0 := HC.out.m.cell 8
      have k1 := HC.out.m.cell 9
      have r0 := HC.out.r.cell 0
      simp only [mustCs, List.getElem?_toArray, List.getElem?_cons_zero, List.getElem?_cons_succ] at k0 k1 r0
      have HC1 := Lib.hid (HC.out.mono ((Below.refl _ _).alloc hs3 (.cells #[.func (.func 64) #[] #[], .int .i64 154] 88)))
      have HBW := Lib.hid HC1.out.bl
      have HS1 : Hid (w.heap.size + 3 ≤ (wr.alloc (.cells #[.func (.func 64) #[] #[], .int .i64 154] 88)).heap.size) := Lib.hid (by simp; omega)
      have hr := must5_any p c xs HBX.out hn hc _ (HX.out.below HBW.out) (HF.out.below HBW.out)
      by_cases hm : must5 xs = true
      · rw [hm] at hr
        have HM2 : Hid (MOk xs 5) := Lib.hid ⟨fun h => by first | exact HM.out.m1 (by omega) | exact hm | omega, fun h => by first | exact HM.out.m2 (by omega) | exact hm | omega, fun h => by first | exact HM.out.m3 (by omega) | exact hm | omega, fun h => by first | exact HM.out.m4 (by omega) | exact hm | omega, fun h => by first | exact HM.out.m5 (by omega) | exact hm | omega⟩
        clear hm
        have HR := Lib.hid hr
        clear hr
        go_wp2_with fail
        refine HR.out.mono ?_
        rintro e w2 ⟨rfl, hb⟩
        have HC2 := Lib.hid (HC1.out.mono (hb.mono HS1.out))
        have HS2 : Hid (w.heap.size + 3 ≤ w2.heap.size) := Lib.hid (Nat.le_trans HS1.out hb.size)
        clear hb HC HC1 HR HBW HS1 k0 k1 r0 hl0
        go_wp2_with fail
        go_roundw
        case rel => exact ⟨5, by omega, by go_num, HM2, HC2, HS2⟩
        case measure => simp [intOf]
      · have hm : must5 xs = false := by simpa using hm
        rw [hm] at hr
        have HNO : Hid (chkNo xs = 154) := Lib.hid (by
          rw [chk_musts HBX.out]
          simp [HM.out.m1 (by omega), HM.out.m2 (by omega), HM.out.m3 (by omega), HM.out.m4 (by omega), hm])
        clear hm
        have HR := Lib.hid hr
        clear hr
        go_wp2_with fail
        refine HR.out.mono ?_
        rintro e w2 ⟨rfl, hb⟩
        have HC2 := Lib.hid (HC1.out.mono (hb.mono HS1.out))
        have HS2 : Hid (w.heap.size + 3 ≤ w2.heap.size) := Lib.hid (Nat.le_trans HS1.out hb.size)
        have z1 := (Blk.new wr 88 #[.func (.func 64) #[] #[], .int .i64 154]).below hb (by simp)
        have z1 := z1.cell 1
        simp only [List.getElem?_toArray, List.getElem?_cons_zero, List.getElem?_cons_succ] at z1
        clear hb HC HC1 HR HBW HS1 k0 k1 r0 hl0
        go_wp2_with fail
        exact ⟨rfl, by rw [HNO.out], HC2.out.bl⟩
    | 5, _, HM =>
      exact absurd (MOk.zero HBX.out HM.out) H0.out
end Go.Proofs.YtehhablobfaplaaDoor
