/- The walk of PacketDecodes (laid by tools/gen/x18.py). -/
import Derived.Test.YtehhablobfaplaaDoorX17
namespace Go.Proofs.YtehhablobfaplaaDoor
open Go Go.RowKit Go.Shelf Go.Sort
attribute [local go_sem] Oper.semAt_some
attribute [local irreducible] wpQuiet

/-- Decode of both, with entries that lie somewhere. -/
theorem decE (p : Option Addr) (c : Nat) (xs : List Int) (hb : IsBytes xs) (hn : xs.length ≤ 1000000) (hc : xs.length ≤ c) (w : World) (hx : ByS w p xs) (hf : Fit3 w) :
    Calls Tryd.prog 14 #[.slice p xs.length c] w fun e w' => (∃ A k, e = .returned (.tuple #[.agg #[.int .i64 (decD xs).c, .slice A (decD xs).l.length k], .int .i64 (chkNo xs)]) ∧ EntS w' A (decD xs).l) ∧ Below w.heap.size w w' :=
  (decode5_any p c xs hb hn hc w hx hf).mono fun e w' ⟨⟨v, he, ho⟩, hb⟩ => by
    obtain ⟨A, k, rfl, _, hA⟩ := ownE_ents ho
    exact ⟨⟨A, k, he, hA⟩, hb⟩
theorem refDecE (p : Option Addr) (c : Nat) (xs : List Int) (hb : IsBytes xs) (hn : xs.length ≤ 1000000) (hc : xs.length ≤ c) (w : World) (hx : ByS w p xs) :
    Calls Tryd.prog 16 #[.slice p xs.length c] w fun e w' => (∃ A k, e = .returned (.tuple #[.agg #[.int .i64 (decD xs).c, .slice A (decD xs).l.length k], .int .i64 (chkNo xs)]) ∧ EntS w' A (decD xs).l) ∧ Below w.heap.size w w' :=
  (refDecode5_any p c xs hb hn hc w hx).mono fun e w' ⟨⟨v, he, ho⟩, hb⟩ => by
    obtain ⟨A, k, rfl, _, hA⟩ := ownE_ents ho
    exact ⟨⟨A, k, he, hA⟩, hb⟩
theorem decD_short (xs : List Int) : (decD xs).l.length ≤ xs.length := by
  unfold decD
  split
  · simp only [ents_len, List.length_drop]
    omega
  · simp


set_option maxRecDepth 1000000 in
set_option maxHeartbeats 6400000 in
theorem law05_dec_big (p : Option Addr) (c : Nat) (xs : List Int) (hl : 600 < xs.length) (w : World) (hf : Fit3 w) :
    Calls Tryd.prog 4 #[.slice p xs.length c] w fun e w' => e = .returned (.bool true) ∧ Below w.heap.size w w' := by
  have HF := Lib.hid hf
  skip
  have HY0 : Hid (∀ W, Fit3 W → Calls Tryd.prog 8 #[] W fun e w' => e = .returned (.bool true) ∧ Below W.heap.size W w') := yes5
  clear hf
  have nl : 600 < (xs.length : Int) := by omega
  go_enter Tryd.func4, Tryd.ntmps4
  go_wp2_with fail
  have HV := Lib.hid (Below.refl w.heap.size w)
  refine (HY0.out _ (HF.out.below HV.out)).mono ?_
  rintro e w1 ⟨rfl, hb⟩
  have hv := HV.out.trans (hb.mono HV.out.size)
  clear hb HV 
  have HV := Lib.hid hv
  clear hv 
  go_wp2_with fail
  go_ret
  exact ⟨rfl, HV.out⟩

set_option maxRecDepth 1000000 in
set_option maxHeartbeats 6400000 in
theorem law05_dec_no (p : Option Addr) (c : Nat) (xs : List Int) (hb : IsBytes xs) (hc : xs.length ≤ c) (hl : xs.length ≤ 600) (h0 : ¬ chkNo xs = 0) (w : World) (hx : ByS w p xs) (hf : Fit3 w) :
    Calls Tryd.prog 4 #[.slice p xs.length c] w fun e w' => e = .returned (.bool true) ∧ Below w.heap.size w w' := by
  have HF := Lib.hid hf
  have HX := Lib.hid hx
  have HY0 : Hid (∀ W, Fit3 W → Calls Tryd.prog 8 #[] W fun e w' => e = .returned (.bool true) ∧ Below W.heap.size W w') := yes5
  clear hf hx
  have nl : ¬ 600 < (xs.length : Int) := by omega
  have hD := fun q k W (hk : xs.length ≤ k) (h : ByS W q xs) (hF : Fit3 W) => decE q k xs hb (by omega) hk W h hF
  have hR := fun W (h : ByS W p xs) => refDecE p c xs hb (by omega) hc W h
  have hK := fun q k W (hk : xs.length ≤ k) (h : ByS W q xs) (hF : Fit3 W) => check5_any q k xs hb (by omega) hk W h hF
  have hds := decD_short xs
  generalize hdd : decD xs = dd at *
  clear hdd
  obtain ⟨dc, L⟩ := dd
  dsimp only at *
  generalize chkNo xs = no at *
  have HD := Lib.hid hD
  have HR := Lib.hid hR
  have HK := Lib.hid hK
  have HS := Lib.hid (fun A B ka kb W (h1 : EntS W A L) (h2 : EntS W B L) => refSame_self dc A B ka kb L (by omega) W h1 h2)
  clear hD hR hK hb hc
  obtain ⟨st, hst⟩ : ∃ st, strOfNums xs = st := ⟨_, rfl⟩
  have HST := Lib.hid hst
  clear hst
  go_enter Tryd.func4, Tryd.ntmps4
  go_upto_region 3 with fail
  have HV := Lib.hid (Below.refl w.heap.size w)
  have HHE : Hid (OwnB w.heap.size (w.alloc (.cells #[] 5)) (.slice (some ⟨w.heap.size, 0, none⟩) 0 0) []) := World.ownsRow_made w #[] 0 (Nat.le_refl _) (Nat.zero_le _) (by simp)
  have HHW : Hid (Below w.heap.size w (w.alloc (.cells #[] 5))) := (Below.refl _ _).alloc (Nat.le_refl _) _
  have HYA := Lib.hid ((HX.out.below HV.out).below HHW.out)
  have K1 : ([] : List Int).length + xs.length ≤ 1000000 := by simp; omega
  go_wp2_with (first | (at_builtin; refine wpList_app_bytes (v := .slice (some ⟨w.heap.size, 0, none⟩) 0 0) (xs := []) (p := p) (ys := xs) (c := c) rfl _ _ rfl w.heap.size rfl HHE.out rfl HYA.out K1 (by simp) ?_))
  intro v5 wa o5 g5 _
  have hba := own_below (by simp) HHW.out HHE.out g5
  have hbb : Below wa.heap.size wa (wa.alloc (.cells #[.int .u8 77] 5)) := (Below.refl _ _).alloc (Nat.le_refl _) _
  have HY7 : Hid (ByS (wa.alloc (.cells #[.int .u8 77] 5)) (some ⟨wa.heap.size, 0, none⟩) [77]) := ByS.ofBlk (t := 5) (r := []) (Blk.new wa 5 #[.int .u8 77])
  have HBA := Lib.hid (hba.trans (hbb.mono hba.size))
  have HO5 := Lib.hid (row_past5 o5 hbb)
  have l5 := HBA.out.size
  have K2 : xs.length + ([77] : List Int).length ≤ 1000000 := by simp; omega
  clear g5 o5 hba hbb HHE HHW HYA K1
  go_wp2_with (first | (at_builtin; refine wpList_app_bytes (v := v5) (xs := xs) (p := some ⟨wa.heap.size, 0, none⟩) (ys := [77]) (c := 1) rfl _ _ rfl w.heap.size rfl HO5.out rfl HY7.out K2 l5 ?_))
  intro v6 wb o6 g6 _
  have hb6 := own_below l5 HBA.out HO5.out g6
  obtain ⟨p3, c3, rfl, m6, y6, _⟩ := OwnB.byS o6
  have HY3 := Lib.hid (y6.left)
  have hm3 : xs.length ≤ c3 := by simp at m6; omega
  have hm4 : (xs.length : Int) ≤ (c3 : Int) := by omega
  have hl77 : (xs ++ [77]).length = xs.length + 1 := by simp
  rw [hl77]
  clear g6 o6 HO5 HBA l5 K2 y6 HY7 m6 hl77
  have hv := HV.out.trans (hb6.mono HV.out.size)
  clear HV hb6 
  have HV := Lib.hid hv
  clear hv 
  go_wp2_with fail
  refine (HD.out _ _ _ hm3 HY3.out (HF.out.below HV.out)).mono ?_
  rintro e w1 ⟨⟨A4, k4, rfl, hE4⟩, hb⟩
  have hv := HV.out.trans (hb.mono HV.out.size)
  have yHY3 := HY3.out.below hb
  clear hb HV 
  have HV := Lib.hid hv
  clear hv 
  clear HY3
  have HY3 := Lib.hid yHY3
  clear yHY3
  have HE4 := Lib.hid hE4
  clear hE4
  go_upto_region 5 with fail
  have hbx := (Below.refl w1.heap.size w1).alloc (Nat.le_refl _) (.cells #[.int .i64 dc, .slice A4 L.length k4] 25)
  have yHY3 := HY3.out.below hbx
  have yHE4 := HE4.out.below hbx
  clear hbx
  have hv := HV.out
  have hv := hv.alloc hv.size (.cells #[.int .i64 dc, .slice A4 L.length k4] 25)
  have xT4 : Blk (w1.alloc (.cells #[.int .i64 dc, .slice A4 L.length k4] 25)) (w1.heap.size) 25 #[.int .i64 dc, .slice A4 L.length k4] := by
    have := Blk.new w1 25 #[.int .i64 dc, .slice A4 L.length k4]
    simpa using this
  generalize hvv : (w1.alloc (.cells #[.int .i64 dc, .slice A4 L.length k4] 25)) = v1 at *
  clear hvv
  generalize w1.heap.size = gT4 at *
  clear HV 
  have HV := Lib.hid hv
  have T4 := Lib.hid xT4
  clear hv xT4
  clear HY3 HE4
  have HY3 := Lib.hid yHY3
  have HE4 := Lib.hid yHE4
  clear yHY3 yHE4
  go_wp2_with fail
  refine (HR.out _ (HX.out.below HV.out)).mono ?_
  rintro e w2 ⟨⟨A6, k6, rfl, hE6⟩, hb⟩
  have hv := HV.out.trans (hb.mono HV.out.size)
  have xT4 := T4.out.below hb T4.out.lt
  have yHY3 := HY3.out.below hb
  have yHE4 := HE4.out.below hb
  clear hb HV T4
  have HV := Lib.hid hv
  have T4 := Lib.hid xT4
  clear hv xT4
  clear HY3 HE4
  have HY3 := Lib.hid yHY3
  have HE4 := Lib.hid yHE4
  clear yHY3 yHE4
  have HE6 := Lib.hid hE6
  clear hE6
  go_upto_region 6 with fail
  have hbx := (Below.refl w2.heap.size w2).alloc (Nat.le_refl _) (.cells #[.int .i64 dc, .slice A6 L.length k6] 25)
  have yHY3 := HY3.out.below hbx
  have yHE4 := HE4.out.below hbx
  have yHE6 := HE6.out.below hbx
  clear hbx
  have hv := HV.out
  have hv := hv.alloc hv.size (.cells #[.int .i64 dc, .slice A6 L.length k6] 25)
  have xT4 := (T4.out).alloc (.cells #[.int .i64 dc, .slice A6 L.length k6] 25)
  have xT6 : Blk (w2.alloc (.cells #[.int .i64 dc, .slice A6 L.length k6] 25)) (w2.heap.size) 25 #[.int .i64 dc, .slice A6 L.length k6] := by
    have := Blk.new w2 25 #[.int .i64 dc, .slice A6 L.length k6]
    simpa using this
  generalize hvv : (w2.alloc (.cells #[.int .i64 dc, .slice A6 L.length k6] 25)) = v2 at *
  clear hvv
  generalize w2.heap.size = gT6 at *
  clear HV T4
  have HV := Lib.hid hv
  have T4 := Lib.hid xT4
  have T6 := Lib.hid xT6
  clear hv xT4 xT6
  clear HY3 HE4 HE6
  have HY3 := Lib.hid yHY3
  have HE4 := Lib.hid yHE4
  have HE6 := Lib.hid yHE6
  clear yHY3 yHE4 yHE6
  have lT4 := T4.out.lt
  have kT40 := T4.out.cell 0
  have kT41 := T4.out.cell 1
  have lT6 := T6.out.lt
  have kT60 := T6.out.cell 0
  have kT61 := T6.out.cell 1
  simp only [List.getElem?_toArray, List.getElem?_cons_zero, List.getElem?_cons_succ] at kT40 kT41 kT60 kT61
  go_wp2_with fail
  refine (HS.out _ _ _ _ _ HE4.out HE6.out).mono ?_
  rintro e w3 ⟨rfl, hb⟩
  clear lT4 lT6 kT40 kT41 kT60 kT61
  have hv := HV.out.trans (hb.mono HV.out.size)
  have xT4 := T4.out.below hb T4.out.lt
  have xT6 := T6.out.below hb T6.out.lt
  have yHY3 := HY3.out.below hb
  have yHE4 := HE4.out.below hb
  have yHE6 := HE6.out.below hb
  clear hb HV T4 T6
  have HV := Lib.hid hv
  have T4 := Lib.hid xT4
  have T6 := Lib.hid xT6
  clear hv xT4 xT6
  clear HY3 HE4 HE6
  have HY3 := Lib.hid yHY3
  have HE4 := Lib.hid yHE4
  have HE6 := Lib.hid yHE6
  clear yHY3 yHE4 yHE6
  go_wp2_with fail
  refine (num5_any _ _).mono ?_
  rintro e wn4 ⟨rfl, rfl⟩
  go_wp2_with fail
  refine (HK.out _ _ _ hm3 HY3.out (HF.out.below HV.out)).mono ?_
  rintro e w5 ⟨rfl, hb⟩
  have hv := HV.out.trans (hb.mono HV.out.size)
  have xT4 := T4.out.below hb T4.out.lt
  have xT6 := T6.out.below hb T6.out.lt
  have yHY3 := HY3.out.below hb
  have yHE4 := HE4.out.below hb
  have yHE6 := HE6.out.below hb
  clear hb HV T4 T6
  have HV := Lib.hid hv
  have T4 := Lib.hid xT4
  have T6 := Lib.hid xT6
  clear hv xT4 xT6
  clear HY3 HE4 HE6
  have HY3 := Lib.hid yHY3
  have HE4 := Lib.hid yHE4
  have HE6 := Lib.hid yHE6
  clear yHY3 yHE4 yHE6
  have lT4 := T4.out.lt
  have kT40 := T4.out.cell 0
  have kT41 := T4.out.cell 1
  simp only [List.getElem?_toArray, List.getElem?_cons_zero, List.getElem?_cons_succ] at kT40 kT41
  have e3 : Sem.run Tryd.prog (convert 27 9 (.slice p3 xs.length c3)) w5 = .ok (.string st) w5 := by rw [← HST.out]; exact conv_bytes HY3.out c3
  have e4 : Sem.run Tryd.prog (convert 27 9 (.slice p xs.length c)) w5 = .ok (.string st) w5 := by rw [← HST.out]; exact conv_bytes (HX.out.below HV.out) c
  go_wp2_with fail
  refine (num5_any _ _).mono ?_
  rintro e wn6 ⟨rfl, rfl⟩
  go_wp2_with fail
  clear e3 e4
  refine (HY0.out _ (HF.out.below HV.out)).mono ?_
  rintro e w7 ⟨rfl, hb⟩
  clear lT4 kT40 kT41
  have hv := HV.out.trans (hb.mono HV.out.size)
  have xT4 := T4.out.below hb T4.out.lt
  have xT6 := T6.out.below hb T6.out.lt
  have yHY3 := HY3.out.below hb
  have yHE4 := HE4.out.below hb
  have yHE6 := HE6.out.below hb
  clear hb HV T4 T6
  have HV := Lib.hid hv
  have T4 := Lib.hid xT4
  have T6 := Lib.hid xT6
  clear hv xT4 xT6
  clear HY3 HE4 HE6
  have HY3 := Lib.hid yHY3
  have HE4 := Lib.hid yHE4
  have HE6 := Lib.hid yHE6
  clear yHY3 yHE4 yHE6
  go_wp2_with fail
  go_ret
  exact ⟨rfl, HV.out⟩

set_option maxRecDepth 1000000 in
set_option maxHeartbeats 6400000 in
theorem law05_dec_yes (p : Option Addr) (c : Nat) (xs : List Int) (hb : IsBytes xs) (hc : xs.length ≤ c) (hl : xs.length ≤ 600) (h0 : chkNo xs = 0) (w : World) (hx : ByS w p xs) (hf : Fit3 w) :
    Calls Tryd.prog 4 #[.slice p xs.length c] w fun e w' => e = .returned (.bool true) ∧ Below w.heap.size w w' := by
  have HF := Lib.hid hf
  have HX := Lib.hid hx
  have HY0 : Hid (∀ W, Fit3 W → Calls Tryd.prog 8 #[] W fun e w' => e = .returned (.bool true) ∧ Below W.heap.size W w') := yes5
  clear hf hx
  have nl : ¬ 600 < (xs.length : Int) := by omega
  have hD := fun q k W (hk : xs.length ≤ k) (h : ByS W q xs) (hF : Fit3 W) => decE q k xs hb (by omega) hk W h hF
  have hR := fun W (h : ByS W p xs) => refDecE p c xs hb (by omega) hc W h
  have hK := fun q k W (hk : xs.length ≤ k) (h : ByS W q xs) (hF : Fit3 W) => check5_any q k xs hb (by omega) hk W h hF
  have hds := decD_short xs
  obtain ⟨e1, e2, e3⟩ := enc_dec h0 hb
  have hE := fun A ca (hn : (decD xs).l.length ≤ 1000) W (h : EntS W A (decD xs).l) (hF : Fit3 W) => encode5_yes (decD xs).c A ca (decD xs).l hn e3 W h hF e2
  have hl25 := (encNo_zero.1 e2).2.1
  have e4 : bytesD ⟨(decD xs).c, (decD xs).l⟩ = xs := e1
  rw [e4] at hE
  rw [h0] at hD hR hK
  clear e1 e2 e3 e4 h0
  have HEN := Lib.hid hE
  clear hE
  generalize hdd : decD xs = dd at *
  clear hdd
  obtain ⟨dc, L⟩ := dd
  dsimp only at *
  have HD := Lib.hid hD
  have HR := Lib.hid hR
  have HK := Lib.hid hK
  have HS := Lib.hid (fun A B ka kb W (h1 : EntS W A L) (h2 : EntS W B L) => refSame_self dc A B ka kb L (by omega) W h1 h2)
  clear hD hR hK hb hc
  obtain ⟨st, hst⟩ : ∃ st, strOfNums xs = st := ⟨_, rfl⟩
  have HST := Lib.hid hst
  clear hst
  go_enter Tryd.func4, Tryd.ntmps4
  go_upto_region 3 with fail
  have HV := Lib.hid (Below.refl w.heap.size w)
  have HHE : Hid (OwnB w.heap.size (w.alloc (.cells #[] 5)) (.slice (some ⟨w.heap.size, 0, none⟩) 0 0) []) := World.ownsRow_made w #[] 0 (Nat.le_refl _) (Nat.zero_le _) (by simp)
  have HHW : Hid (Below w.heap.size w (w.alloc (.cells #[] 5))) := (Below.refl _ _).alloc (Nat.le_refl _) _
  have HYA := Lib.hid ((HX.out.below HV.out).below HHW.out)
  have K1 : ([] : List Int).length + xs.length ≤ 1000000 := by simp; omega
  go_wp2_with (first | (at_builtin; refine wpList_app_bytes (v := .slice (some ⟨w.heap.size, 0, none⟩) 0 0) (xs := []) (p := p) (ys := xs) (c := c) rfl _ _ rfl w.heap.size rfl HHE.out rfl HYA.out K1 (by simp) ?_))
  intro v5 wa o5 g5 _
  have hba := own_below (by simp) HHW.out HHE.out g5
  have hbb : Below wa.heap.size wa (wa.alloc (.cells #[.int .u8 77] 5)) := (Below.refl _ _).alloc (Nat.le_refl _) _
  have HY7 : Hid (ByS (wa.alloc (.cells #[.int .u8 77] 5)) (some ⟨wa.heap.size, 0, none⟩) [77]) := ByS.ofBlk (t := 5) (r := []) (Blk.new wa 5 #[.int .u8 77])
  have HBA := Lib.hid (hba.trans (hbb.mono hba.size))
  have HO5 := Lib.hid (row_past5 o5 hbb)
  have l5 := HBA.out.size
  have K2 : xs.length + ([77] : List Int).length ≤ 1000000 := by simp; omega
  clear g5 o5 hba hbb HHE HHW HYA K1
  go_wp2_with (first | (at_builtin; refine wpList_app_bytes (v := v5) (xs := xs) (p := some ⟨wa.heap.size, 0, none⟩) (ys := [77]) (c := 1) rfl _ _ rfl w.heap.size rfl HO5.out rfl HY7.out K2 l5 ?_))
  intro v6 wb o6 g6 _
  have hb6 := own_below l5 HBA.out HO5.out g6
  obtain ⟨p3, c3, rfl, m6, y6, _⟩ := OwnB.byS o6
  have HY3 := Lib.hid (y6.left)
  have hm3 : xs.length ≤ c3 := by simp at m6; omega
  have hm4 : (xs.length : Int) ≤ (c3 : Int) := by omega
  have hl77 : (xs ++ [77]).length = xs.length + 1 := by simp
  rw [hl77]
  clear g6 o6 HO5 HBA l5 K2 y6 HY7 m6 hl77
  have hv := HV.out.trans (hb6.mono HV.out.size)
  clear HV hb6 
  have HV := Lib.hid hv
  clear hv 
  go_wp2_with fail
  refine (HD.out _ _ _ hm3 HY3.out (HF.out.below HV.out)).mono ?_
  rintro e w1 ⟨⟨A4, k4, rfl, hE4⟩, hb⟩
  have hv := HV.out.trans (hb.mono HV.out.size)
  have yHY3 := HY3.out.below hb
  clear hb HV 
  have HV := Lib.hid hv
  clear hv 
  clear HY3
  have HY3 := Lib.hid yHY3
  clear yHY3
  have HE4 := Lib.hid hE4
  clear hE4
  go_upto_region 5 with fail
  have hbx := (Below.refl w1.heap.size w1).alloc (Nat.le_refl _) (.cells #[.int .i64 dc, .slice A4 L.length k4] 25)
  have yHY3 := HY3.out.below hbx
  have yHE4 := HE4.out.below hbx
  clear hbx
  have hv := HV.out
  have hv := hv.alloc hv.size (.cells #[.int .i64 dc, .slice A4 L.length k4] 25)
  have xT4 : Blk (w1.alloc (.cells #[.int .i64 dc, .slice A4 L.length k4] 25)) (w1.heap.size) 25 #[.int .i64 dc, .slice A4 L.length k4] := by
    have := Blk.new w1 25 #[.int .i64 dc, .slice A4 L.length k4]
    simpa using this
  generalize hvv : (w1.alloc (.cells #[.int .i64 dc, .slice A4 L.length k4] 25)) = v1 at *
  clear hvv
  generalize w1.heap.size = gT4 at *
  clear HV 
  have HV := Lib.hid hv
  have T4 := Lib.hid xT4
  clear hv xT4
  clear HY3 HE4
  have HY3 := Lib.hid yHY3
  have HE4 := Lib.hid yHE4
  clear yHY3 yHE4
  go_wp2_with fail
  refine (HR.out _ (HX.out.below HV.out)).mono ?_
  rintro e w2 ⟨⟨A6, k6, rfl, hE6⟩, hb⟩
  have hv := HV.out.trans (hb.mono HV.out.size)
  have xT4 := T4.out.below hb T4.out.lt
  have yHY3 := HY3.out.below hb
  have yHE4 := HE4.out.below hb
  clear hb HV T4
  have HV := Lib.hid hv
  have T4 := Lib.hid xT4
  clear hv xT4
  clear HY3 HE4
  have HY3 := Lib.hid yHY3
  have HE4 := Lib.hid yHE4
  clear yHY3 yHE4
  have HE6 := Lib.hid hE6
  clear hE6
  go_upto_region 6 with fail
  have hbx := (Below.refl w2.heap.size w2).alloc (Nat.le_refl _) (.cells #[.int .i64 dc, .slice A6 L.length k6] 25)
  have yHY3 := HY3.out.below hbx
  have yHE4 := HE4.out.below hbx
  have yHE6 := HE6.out.below hbx
  clear hbx
  have hv := HV.out
  have hv := hv.alloc hv.size (.cells #[.int .i64 dc, .slice A6 L.length k6] 25)
  have xT4 := (T4.out).alloc (.cells #[.int .i64 dc, .slice A6 L.length k6] 25)
  have xT6 : Blk (w2.alloc (.cells #[.int .i64 dc, .slice A6 L.length k6] 25)) (w2.heap.size) 25 #[.int .i64 dc, .slice A6 L.length k6] := by
    have := Blk.new w2 25 #[.int .i64 dc, .slice A6 L.length k6]
    simpa using this
  generalize hvv : (w2.alloc (.cells #[.int .i64 dc, .slice A6 L.length k6] 25)) = v2 at *
  clear hvv
  generalize w2.heap.size = gT6 at *
  clear HV T4
  have HV := Lib.hid hv
  have T4 := Lib.hid xT4
  have T6 := Lib.hid xT6
  clear hv xT4 xT6
  clear HY3 HE4 HE6
  have HY3 := Lib.hid yHY3
  have HE4 := Lib.hid yHE4
  have HE6 := Lib.hid yHE6
  clear yHY3 yHE4 yHE6
  have lT4 := T4.out.lt
  have kT40 := T4.out.cell 0
  have kT41 := T4.out.cell 1
  have lT6 := T6.out.lt
  have kT60 := T6.out.cell 0
  have kT61 := T6.out.cell 1
  simp only [List.getElem?_toArray, List.getElem?_cons_zero, List.getElem?_cons_succ] at kT40 kT41 kT60 kT61
  go_wp2_with fail
  refine (HS.out _ _ _ _ _ HE4.out HE6.out).mono ?_
  rintro e w3 ⟨rfl, hb⟩
  clear lT4 lT6 kT40 kT41 kT60 kT61
  have hv := HV.out.trans (hb.mono HV.out.size)
  have xT4 := T4.out.below hb T4.out.lt
  have xT6 := T6.out.below hb T6.out.lt
  have yHY3 := HY3.out.below hb
  have yHE4 := HE4.out.below hb
  have yHE6 := HE6.out.below hb
  clear hb HV T4 T6
  have HV := Lib.hid hv
  have T4 := Lib.hid xT4
  have T6 := Lib.hid xT6
  clear hv xT4 xT6
  clear HY3 HE4 HE6
  have HY3 := Lib.hid yHY3
  have HE4 := Lib.hid yHE4
  have HE6 := Lib.hid yHE6
  clear yHY3 yHE4 yHE6
  go_wp2_with fail
  refine (num5_any _ _).mono ?_
  rintro e wn4 ⟨rfl, rfl⟩
  go_wp2_with fail
  refine (HK.out _ _ _ hm3 HY3.out (HF.out.below HV.out)).mono ?_
  rintro e w5 ⟨rfl, hb⟩
  have hv := HV.out.trans (hb.mono HV.out.size)
  have xT4 := T4.out.below hb T4.out.lt
  have xT6 := T6.out.below hb T6.out.lt
  have yHY3 := HY3.out.below hb
  have yHE4 := HE4.out.below hb
  have yHE6 := HE6.out.below hb
  clear hb HV T4 T6
  have HV := Lib.hid hv
  have T4 := Lib.hid xT4
  have T6 := Lib.hid xT6
  clear hv xT4 xT6
  clear HY3 HE4 HE6
  have HY3 := Lib.hid yHY3
  have HE4 := Lib.hid yHE4
  have HE6 := Lib.hid yHE6
  clear yHY3 yHE4 yHE6
  have lT4 := T4.out.lt
  have kT40 := T4.out.cell 0
  have kT41 := T4.out.cell 1
  simp only [List.getElem?_toArray, List.getElem?_cons_zero, List.getElem?_cons_succ] at kT40 kT41
  have e3 : Sem.run Tryd.prog (convert 27 9 (.slice p3 xs.length c3)) w5 = .ok (.string st) w5 := by rw [← HST.out]; exact conv_bytes HY3.out c3
  have e4 : Sem.run Tryd.prog (convert 27 9 (.slice p xs.length c)) w5 = .ok (.string st) w5 := by rw [← HST.out]; exact conv_bytes (HX.out.below HV.out) c
  go_wp2_with fail
  refine (num5_any _ _).mono ?_
  rintro e wn6 ⟨rfl, rfl⟩
  go_wp2_with fail
  clear e3 e4
  refine (HEN.out _ _ (by omega) _ HE4.out (HF.out.below HV.out)).mono ?_
  rintro e w7 ⟨⟨v, rfl, hob⟩, hb⟩
  clear lT4 kT40 kT41
  have hv := HV.out.trans (hb.mono HV.out.size)
  have xT4 := T4.out.below hb T4.out.lt
  have xT6 := T6.out.below hb T6.out.lt
  have yHY3 := HY3.out.below hb
  have yHE4 := HE4.out.below hb
  have yHE6 := HE6.out.below hb
  clear hb HV T4 T6
  have HV := Lib.hid hv
  have T4 := Lib.hid xT4
  have T6 := Lib.hid xT6
  clear hv xT4 xT6
  clear HY3 HE4 HE6
  have HY3 := Lib.hid yHY3
  have HE4 := Lib.hid yHE4
  have HE6 := Lib.hid yHE6
  clear yHY3 yHE4 yHE6
  obtain ⟨p7, c7, rfl, m7, y7, _⟩ := OwnB.byS hob
  have HY7 := Lib.hid y7
  clear hob y7 m7
  have e5 : Sem.run Tryd.prog (convert 27 9 (.slice p7 xs.length c7)) w7 = .ok (.string st) w7 := by rw [← HST.out]; exact conv_bytes HY7.out c7
  have e6 : Sem.run Tryd.prog (convert 27 9 (.slice p xs.length c)) w7 = .ok (.string st) w7 := by rw [← HST.out]; exact conv_bytes (HX.out.below HV.out) c
  go_wp2_with fail
  refine (num5_any _ _).mono ?_
  rintro e wn8 ⟨rfl, rfl⟩
  go_wp2_with fail
  clear e5 e6
  refine (HY0.out _ (HF.out.below HV.out)).mono ?_
  rintro e w9 ⟨rfl, hb⟩
  have hv := HV.out.trans (hb.mono HV.out.size)
  have xT4 := T4.out.below hb T4.out.lt
  have xT6 := T6.out.below hb T6.out.lt
  have yHY3 := HY3.out.below hb
  have yHE4 := HE4.out.below hb
  have yHE6 := HE6.out.below hb
  clear hb HV T4 T6
  have HV := Lib.hid hv
  have T4 := Lib.hid xT4
  have T6 := Lib.hid xT6
  clear hv xT4 xT6
  clear HY3 HE4 HE6
  have HY3 := Lib.hid yHY3
  have HE4 := Lib.hid yHE4
  have HE6 := Lib.hid yHE6
  clear yHY3 yHE4 yHE6
  go_wp2_with fail
  go_ret
  exact ⟨rfl, HV.out⟩

theorem law05_decodes (p : Option Addr) (c : Nat) (xs : List Int) (hb : IsBytes xs) (hc : xs.length ≤ c) (w : World) (hx : ByS w p xs) (hf : Fit3 w) :
    Calls Tryd.prog 4 #[.slice p xs.length c] w fun e w' => e = .returned (.bool true) ∧ Below w.heap.size w w' := by
  by_cases hl : xs.length ≤ 600
  · by_cases h0 : chkNo xs = 0
    · exact law05_dec_yes p c xs hb hc hl h0 w hx hf
    · exact law05_dec_no p c xs hb hc hl h0 w hx hf
  · exact law05_dec_big p c xs (by omega) w hf
end Go.Proofs.YtehhablobfaplaaDoor
