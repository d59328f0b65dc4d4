/- The walks of OctetPuts, OctetReads, over what Put, Read and works promise. -/
import Derived.Test.YthpmfeijnphdbaaDoorO6
namespace Go.Proofs.YthpmfeijnphdbaaDoor
open Go Go.RowKit
attribute [local go_sem] Oper.semAt_some

theorem own_below {base : Nat} {W0 w w' : World} {v : Value} {l : List Int} (hl : base ≤ w.heap.size) (hb : Below base W0 w) (ho : OwnB base w v l) (hg : w.grownBy w' v.ownBlock) : Below base W0 w' :=
  hb.grown hg hl (fun k hk => (ho.lt k hk).1)

set_option maxRecDepth 100000 in
set_option maxHeartbeats 3200000 in
theorem law03_puts (HP : PutC 9) (HR : ReadC 12) (HY : YesC 8) (n k : Int) (h0 : 0 ≤ n) (h1 : n < 4294967296)
    (p1 : Option Addr) (c1 : Nat) (xs1 : List Int) (p2 : Option Addr) (c2 : Nat) (xs2 : List Int) (b1 : IsBytes xs1) (b2 : IsBytes xs2) (w : World) (x1 : ByS w p1 xs1) (x2 : ByS w p2 xs2) (hf : Fit3 w) :
    Calls Tryd.prog 3 #[.int .u32 n, .int .i64 k, .slice p1 xs1.length c1, .slice p2 xs2.length c2] w fun e w' => e = .returned (.bool true) ∧ Below w.heap.size w w' := by
  have HP := Lib.hid HP
  have HR := Lib.hid HR
  have HY := Lib.hid HY
  have B1 := Lib.hid b1
  have B2 := Lib.hid b2
  have X1 := Lib.hid x1
  have X2 := Lib.hid x2
  have HF := Lib.hid hf
  clear b1 b2 x1 x2 hf
  by_cases hbig : 40 < xs1.length ∨ 40 < xs2.length
  · go_enter Tryd.func3, Tryd.ntmps3
    by_cases h2 : 40 < xs1.length
    · go_wp2_with fail
      refine (HY.out _ HF.out).mono ?_
      rintro e w' ⟨rfl, hb⟩
      have HB := Lib.hid hb
      clear hb
      go_wp2_with fail
      go_ret
      exact ⟨rfl, HB.out⟩
    · have h3 : 40 < xs2.length := by omega
      go_wp2_with fail
      refine (HY.out _ HF.out).mono ?_
      rintro e w' ⟨rfl, hb⟩
      have HB := Lib.hid hb
      clear hb
      go_wp2_with fail
      go_ret
      exact ⟨rfl, HB.out⟩
  · have s1 : ¬ 40 < xs1.length := by omega
    have s2 : ¬ 40 < xs2.length := by omega
    clear hbig
    go_enter Tryd.func3, Tryd.ntmps3
    go_wp2_with fail
    refine (HP.out n k _ h0 h1 HF.out).mono ?_
    rintro e w1 ⟨q1, d1, rfl, hc1, hq1, hb1⟩
    have L1 := Lib.hid hc1
    have Q1 := Lib.hid hq1
    have W1 := Lib.hid hb1
    clear hc1 hq1 hb1
    go_wp2_with fail
    refine (refPut_c n k _ h0 h1 (HF.out.below W1.out)).mono ?_
    rintro e w2 ⟨q2, d2, rfl, hc2, hq2, hb2⟩
    have e1 := conv_bytes (Q1.out.below hb2) d1
    have e2 := conv_bytes hq2 d2
    have W2 := Lib.hid (W1.out.trans (hb2.mono W1.out.size))
    have Q1' := Lib.hid (Q1.out.below hb2)
    have hnm := fun W => num3_any (putNo n k) W
    clear hc2 hq2 hb2 L1 Q1 W1
    by_cases hz : putNo n k = 0
    · obtain ⟨r1, r2⟩ := put_read h0 h1 hz xs1 xs2
      rw [List.append_assoc] at r1 r2
      have hL4 := putL_le n k
      have hBL := isBytes_putL n k
      generalize putL n k = L at *
      rw [hz] at hnm ⊢
      generalize strOfNums L = st at *
      have bl := W2.out.size
      have HE : OwnB w2.heap.size (w2.alloc (.cells #[] 5)) (.slice (some ⟨w2.heap.size, 0, none⟩) 0 0) [] := World.ownsRow_made w2 #[] 0 (Nat.le_refl _) (Nat.zero_le _) (by simp)
      have HW0 : Below w2.heap.size w2 (w2.alloc (.cells #[] 5)) := (Below.refl _ _).alloc (Nat.le_refl _) _
      have Y1 := (X1.out.below W2.out).below HW0
      have K1 : ([] : List Int).length + xs1.length ≤ 1000000 := by simp; omega
      have K2 : ([] ++ xs1).length + L.length ≤ 1000000 := by simp; omega
      have K3 : (([] ++ xs1) ++ L).length + xs2.length ≤ 1000000 := by simp; omega
      have HPR := Lib.hid (And.intro r1 (And.intro r2 hBL))
      have HHE := Lib.hid HE
      have HHW := Lib.hid HW0
      have HY1 := Lib.hid Y1
      clear HE HW0 Y1 r1 r2 hBL
      go_wp2_with (first | (refine (hnm _).mono ?_; rintro e w' ⟨rfl, rfl⟩) | (at_builtin; refine wpList_app_bytes (v := .slice (some ⟨w2.heap.size, 0, none⟩) 0 0) (xs := []) (p := p1) (ys := xs1) (c := c1) rfl _ _ rfl w2.heap.size rfl HHE.out rfl HY1.out K1 (by simp) ?_))
      intro v3 w3 o3 g3 _
      have hb3 := own_below (by simp) HHW.out HHE.out g3
      have Y2 := Q1'.out.below hb3
      have HB3 := Lib.hid hb3
      have HY2 := Lib.hid Y2
      have HO3 := Lib.hid o3
      have l3 := hb3.size
      simp only [List.nil_append] at K2 K3
      clear g3 o3 hb3 Y2 HHE HHW HY1
      go_wp2_with (first | (at_builtin; refine wpList_app_bytes (v := v3) (xs := xs1) (p := q1) (ys := L) (c := d1) rfl _ _ rfl w2.heap.size rfl HO3.out rfl HY2.out K2 l3 ?_))
      intro v4 w4 o4 g4 _
      have hb4 := own_below l3 HB3.out HO3.out g4
      have Y3 := (X2.out.below W2.out).below hb4
      have HB4 := Lib.hid hb4
      have HY3 := Lib.hid Y3
      have HO4 := Lib.hid o4
      have l4 := hb4.size
      clear g4 o4 hb4 Y3 HO3 HB3 HY2
      go_wp2_with (first | (at_builtin; refine wpList_app_bytes (v := v4) (xs := xs1 ++ L) (p := p2) (ys := xs2) (c := c2) rfl _ _ rfl w2.heap.size rfl HO4.out rfl HY3.out K3 l4 ?_))
      intro v5 w5 o5 g5 _
      have hb5 := own_below l4 HB4.out HO4.out g5
      obtain ⟨p5, c5, rfl, m5, y5, _⟩ := o5.byS
      have hr := HR.out p5 c5 (xs1 ++ (L ++ xs2)) xs1.length k w5 (B1.out.app (HPR.out.2.2.app B2.out)) (by simp; omega) m5 y5 (by omega) (HF.out.below (W2.out.trans (hb5.mono bl)))
      rw [HPR.out.1, HPR.out.2.1] at hr
      have HW5 := Lib.hid (W2.out.trans (hb5.mono bl))
      clear hb5 y5 g5 o5 e1 e2 K1 K2 K3 HO4 HB4 HY3 m5 HPR
      generalize xs1 ++ (L ++ xs2) = X at *
      have HRD := Lib.hid hr
      clear hr X1 X2 B1 B2 HP HR Q1' l3 l4 bl hL4
      go_wp2_with fail
      refine HRD.out.mono ?_
      rintro e w6 ⟨rfl, hb6⟩
      have HW6 := Lib.hid (HW5.out.trans (hb6.mono HW5.out.size))
      clear hb6 HRD HW5
      go_wp2_with (first | (refine (hnm _).mono ?_; rintro e w' ⟨rfl, rfl⟩))
      refine (HY.out _ (HF.out.below HW6.out)).mono ?_
      rintro e w7 ⟨rfl, hb⟩
      have HB := Lib.hid (HW6.out.trans (hb.mono HW6.out.size))
      clear hb
      go_wp2_with fail
      go_ret
      exact ⟨rfl, HB.out⟩
    · generalize putNo n k = no at *
      generalize strOfNums (putL n k) = st at *
      go_wp2_with (first | (refine (hnm _).mono ?_; rintro e w' ⟨rfl, rfl⟩))
      refine (HY.out _ (HF.out.below W2.out)).mono ?_
      rintro e w3 ⟨rfl, hb⟩
      have HB := Lib.hid (W2.out.trans (hb.mono W2.out.size))
      clear hb
      go_wp2_with fail
      go_ret
      exact ⟨rfl, HB.out⟩
end Go.Proofs.YthpmfeijnphdbaaDoor
