/- Layer 3's examples: works answers true. -/
import Derived.Test.YthpmfeijnphdbaaDoorN2
namespace Go.Proofs.YthpmfeijnphdbaaDoor
open Go Go.RowKit Go.Sort
attribute [local go_sem] Oper.semAt_some

set_option maxRecDepth 100000 in
set_option maxHeartbeats 6400000 in
theorem works3_any : YesC 8 := fun w hf => by
  have HF := Lib.hid hf
  have p1 := oput_c 258 2 w (by decide) (by decide) hf
  rw [show putNo 258 2 = 0 by decide, show putL 258 2 = [1, 2] by decide] at p1
  have HP1 := Lib.hid p1
  have hnum := num3_any
  clear p1 hf
  go_enter Tryd.func8, Tryd.ntmps8
  go_wp2_with fail
  refine HP1.out.mono ?_
  rintro e w1 ⟨q1, d1, rfl, _, hq1, hb1⟩
  have HQ1 := Lib.hid hq1
  have HB1 := Lib.hid hb1
  have p2 := oput_c 256 1 w1 (by decide) (by decide) (HF.out.below hb1)
  rw [show putNo 256 1 = 4 by decide, show putL 256 1 = [] by decide] at p2
  have HP2 := Lib.hid p2
  clear hq1 hb1 p2 HP1
  go_wp2_with fail
  refine HP2.out.mono ?_
  rintro e w2 ⟨q2, d2, rfl, _, _, hb2⟩
  have HQ2 := Lib.hid (HQ1.out.below hb2)
  replace hb2 := HB1.out.trans (hb2.mono HB1.out.size)
  have HB2 := Lib.hid hb2
  have p3 := oput_c 1 3 w2 (by decide) (by decide) (HF.out.below hb2)
  rw [show putNo 1 3 = 2 by decide, show putL 1 3 = [] by decide] at p3
  have HP3 := Lib.hid p3
  clear hb2 p3 HP2 HQ1 HB1
  go_wp2_with fail
  refine HP3.out.mono ?_
  rintro e w3 ⟨q3, d3, rfl, _, _, hb3⟩
  have HQ3 := Lib.hid (HQ2.out.below hb3)
  have HB3 := Lib.hid (HB2.out.trans (hb3.mono HB2.out.size))
  clear hb3 HP3 HQ2 HB2
  have b4 : Below w3.heap.size w3 (w3.alloc (.cells #[.int .u8 1, .int .u8 2, .int .u8 3] 5)) := (Below.refl _ _).alloc (Nat.le_refl _) _
  have y4 : ByS (w3.alloc (.cells #[.int .u8 1, .int .u8 2, .int .u8 3] 5)) (some ⟨w3.heap.size, 0, none⟩) [1, 2, 3] := ByS.ofBlk (t := 5) (r := []) (Blk.new w3 5 #[.int .u8 1, .int .u8 2, .int .u8 3])
  have p4 := oread_any (some ⟨w3.heap.size, 0, none⟩) 3 [1, 2, 3] (by unfold IsBytes; decide) (by decide) (by decide) 1 2 (by decide) _ y4 ((HF.out.below HB3.out).below b4)
  rw [show readN [1, 2, 3] 1 2 = 515 by decide, show readNo [1, 2, 3] 1 2 = 0 by decide] at p4
  have HP4 := Lib.hid p4
  have HY4 := Lib.hid y4
  have HB4 := Lib.hid b4
  clear b4 y4 p4
  go_wp2_with fail
  refine HP4.out.mono ?_
  rintro e w4 ⟨rfl, e4⟩
  have HQ4 := Lib.hid (HQ3.out.below HB4.out)
  have HB5 := Lib.hid (HB3.out.trans (HB4.out.mono HB3.out.size))
  clear HP4 HY4 HB4 HQ3 HB3
  rw [e4] at HQ4 HB5
  clear e4
  have b4 : Below w4.heap.size w4 (w4.alloc (.cells #[.int .u8 1, .int .u8 2, .int .u8 3] 5)) := (Below.refl _ _).alloc (Nat.le_refl _) _
  have y4 : ByS (w4.alloc (.cells #[.int .u8 1, .int .u8 2, .int .u8 3] 5)) (some ⟨w4.heap.size, 0, none⟩) [1, 2, 3] := ByS.ofBlk (t := 5) (r := []) (Blk.new w4 5 #[.int .u8 1, .int .u8 2, .int .u8 3])
  have p4 := oread_any (some ⟨w4.heap.size, 0, none⟩) 3 [1, 2, 3] (by unfold IsBytes; decide) (by decide) (by decide) 2 2 (by decide) _ y4 ((HF.out.below HB5.out).below b4)
  rw [show readN [1, 2, 3] 2 2 = 0 by decide, show readNo [1, 2, 3] 2 2 = 130 by decide] at p4
  have HP4 := Lib.hid p4
  have HB4 := Lib.hid b4
  clear b4 y4 p4
  go_wp2_with fail
  refine HP4.out.mono ?_
  rintro e w5 ⟨rfl, e4⟩
  have HQ5 := Lib.hid (HQ4.out.below HB4.out)
  have HB6 := Lib.hid (HB5.out.trans (HB4.out.mono HB5.out.size))
  clear HP4 HB4 HQ4 HB5
  rw [e4] at HQ5 HB6
  clear e4
  have b4 : Below w5.heap.size w5 (w5.alloc (.cells #[.int .u8 0, .int .u8 1, .int .u8 2] 5)) := (Below.refl _ _).alloc (Nat.le_refl _) _
  have y4 : ByS (w5.alloc (.cells #[.int .u8 0, .int .u8 1, .int .u8 2] 5)) (some ⟨w5.heap.size, 0, none⟩) [0, 1, 2] := ByS.ofBlk (t := 5) (r := []) (Blk.new w5 5 #[.int .u8 0, .int .u8 1, .int .u8 2])
  have p4 := new3_any (some ⟨w5.heap.size, 0, none⟩) 3 [0, 1, 2] _ (by unfold IsBytes; decide) (by decide) y4
  have HP4 := Lib.hid p4
  have HB4 := Lib.hid b4
  clear b4 y4 p4
  go_wp2_with fail
  refine HP4.out.mono ?_
  rintro e w6 ⟨r, rfl, hr6, hrl, hb6⟩
  have hr1 : w5.heap.size ≤ r := by simp at hrl; omega
  have HB7 := Lib.hid (HB4.out.trans (hb6.mono (by simp)))
  have t7 := take3_any w6 r [0, 1, 2] 0 2 hr6 (by decide) ((HF.out.below HB6.out).below HB7.out)
  simp only [show readN [0, 1, 2] ((0 : Nat) : Int) 2 = 1 by decide, show readNo [0, 1, 2] ((0 : Nat) : Int) 2 = 0 by decide, if_true] at t7
  have HT7 := Lib.hid t7
  clear t7 hr6 hrl hb6 HP4 HB4
  go_wp2_with fail
  refine HT7.out.mono ?_
  rintro e w7 ⟨rfl, hr7, hg7⟩
  have HB8 := Lib.hid (HB7.out.grown hg7 HB7.out.size (fun k hk => by cases hk; exact hr1))
  have HR7 := Lib.hid hr7
  have HL7 := Lib.hid (left3_any w7 r [0, 1, 2] _ hr7 (by decide))
  clear hr7 hg7 HT7 HB7
  go_wp2_with fail
  refine HL7.out.mono ?_
  rintro e w8 ⟨rfl, hb8⟩
  have hr8 := HR7.out.keep hb8
  have HB9 := Lib.hid (HB8.out.trans (hb8.mono HB8.out.size))
  have t9 := take3_any w8 r [0, 1, 2] _ 2 hr8 (by decide) ((HF.out.below HB6.out).below HB9.out)
  simp only [show ((0 + (2 : Int).toNat : Nat) : Int) = 2 by decide, show readN [0, 1, 2] 2 2 = 0 by decide, show readNo [0, 1, 2] 2 2 = 130 by decide, show ¬ (130 : Int) = 0 by decide, if_false] at t9
  have HT9 := Lib.hid t9
  clear t9 hr8 hb8 HL7 HR7 HB8
  go_wp2_with fail
  refine HT9.out.mono ?_
  rintro e w9 ⟨rfl, hr9, hg9⟩
  have HB10 := Lib.hid (HB9.out.grown hg9 HB9.out.size (fun k hk => by cases hk; exact hr1))
  have t10 := take3_any w9 r [0, 1, 2] _ 1 hr9 (by decide) ((HF.out.below HB6.out).below HB10.out)
  simp only [show ((0 + (2 : Int).toNat : Nat) : Int) = 2 by decide, show readN [0, 1, 2] 2 1 = 2 by decide, show readNo [0, 1, 2] 2 1 = 0 by decide, if_true] at t10
  have HT10 := Lib.hid t10
  clear t10 hr9 hg9 HT9 HB9
  go_wp2_with fail
  refine HT10.out.mono ?_
  rintro e w10 ⟨rfl, hr10, hg10⟩
  have HB11 := Lib.hid (HB10.out.grown hg10 HB10.out.size (fun k hk => by cases hk; exact hr1))
  have c1 := conv_bytes (HQ5.out.below HB11.out) d1
  have HA := Lib.hid (at3_any w10 r [0, 1, 2] _ hr10)
  have HS := Lib.hid (rest3_any w10 r [0, 1, 2] _ hr10 (by decide))
  have ex : strOfNums [1, 2] = ⟨#[1, 2]⟩ := by decide
  simp only [show [(1 : Int), 2].length = 2 from rfl, ex] at c1
  clear hr10 hg10 HT10 HB10 ex
  go_wp2_with (first | (refine (hnum _ _).mono ?_; rintro e w' ⟨rfl, rfl⟩) | (refine HA.out.mono ?_; rintro e w' ⟨rfl, rfl⟩))
  refine HS.out.mono ?_
  rintro e w11 ⟨v, rfl, ho, hb⟩
  obtain ⟨p, c, rfl, _⟩ := ho.byS
  rw [show (List.drop (0 + (2 : Int).toNat + (1 : Int).toNat) [(0 : Int), 1, 2]).length = 0 by decide]
  have HB12 := Lib.hid (HB6.out.trans ((HB11.out.trans (hb.mono HB11.out.size)).mono HB6.out.size))
  clear ho hb HS HA
  go_wp2_with (first | (refine (hnum _ _).mono ?_; rintro e w' ⟨rfl, rfl⟩) | (refine HA.out.mono ?_; rintro e w' ⟨rfl, rfl⟩))
  go_ret
  exact ⟨rfl, HB12.out⟩
end Go.Proofs.YthpmfeijnphdbaaDoor
