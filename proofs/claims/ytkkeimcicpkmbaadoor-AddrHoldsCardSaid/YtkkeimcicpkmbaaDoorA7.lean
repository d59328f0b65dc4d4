/- Contract of layer 1's rows of examples: works. -/
import Derived.Test.YtkkeimcicpkmbaaDoorA6
import Derived.Test.YtkkeimcicpkmbaaDoorA3
namespace Go.Proofs.YtkkeimcicpkmbaaDoor
open Go Go.RowKit

theorem parseRow1 (w : World) : Calls Tryd.prog 15 #[.string ⟨#[49, 48, 46, 48, 46, 49, 46, 50]⟩] w fun e w' => e = .returned (.tuple #[.int .u32 167772418, .int .i64 8, .int .i64 0]) ∧ Below w.heap.size w w' :=
  (parse_any ⟨#[49, 48, 46, 48, 46, 49, 46, 50]⟩ w).mono fun _ _ ⟨he, hb⟩ => ⟨he.trans (show parseEnd [49, 48, 46, 48, 46, 49, 46, 50] = _ from rfl), hb⟩
theorem parseRow2 (w : World) : Calls Tryd.prog 15 #[.string ⟨#[49, 48, 46, 48, 46, 49]⟩] w fun e w' => e = .returned (.tuple #[.int .u32 0, .int .i64 6, .int .i64 110]) ∧ Below w.heap.size w w' :=
  (parse_any ⟨#[49, 48, 46, 48, 46, 49]⟩ w).mono fun _ _ ⟨he, hb⟩ => ⟨he.trans (show parseEnd [49, 48, 46, 48, 46, 49] = _ from rfl), hb⟩
theorem parseRow3 (w : World) : Calls Tryd.prog 15 #[.string ⟨#[49, 48, 46, 50, 53, 54, 46, 49, 46, 49]⟩] w fun e w' => e = .returned (.tuple #[.int .u32 0, .int .i64 5, .int .i64 110]) ∧ Below w.heap.size w w' :=
  (parse_any ⟨#[49, 48, 46, 50, 53, 54, 46, 49, 46, 49]⟩ w).mono fun _ _ ⟨he, hb⟩ => ⟨he.trans (show parseEnd [49, 48, 46, 50, 53, 54, 46, 49, 46, 49] = _ from rfl), hb⟩
theorem parseRow4 (w : World) : Calls Tryd.prog 15 #[.string ⟨#[49, 48, 46, 48, 49, 46, 49, 46, 49]⟩] w fun e w' => e = .returned (.tuple #[.int .u32 0, .int .i64 4, .int .i64 110]) ∧ Below w.heap.size w w' :=
  (parse_any ⟨#[49, 48, 46, 48, 49, 46, 49, 46, 49]⟩ w).mono fun _ _ ⟨he, hb⟩ => ⟨he.trans (show parseEnd [49, 48, 46, 48, 49, 46, 49, 46, 49] = _ from rfl), hb⟩
theorem parseRow5 (w : World) : Calls Tryd.prog 15 #[.string ⟨#[49, 48, 46, 48, 46, 49, 46, 50, 46]⟩] w fun e w' => e = .returned (.tuple #[.int .u32 0, .int .i64 8, .int .i64 110]) ∧ Below w.heap.size w w' :=
  (parse_any ⟨#[49, 48, 46, 48, 46, 49, 46, 50, 46]⟩ w).mono fun _ _ ⟨he, hb⟩ => ⟨he.trans (show parseEnd [49, 48, 46, 48, 46, 49, 46, 50, 46] = _ from rfl), hb⟩

theorem txtRow : txt 167772418 = [49, 48, 46, 48, 46, 49, 46, 50] := by
  simp [txt, pt, Lib.itoa, Lib.decDigits]
theorem kindRow1 : kindOf 167772418 = 6 := by decide
theorem kindRow2 : kindOf 2130706433 = 3 := by decide
theorem kindRow3 : kindOf 1 = 2 := by decide

theorem textRow (w : World) (hF : Fit w) : Calls Tryd.prog 14 #[.int .u32 167772418] w fun e w' => e = .returned (.string ⟨#[49, 48, 46, 48, 46, 49, 46, 50]⟩) ∧ Below w.heap.size w w' :=
  (text_any 167772418 (by omega) (by omega) w hF).mono fun _ _ ⟨he, hb⟩ => ⟨by rw [he, txtRow], hb⟩
theorem kindRowA (w : World) : Calls Tryd.prog 11 #[.int .u32 167772418] w fun e w' => e = .returned (.int .i64 6) ∧ Below w.heap.size w w' :=
  (kind_any 167772418 (by omega) (by omega) w).mono fun _ _ ⟨he, hb⟩ => ⟨by rw [he, kindRow1], hb⟩
theorem kindRowB (w : World) : Calls Tryd.prog 11 #[.int .u32 2130706433] w fun e w' => e = .returned (.int .i64 3) ∧ Below w.heap.size w w' :=
  (kind_any 2130706433 (by omega) (by omega) w).mono fun _ _ ⟨he, hb⟩ => ⟨by rw [he, kindRow2], hb⟩
theorem kindRowC (w : World) : Calls Tryd.prog 11 #[.int .u32 1] w fun e w' => e = .returned (.int .i64 2) ∧ Below w.heap.size w w' :=
  (kind_any 1 (by omega) (by omega) w).mono fun _ _ ⟨he, hb⟩ => ⟨by rw [he, kindRow3], hb⟩

set_option maxRecDepth 100000 in
set_option maxHeartbeats 3200000 in
theorem works_any (w : World) (hF : Fit w) :
    Calls Tryd.prog 13 #[] w fun e w' => e = .returned (.bool true) ∧ Below w.heap.size w w' := by
  have HF := Lib.hid hF
  clear hF
  go_enter Tryd.func13, Tryd.ntmps13
  go_wp2_with fail
  refine (parseRow1 _).mono ?_
  rintro e w1 ⟨rfl, hb⟩
  have HB1 := Lib.hid hb
  clear hb
  go_wp2_with fail
  refine (parseRow2 _).mono ?_
  rintro e w2 ⟨rfl, hb⟩
  have hb' := HB1.out.trans (hb.mono HB1.out.size)
  have HB2 := Lib.hid hb'
  clear hb hb' HB1
  go_wp2_with fail
  refine (parseRow3 _).mono ?_
  rintro e w3 ⟨rfl, hb⟩
  have hb' := HB2.out.trans (hb.mono HB2.out.size)
  have HB3 := Lib.hid hb'
  clear hb hb' HB2
  go_wp2_with fail
  refine (parseRow4 _).mono ?_
  rintro e w4 ⟨rfl, hb⟩
  have hb' := HB3.out.trans (hb.mono HB3.out.size)
  have HB4 := Lib.hid hb'
  clear hb hb' HB3
  go_wp2_with fail
  refine (parseRow5 _).mono ?_
  rintro e w5 ⟨rfl, hb⟩
  have hb' := HB4.out.trans (hb.mono HB4.out.size)
  have HB5 := Lib.hid hb'
  clear hb hb' HB4
  go_wp2_with fail
  refine (textRow _ (HF.out.below HB5.out)).mono ?_
  rintro e w6 ⟨rfl, hb⟩
  have hb' := HB5.out.trans (hb.mono HB5.out.size)
  have HB6 := Lib.hid hb'
  clear hb hb' HB5
  go_wp2_with fail
  refine (num_any _ _).mono ?_
  rintro e wn ⟨rfl, rfl⟩
  go_wp2_with fail
  refine (kindRowA _).mono ?_
  rintro e w7 ⟨rfl, hb⟩
  have hb' := HB6.out.trans (hb.mono HB6.out.size)
  have HB7 := Lib.hid hb'
  clear hb hb' HB6
  go_wp2_with fail
  refine (num_any _ _).mono ?_
  rintro e wn ⟨rfl, rfl⟩
  go_wp2_with fail
  refine (num_any _ _).mono ?_
  rintro e wn ⟨rfl, rfl⟩
  go_wp2_with fail
  refine (num_any _ _).mono ?_
  rintro e wn ⟨rfl, rfl⟩
  go_wp2_with fail
  refine (num_any _ _).mono ?_
  rintro e wn ⟨rfl, rfl⟩
  go_wp2_with fail
  refine (kindRowB _).mono ?_
  rintro e w8 ⟨rfl, hb⟩
  have hb' := HB7.out.trans (hb.mono HB7.out.size)
  have HB8 := Lib.hid hb'
  clear hb hb' HB7
  go_wp2_with fail
  refine (kindRowC _).mono ?_
  rintro e w9 ⟨rfl, hb⟩
  have hb' := HB8.out.trans (hb.mono HB8.out.size)
  have HB9 := Lib.hid hb'
  clear hb hb' HB8
  go_wp2
  go_ret
  exact ⟨rfl, HB9.out⟩
end Go.Proofs.YtkkeimcicpkmbaaDoor
