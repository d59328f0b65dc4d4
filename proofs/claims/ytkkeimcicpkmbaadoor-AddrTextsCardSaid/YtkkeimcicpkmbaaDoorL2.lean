/- The walk of AddrTexts. -/
import Derived.Test.YtkkeimcicpkmbaaDoorA7
import Derived.Test.YtkkeimcicpkmbaaDoorM1
namespace Go.Proofs.YtkkeimcicpkmbaaDoor
open Go Go.RowKit Go.Sort

theorem parse_of_text (a : Int) (h0 : 0 ≤ a) (h1 : a < 4294967296) (w : World) :
    Calls Tryd.prog 15 #[.string ⟨(txt a).toArray⟩] w fun e w' => e = .returned (.tuple #[.int .u32 a, .int .i64 (txt a).length, .int .i64 0]) ∧ Below w.heap.size w w' :=
  (parse_any ⟨(txt a).toArray⟩ w).mono fun _ _ ⟨he, hb⟩ => ⟨he.trans (parse_txt a h0 h1), hb⟩

set_option maxRecDepth 100000 in
set_option maxHeartbeats 3200000 in
theorem law_texts (a : Int) (h0 : 0 ≤ a) (h1 : a < 4294967296) (w : World) (hF : Fit w) :
    Calls Tryd.prog 4 #[.int .u32 a] w fun e w' => e = .returned (.bool true) ∧ Below w.heap.size w w' := by
  have HF := Lib.hid hF
  clear hF
  have hlen : (ByteArray.mk (txt a).toArray).size = (txt a).length := by show (txt a).toArray.size = _; simp
  have hparse := parse_of_text a h0 h1
  have htext := text_any a h0 h1
  have hrtext := refText_any a h0 h1
  have hl := txt_len a h0 h1
  generalize (txt a).length = n at *
  generalize ByteArray.mk (txt a).toArray = t at *
  have HP := Lib.hid hparse
  have HT := Lib.hid htext
  have HR := Lib.hid hrtext
  clear hparse htext hrtext
  go_enter Tryd.func4, Tryd.ntmps4
  go_wp2_with fail
  refine (HT.out _ HF.out).mono ?_
  rintro e w1 ⟨rfl, hb⟩
  have HB1 := Lib.hid hb
  clear hb
  go_wp2_with fail
  refine (HP.out _).mono ?_
  rintro e w2 ⟨rfl, hb⟩
  have hb' := HB1.out.trans (hb.mono HB1.out.size)
  have HB2 := Lib.hid hb'
  clear hb hb' HB1
  go_wp2_with fail
  refine (HR.out _ (HF.out.below HB2.out)).mono ?_
  rintro e w3 ⟨rfl, hb⟩
  have hb' := HB2.out.trans (hb.mono HB2.out.size)
  have HB3 := Lib.hid hb'
  clear hb hb' HB2
  go_wp2_with fail
  refine (num_any _ _).mono ?_
  rintro e wn ⟨rfl, rfl⟩
  go_wp2_with fail
  refine (works_any _ (HF.out.below HB3.out)).mono ?_
  rintro e w4 ⟨rfl, hb⟩
  have hb' := HB3.out.trans (hb.mono HB3.out.size)
  have HB4 := Lib.hid hb'
  clear hb hb' HB3
  go_wp2
  go_ret
  exact ⟨rfl, HB4.out⟩
end Go.Proofs.YtkkeimcicpkmbaaDoor
