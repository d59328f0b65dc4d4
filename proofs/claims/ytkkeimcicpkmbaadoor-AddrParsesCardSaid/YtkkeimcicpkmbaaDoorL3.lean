/- The walk of AddrParses. -/
import Derived.Test.YtkkeimcicpkmbaaDoorA7
import Derived.Test.YtkkeimcicpkmbaaDoorM2
namespace Go.Proofs.YtkkeimcicpkmbaaDoor
open Go Go.RowKit Go.Sort

set_option maxRecDepth 100000 in
set_option maxHeartbeats 3200000 in
theorem law_parses (s : ByteArray) (hs : s.size ≤ maxLen) (w : World) (hF : Fit w) :
    Calls Tryd.prog 5 #[.string s] w fun e w' => e = .returned (.bool true) ∧ Below w.heap.size w w' := by
  have hp := parse_any s
  have hr : ∀ w, Calls Tryd.prog 18 #[.string s] w fun e w' => e = parseEnd s.data.toList ∧ w = w' := fun w => (refParse_any s hs w).mono fun _ _ ⟨he, hw⟩ => ⟨he.trans (parseEnd_ref _), hw⟩
  have hm := hs
  unfold maxLen at hm
  have hl : s.data.toList.length = s.size := by simp
  have HF := Lib.hid hF
  clear hF hs
  by_cases hbig : 60 < (s.size : Int)
  · clear hp hr
    go_enter Tryd.func5, Tryd.ntmps5
    go_wp2_with fail
    refine (works_any _ HF.out).mono ?_
    rintro e w1 ⟨rfl, hb⟩
    have HB1 := Lib.hid hb
    clear hb
    go_wp2
    go_ret
    exact ⟨rfl, HB1.out⟩
  · rcases parsed_cases s.data.toList with ⟨i, hi, hpar⟩ | ⟨a, ha0, ha1, hpar, htx⟩
    · have hend : parseEnd s.data.toList = .returned (.tuple #[.int .u32 0, .int .i64 i, .int .i64 110]) := by unfold parseEnd; rw [hpar]
      rw [hend] at hp hr
      have HP := Lib.hid hp
      have HR := Lib.hid hr
      clear hp hr hpar hend hl hi
      go_enter Tryd.func5, Tryd.ntmps5
      go_wp2_with fail
      refine (HP.out _).mono ?_
      rintro e w1 ⟨rfl, hb⟩
      have HB1 := Lib.hid hb
      clear hb
      go_wp2_with fail
      refine (HR.out _).mono ?_
      rintro e w2 ⟨rfl, rfl⟩
      go_wp2_with fail
      refine (num_any _ _).mono ?_
      rintro e wn ⟨rfl, rfl⟩
      go_wp2_with fail
      refine (works_any _ (HF.out.below HB1.out)).mono ?_
      rintro e w4 ⟨rfl, hb⟩
      have hb' := HB1.out.trans (hb.mono HB1.out.size)
      have HB4 := Lib.hid hb'
      clear hb hb' HB1
      go_wp2
      go_ret
      exact ⟨rfl, HB4.out⟩
    · have hend : parseEnd s.data.toList = .returned (.tuple #[.int .u32 a, .int .i64 s.size, .int .i64 0]) := by unfold parseEnd; rw [hpar, hl]
      have htext : ∀ w, Fit w → Calls Tryd.prog 14 #[.int .u32 a] w fun e w' => e = .returned (.string s) ∧ Below w.heap.size w w' := fun w hF => (text_any a ha0 ha1 w hF).mono fun _ _ ⟨he, hb⟩ => ⟨by rw [he, htx], hb⟩
      rw [hend] at hp hr
      have HP := Lib.hid hp
      have HR := Lib.hid hr
      have HT := Lib.hid htext
      clear hp hr hpar hend hl htx htext
      go_enter Tryd.func5, Tryd.ntmps5
      go_wp2_with fail
      refine (HP.out _).mono ?_
      rintro e w1 ⟨rfl, hb⟩
      have HB1 := Lib.hid hb
      clear hb
      go_wp2_with fail
      refine (HR.out _).mono ?_
      rintro e w2 ⟨rfl, rfl⟩
      go_wp2_with fail
      refine (num_any _ _).mono ?_
      rintro e wn ⟨rfl, rfl⟩
      go_wp2_with fail
      refine (HT.out _ (HF.out.below HB1.out)).mono ?_
      rintro e w3 ⟨rfl, hb⟩
      have hb' := HB1.out.trans (hb.mono HB1.out.size)
      have HB3 := Lib.hid hb'
      clear hb hb' HB1
      go_wp2_with fail
      refine (works_any _ (HF.out.below HB3.out)).mono ?_
      rintro e w4 ⟨rfl, hb⟩
      have hb' := HB3.out.trans (hb.mono HB3.out.size)
      have HB4 := Lib.hid hb'
      clear hb hb' HB3
      go_wp2
      go_ret
      exact ⟨rfl, HB4.out⟩
end Go.Proofs.YtkkeimcicpkmbaaDoor
