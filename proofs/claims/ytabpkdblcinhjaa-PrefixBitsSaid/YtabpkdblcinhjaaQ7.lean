/- The walk of PrefixBits (laid by tools/gen/q7.py). -/
import Derived.Test.YtabpkdblcinhjaaK4
import Derived.Test.YtabpkdblcinhjaaC8
namespace Go.Proofs.Ytabpkdblcinhjaa
open Go Go.RowKit Go.Sort
attribute [local go_sem] Oper.semAt_some
attribute [local irreducible] wpQuiet

/-- Both tell of the same Len. -/
theorem lens_same (a : Int) (a0 : 0 ≤ a) (a1 : a < 4294967296) : ∃ kk gg : Int, (∀ w : World, Calls Try.prog 9 #[.int .u32 a] w fun e w' => e = .returned (.tuple #[.int .i64 kk, .int .i64 gg]) ∧ w = w') ∧
    (∀ w : World, Calls Try.prog 10 #[.int .u32 a] w fun e w' => e = .returned (.tuple #[.int .i64 kk, .int .i64 gg]) ∧ w = w') := by
  by_cases h : ∃ k : Nat, k ≤ 32 ∧ maskOf k = a
  · obtain ⟨k, hk, hm⟩ := h
    refine ⟨k, 0, fun w => (len2_any a a0 a1 w).mono ?_, fun w => (refLen_any a w).mono ?_⟩ <;>
    · rintro e w' ⟨⟨j, hj, hm2, rfl⟩ | ⟨hn, _⟩, hw⟩
      · rw [maskOf_inj j k hj hk (hm2.trans hm.symm)]; exact ⟨rfl, hw⟩
      · exact absurd hm (hn k hk)
  · refine ⟨0, 120, fun w => (len2_any a a0 a1 w).mono ?_, fun w => (refLen_any a w).mono ?_⟩ <;>
    · rintro e w' ⟨⟨j, hj, hm2, rfl⟩ | ⟨_, he⟩, hw⟩
      · exact absurd ⟨j, hj, hm2⟩ h
      · exact ⟨he, hw⟩
theorem len_mask (N : Nat) (hN : N ≤ 32) (w : World) : Calls Try.prog 9 #[.int .u32 (maskOf N)] w fun e w' => e = .returned (.tuple #[.int .i64 N, .int .i64 0]) ∧ w = w' :=
  (len2_any _ (maskOf_range N).1 (maskOf_range N).2 w).mono fun _ _ ⟨he, hw⟩ => ⟨by
    rcases he with ⟨k, hk, h, rfl⟩ | ⟨hn, _⟩
    · rw [maskOf_inj k N hk hN h]
    · exact absurd rfl (hn N hN), hw⟩
theorem has_cutTo (a : Int) (N : Nat) (hN : N ≤ 32) : hasP (cutTo a N) N a := (has_cut ⟨by omega, by omega⟩).2 (by simp)


set_option maxRecDepth 100000 in
set_option maxHeartbeats 6400000 in
theorem law02_bits_fr (x l a : Int) (N : Nat) (hN : N ≤ 32) (x0 : 0 ≤ x) (x1 : x < 4294967296) (a0 : 0 ≤ a) (a1 : a < 4294967296) (hr : right x l) (w : World) :
    Calls Try.prog 3 #[pfx x l, .int .u32 a, .int .i64 N] w fun e w' => e = .returned (.bool true) ∧ Below w.heap.size w w' := by
  obtain ⟨kk, gg, hl1, hl2⟩ := lens_same a a0 a1
  have HL1 := Lib.hid hl1
  have HL2 := Lib.hid hl2
  clear hl1 hl2
  have HR : Hid (decide (right x l) = true) := by show decide _ = _; simpa using hr
  have HC : Hid (chk x l = 0) := if_pos hr
  have hlo : (0 : Int) ≤ N := by omega
  have hhi : (N : Int) ≤ 32 := by omega
  have HO1 : Hid (ofA a N = cutTo a N) := by show ofA a N = _; unfold ofA; rw [if_pos ⟨hlo, hhi⟩]; rfl
  have HO2 : Hid (ofL N = N) := if_pos ⟨hlo, hhi⟩
  have HO3 : Hid (okA N = 0) := if_pos ⟨hlo, hhi⟩
  have HM : Hid (maskA N = maskOf N) := by show maskA N = _; unfold maskA; rw [if_pos ⟨hlo, hhi⟩]; rfl
  have HHC : Hid (decide (hasP (cutTo a N) N a) = true) := decide_eq_true (has_cutTo a N hN)
  have HCR : Hid (0 ≤ cutTo a N ∧ cutTo a N < 4294967296) := ⟨cutTo_nonneg a N a0, cutTo_lt a N a1⟩
  have HNN := Lib.hid hN
  have hbo := fun w => bit2_any a N a0 a1 w
  have hbr := fun w => refBit_any a N a0 a1 w
  have hho := fun w => has2_any x l a a0 a1 w
  have hhr := fun w => refHas_any x l a x0 x1 a0 a1 w
  generalize bitOf a N = bt at *
  generalize decide (hasP x l a) = hb2 at *
  have HBO := Lib.hid hbo
  have HBR := Lib.hid hbr
  have HHO := Lib.hid hho
  have HHR := Lib.hid hhr
  clear hbo hbr hho hhr hr hN
  go_enter Try.func3, Try.ntmps3
  go_wp2_with fail
  have hv := Below.refl w.heap.size w
  have hv := hv.alloc hv.size (.cells #[.int .u32 x, .int .i64 l] 25)
  have xTA : Blk (w.alloc (.cells #[.int .u32 x, .int .i64 l] 25)) (w.heap.size) 25 #[.int .u32 x, .int .i64 l] := by
    have := Blk.new w 25 #[.int .u32 x, .int .i64 l]
    simpa using this
  generalize hvv : (w.alloc (.cells #[.int .u32 x, .int .i64 l] 25)) = v1 at *
  clear hvv
  have HV := Lib.hid hv
  have TA := Lib.hid xTA
  clear hv xTA
  refine (of2_any a N a0 a1 _).mono ?_
  rw [HO1.out, HO2.out, HO3.out]
  rintro e w1 ⟨rfl, hb⟩
  have hv := HV.out.trans (hb.mono HV.out.size)
  have xTA := TA.out.below hb TA.out.lt
  clear hb HV TA
  have HV := Lib.hid hv
  have TA := Lib.hid xTA
  clear hv xTA
  go_wp2_with fail
  have hv := HV.out
  have hv := hv.alloc hv.size (.cells #[.int .u32 (cutTo a N), .int .i64 N] 25)
  have xTA := (TA.out).alloc (.cells #[.int .u32 (cutTo a N), .int .i64 N] 25)
  have xTX : Blk (w1.alloc (.cells #[.int .u32 (cutTo a N), .int .i64 N] 25)) (w1.heap.size) 25 #[.int .u32 (cutTo a N), .int .i64 N] := by
    have := Blk.new w1 25 #[.int .u32 (cutTo a N), .int .i64 N]
    simpa using this
  generalize hvv : (w1.alloc (.cells #[.int .u32 (cutTo a N), .int .i64 N] 25)) = v2 at *
  clear hvv
  generalize w1.heap.size = gTX at *
  clear HV TA
  have HV := Lib.hid hv
  have TA := Lib.hid xTA
  have TX := Lib.hid xTX
  clear hv xTA xTX
  refine (mask_any N _).mono ?_
  rw [HM.out, HO3.out]
  rintro e wn2 ⟨rfl, rfl⟩
  go_wp2_with fail
  refine (HL1.out _).mono ?_
  rintro e wn3 ⟨rfl, rfl⟩
  go_wp2_with fail
  refine (HL2.out _).mono ?_
  rintro e wn4 ⟨rfl, rfl⟩
  go_wp2_with fail
  have kTA0 := TA.out.cell 0
  have kTA1 := TA.out.cell 1
  simp only [List.getElem?_toArray, List.getElem?_cons_zero, List.getElem?_cons_succ] at kTA0 kTA1
  have rkTA0 := cell_regrown kTA0
  have rkTA1 := cell_regrown kTA1
  have cC : ∀ d os, Calls Try.prog 12 #[.agg #[.int .u32 x, .int .i64 l]] (grow (redrawn v2 d) os) fun e w'' => e = .returned (.int .i64 0) ∧ ∃ p : Regrown, w'' = grow (redrawn v2 p.d) p.os := fun d os => Calls.regrown_of (by have := check_any x l x0 x1 (grow (redrawn v2 d) os); rw [HC.out] at this; exact this)
  have cN : ∀ (n : Int) d os, Calls Try.prog 11 #[.int .i64 n] (grow (redrawn v2 d) os) fun e w'' => e = .returned (.int .i64 n) ∧ ∃ p : Regrown, w'' = grow (redrawn v2 p.d) p.os := fun n d os => Calls.regrown_of ((num02_any n _).mono fun _ _ ⟨he, hw⟩ => ⟨he, by rw [← hw]; exact Below.refl _ _⟩)
  have cR : ∀ d os, Calls Try.prog 13 #[.agg #[.int .u32 x, .int .i64 l]] (grow (redrawn v2 d) os) fun e w'' => e = .returned (.bool true) ∧ ∃ p : Regrown, w'' = grow (redrawn v2 p.d) p.os := fun d os => Calls.regrown_of (by have := refRight_any x l x0 x1 (grow (redrawn v2 d) os); rw [HR.out] at this; exact this)
  have cH : ∀ d os, Calls Try.prog 14 #[.agg #[.int .u32 x, .int .i64 l], .int .u32 a] (grow (redrawn v2 d) os) fun e w'' => e = .returned (.bool hb2) ∧ ∃ p : Regrown, w'' = grow (redrawn v2 p.d) p.os := fun d os => Calls.regrown_of (HHO.out _)
  have cG : ∀ d os, Calls Try.prog 15 #[.agg #[.int .u32 x, .int .i64 l], .int .u32 a] (grow (redrawn v2 d) os) fun e w'' => e = .returned (.bool hb2) ∧ ∃ p : Regrown, w'' = grow (redrawn v2 p.d) p.os := fun d os => Calls.regrown_of (HHR.out _)
  have cB : ∀ d os, Calls Try.prog 16 #[.int .u32 a, .int .i64 N] (grow (redrawn v2 d) os) fun e w'' => e = .returned (.int .i64 bt) ∧ ∃ p : Regrown, w'' = grow (redrawn v2 p.d) p.os := fun d os => Calls.regrown_of ((HBO.out _).mono fun _ _ ⟨he, hw⟩ => ⟨he, by rw [← hw]; exact Below.refl _ _⟩)
  have cD : ∀ d os, Calls Try.prog 17 #[.int .u32 a, .int .i64 N] (grow (redrawn v2 d) os) fun e w'' => e = .returned (.int .i64 bt) ∧ ∃ p : Regrown, w'' = grow (redrawn v2 p.d) p.os := fun d os => Calls.regrown_of ((HBR.out _).mono fun _ _ ⟨he, hw⟩ => ⟨he, by rw [← hw]; exact Below.refl _ _⟩)
  clear kTA0 kTA1
  refine wp_region_quiet_below (by kernel_rfl) (by kernel_rfl) ?_
  try simp only [List.append_eq, List.cons_append, List.nil_append]
  repeat (go_big_quiet_step (first | (with_reducible exact cC _ _) | (with_reducible exact cN _ _ _) | (with_reducible exact cR _ _) | (with_reducible exact cH _ _) | (with_reducible exact cG _ _) | (with_reducible exact cB _ _) | (with_reducible exact cD _ _)))
  refine wpQuiet_nil ?_
  intro wq hwq
  obtain ⟨⟨dq, osq⟩, rfl⟩ := hwq
  have hb := below_regrown v2 dq osq
  have hv := HV.out.trans (hb.mono HV.out.size)
  have xTA := TA.out.below hb TA.out.lt
  have xTX := TX.out.below hb TX.out.lt
  generalize grow (redrawn v2 dq) osq = w5 at *
  clear hb HV TA TX rkTA0 rkTA1 cC cN cR cH cG cB cD
  have HV := Lib.hid hv
  have TA := Lib.hid xTA
  have TX := Lib.hid xTX
  clear hv xTA xTX
  go_wp2_with fail
  refine (len_mask N HNN.out _).mono ?_
  rintro e wn6 ⟨rfl, rfl⟩
  go_wp2_with fail
  have kTX0 := TX.out.cell 0
  have kTX1 := TX.out.cell 1
  simp only [List.getElem?_toArray, List.getElem?_cons_zero, List.getElem?_cons_succ] at kTX0 kTX1
  have rkTX0 := cell_regrown kTX0
  have rkTX1 := cell_regrown kTX1
  have cN : ∀ (n : Int) d os, Calls Try.prog 11 #[.int .i64 n] (grow (redrawn w5 d) os) fun e w'' => e = .returned (.int .i64 n) ∧ ∃ p : Regrown, w'' = grow (redrawn w5 p.d) p.os := fun n d os => Calls.regrown_of ((num02_any n _).mono fun _ _ ⟨he, hw⟩ => ⟨he, by rw [← hw]; exact Below.refl _ _⟩)
  have cO : ∀ d os, Calls Try.prog 19 #[.int .u32 a, .int .i64 N] (grow (redrawn w5 d) os) fun e w'' => e = .returned (.agg #[.int .u32 (cutTo a N), .int .i64 N]) ∧ ∃ p : Regrown, w'' = grow (redrawn w5 p.d) p.os := fun d os => Calls.regrown_of (refOf_any a a0 a1 N HNN.out _)
  have cM : ∀ d os, Calls Try.prog 20 #[.int .i64 N] (grow (redrawn w5 d) os) fun e w'' => e = .returned (.int .u32 (maskOf N)) ∧ ∃ p : Regrown, w'' = grow (redrawn w5 p.d) p.os := fun d os => Calls.regrown_of ((refMask_any N HNN.out _).mono fun _ _ ⟨he, hw⟩ => ⟨he, by rw [← hw]; exact Below.refl _ _⟩)
  have cH : ∀ d os, Calls Try.prog 14 #[.agg #[.int .u32 (cutTo a N), .int .i64 N], .int .u32 a] (grow (redrawn w5 d) os) fun e w'' => e = .returned (.bool true) ∧ ∃ p : Regrown, w'' = grow (redrawn w5 p.d) p.os := fun d os => Calls.regrown_of (by have := has2_any (cutTo a N) N a a0 a1 (grow (redrawn w5 d) os); rw [HHC.out] at this; exact this)
  have cW : ∀ d os, Calls Try.prog 18 #[] (grow (redrawn w5 d) os) fun e w'' => e = .returned (.bool true) ∧ ∃ p : Regrown, w'' = grow (redrawn w5 p.d) p.os := fun d os => Calls.regrown_of (works02_any _)
  clear kTX0 kTX1
  refine wp_region_quiet_below (by kernel_rfl) (by kernel_rfl) ?_
  try simp only [List.append_eq, List.cons_append, List.nil_append]
  repeat (go_big_quiet_step (first | (with_reducible exact cN _ _ _) | (with_reducible exact cO _ _) | (with_reducible exact cM _ _) | (with_reducible exact cH _ _) | (with_reducible exact cW _ _)))
  refine wpQuiet_nil ?_
  intro wq hwq
  obtain ⟨⟨dq, osq⟩, rfl⟩ := hwq
  have hb := below_regrown w5 dq osq
  have hv := HV.out.trans (hb.mono HV.out.size)
  have xTA := TA.out.below hb TA.out.lt
  have xTX := TX.out.below hb TX.out.lt
  generalize grow (redrawn w5 dq) osq = w7 at *
  clear hb HV TA TX rkTX0 rkTX1 cN cO cM cH cW
  have HV := Lib.hid hv
  have TA := Lib.hid xTA
  have TX := Lib.hid xTX
  clear hv xTA xTX
  go_wp2_with fail
  go_ret
  exact ⟨rfl, HV.out⟩

set_option maxRecDepth 100000 in
set_option maxHeartbeats 6400000 in
theorem law02_bits_fw (x l a : Int) (N : Nat) (hN : N ≤ 32) (x0 : 0 ≤ x) (x1 : x < 4294967296) (a0 : 0 ≤ a) (a1 : a < 4294967296) (hr : ¬ right x l) (w : World) :
    Calls Try.prog 3 #[pfx x l, .int .u32 a, .int .i64 N] w fun e w' => e = .returned (.bool true) ∧ Below w.heap.size w w' := by
  obtain ⟨kk, gg, hl1, hl2⟩ := lens_same a a0 a1
  have HL1 := Lib.hid hl1
  have HL2 := Lib.hid hl2
  clear hl1 hl2
  have HR : Hid (decide (right x l) = false) := by show decide _ = _; simpa using hr
  have HC : Hid (chk x l = 2) := if_neg hr
  have hlo : (0 : Int) ≤ N := by omega
  have hhi : (N : Int) ≤ 32 := by omega
  have HO1 : Hid (ofA a N = cutTo a N) := by show ofA a N = _; unfold ofA; rw [if_pos ⟨hlo, hhi⟩]; rfl
  have HO2 : Hid (ofL N = N) := if_pos ⟨hlo, hhi⟩
  have HO3 : Hid (okA N = 0) := if_pos ⟨hlo, hhi⟩
  have HM : Hid (maskA N = maskOf N) := by show maskA N = _; unfold maskA; rw [if_pos ⟨hlo, hhi⟩]; rfl
  have HHC : Hid (decide (hasP (cutTo a N) N a) = true) := decide_eq_true (has_cutTo a N hN)
  have HCR : Hid (0 ≤ cutTo a N ∧ cutTo a N < 4294967296) := ⟨cutTo_nonneg a N a0, cutTo_lt a N a1⟩
  have HNN := Lib.hid hN
  have hbo := fun w => bit2_any a N a0 a1 w
  have hbr := fun w => refBit_any a N a0 a1 w
  have hho := fun w => has2_any x l a a0 a1 w
  have hhr := fun w => refHas_any x l a x0 x1 a0 a1 w
  generalize bitOf a N = bt at *
  generalize decide (hasP x l a) = hb2 at *
  have HBO := Lib.hid hbo
  have HBR := Lib.hid hbr
  have HHO := Lib.hid hho
  have HHR := Lib.hid hhr
  clear hbo hbr hho hhr hr hN
  go_enter Try.func3, Try.ntmps3
  go_wp2_with fail
  have hv := Below.refl w.heap.size w
  have hv := hv.alloc hv.size (.cells #[.int .u32 x, .int .i64 l] 25)
  have xTA : Blk (w.alloc (.cells #[.int .u32 x, .int .i64 l] 25)) (w.heap.size) 25 #[.int .u32 x, .int .i64 l] := by
    have := Blk.new w 25 #[.int .u32 x, .int .i64 l]
    simpa using this
  generalize hvv : (w.alloc (.cells #[.int .u32 x, .int .i64 l] 25)) = v1 at *
  clear hvv
  have HV := Lib.hid hv
  have TA := Lib.hid xTA
  clear hv xTA
  refine (of2_any a N a0 a1 _).mono ?_
  rw [HO1.out, HO2.out, HO3.out]
  rintro e w1 ⟨rfl, hb⟩
  have hv := HV.out.trans (hb.mono HV.out.size)
  have xTA := TA.out.below hb TA.out.lt
  clear hb HV TA
  have HV := Lib.hid hv
  have TA := Lib.hid xTA
  clear hv xTA
  go_wp2_with fail
  have hv := HV.out
  have hv := hv.alloc hv.size (.cells #[.int .u32 (cutTo a N), .int .i64 N] 25)
  have xTA := (TA.out).alloc (.cells #[.int .u32 (cutTo a N), .int .i64 N] 25)
  have xTX : Blk (w1.alloc (.cells #[.int .u32 (cutTo a N), .int .i64 N] 25)) (w1.heap.size) 25 #[.int .u32 (cutTo a N), .int .i64 N] := by
    have := Blk.new w1 25 #[.int .u32 (cutTo a N), .int .i64 N]
    simpa using this
  generalize hvv : (w1.alloc (.cells #[.int .u32 (cutTo a N), .int .i64 N] 25)) = v2 at *
  clear hvv
  generalize w1.heap.size = gTX at *
  clear HV TA
  have HV := Lib.hid hv
  have TA := Lib.hid xTA
  have TX := Lib.hid xTX
  clear hv xTA xTX
  refine (mask_any N _).mono ?_
  rw [HM.out, HO3.out]
  rintro e wn2 ⟨rfl, rfl⟩
  go_wp2_with fail
  refine (HL1.out _).mono ?_
  rintro e wn3 ⟨rfl, rfl⟩
  go_wp2_with fail
  refine (HL2.out _).mono ?_
  rintro e wn4 ⟨rfl, rfl⟩
  go_wp2_with fail
  have kTA0 := TA.out.cell 0
  have kTA1 := TA.out.cell 1
  simp only [List.getElem?_toArray, List.getElem?_cons_zero, List.getElem?_cons_succ] at kTA0 kTA1
  have rkTA0 := cell_regrown kTA0
  have rkTA1 := cell_regrown kTA1
  have cC : ∀ d os, Calls Try.prog 12 #[.agg #[.int .u32 x, .int .i64 l]] (grow (redrawn v2 d) os) fun e w'' => e = .returned (.int .i64 2) ∧ ∃ p : Regrown, w'' = grow (redrawn v2 p.d) p.os := fun d os => Calls.regrown_of (by have := check_any x l x0 x1 (grow (redrawn v2 d) os); rw [HC.out] at this; exact this)
  have cN : ∀ (n : Int) d os, Calls Try.prog 11 #[.int .i64 n] (grow (redrawn v2 d) os) fun e w'' => e = .returned (.int .i64 n) ∧ ∃ p : Regrown, w'' = grow (redrawn v2 p.d) p.os := fun n d os => Calls.regrown_of ((num02_any n _).mono fun _ _ ⟨he, hw⟩ => ⟨he, by rw [← hw]; exact Below.refl _ _⟩)
  have cR : ∀ d os, Calls Try.prog 13 #[.agg #[.int .u32 x, .int .i64 l]] (grow (redrawn v2 d) os) fun e w'' => e = .returned (.bool false) ∧ ∃ p : Regrown, w'' = grow (redrawn v2 p.d) p.os := fun d os => Calls.regrown_of (by have := refRight_any x l x0 x1 (grow (redrawn v2 d) os); rw [HR.out] at this; exact this)
  have cH : ∀ d os, Calls Try.prog 14 #[.agg #[.int .u32 x, .int .i64 l], .int .u32 a] (grow (redrawn v2 d) os) fun e w'' => e = .returned (.bool hb2) ∧ ∃ p : Regrown, w'' = grow (redrawn v2 p.d) p.os := fun d os => Calls.regrown_of (HHO.out _)
  have cG : ∀ d os, Calls Try.prog 15 #[.agg #[.int .u32 x, .int .i64 l], .int .u32 a] (grow (redrawn v2 d) os) fun e w'' => e = .returned (.bool hb2) ∧ ∃ p : Regrown, w'' = grow (redrawn v2 p.d) p.os := fun d os => Calls.regrown_of (HHR.out _)
  have cB : ∀ d os, Calls Try.prog 16 #[.int .u32 a, .int .i64 N] (grow (redrawn v2 d) os) fun e w'' => e = .returned (.int .i64 bt) ∧ ∃ p : Regrown, w'' = grow (redrawn v2 p.d) p.os := fun d os => Calls.regrown_of ((HBO.out _).mono fun _ _ ⟨he, hw⟩ => ⟨he, by rw [← hw]; exact Below.refl _ _⟩)
  have cD : ∀ d os, Calls Try.prog 17 #[.int .u32 a, .int .i64 N] (grow (redrawn v2 d) os) fun e w'' => e = .returned (.int .i64 bt) ∧ ∃ p : Regrown, w'' = grow (redrawn v2 p.d) p.os := fun d os => Calls.regrown_of ((HBR.out _).mono fun _ _ ⟨he, hw⟩ => ⟨he, by rw [← hw]; exact Below.refl _ _⟩)
  clear kTA0 kTA1
  refine wp_region_quiet_below (by kernel_rfl) (by kernel_rfl) ?_
  try simp only [List.append_eq, List.cons_append, List.nil_append]
  repeat (go_big_quiet_step (first | (with_reducible exact cC _ _) | (with_reducible exact cN _ _ _) | (with_reducible exact cR _ _) | (with_reducible exact cH _ _) | (with_reducible exact cG _ _) | (with_reducible exact cB _ _) | (with_reducible exact cD _ _)))
  refine wpQuiet_nil ?_
  intro wq hwq
  obtain ⟨⟨dq, osq⟩, rfl⟩ := hwq
  have hb := below_regrown v2 dq osq
  have hv := HV.out.trans (hb.mono HV.out.size)
  have xTA := TA.out.below hb TA.out.lt
  have xTX := TX.out.below hb TX.out.lt
  generalize grow (redrawn v2 dq) osq = w5 at *
  clear hb HV TA TX rkTA0 rkTA1 cC cN cR cH cG cB cD
  have HV := Lib.hid hv
  have TA := Lib.hid xTA
  have TX := Lib.hid xTX
  clear hv xTA xTX
  go_wp2_with fail
  refine (len_mask N HNN.out _).mono ?_
  rintro e wn6 ⟨rfl, rfl⟩
  go_wp2_with fail
  have kTX0 := TX.out.cell 0
  have kTX1 := TX.out.cell 1
  simp only [List.getElem?_toArray, List.getElem?_cons_zero, List.getElem?_cons_succ] at kTX0 kTX1
  have rkTX0 := cell_regrown kTX0
  have rkTX1 := cell_regrown kTX1
  have cN : ∀ (n : Int) d os, Calls Try.prog 11 #[.int .i64 n] (grow (redrawn w5 d) os) fun e w'' => e = .returned (.int .i64 n) ∧ ∃ p : Regrown, w'' = grow (redrawn w5 p.d) p.os := fun n d os => Calls.regrown_of ((num02_any n _).mono fun _ _ ⟨he, hw⟩ => ⟨he, by rw [← hw]; exact Below.refl _ _⟩)
  have cO : ∀ d os, Calls Try.prog 19 #[.int .u32 a, .int .i64 N] (grow (redrawn w5 d) os) fun e w'' => e = .returned (.agg #[.int .u32 (cutTo a N), .int .i64 N]) ∧ ∃ p : Regrown, w'' = grow (redrawn w5 p.d) p.os := fun d os => Calls.regrown_of (refOf_any a a0 a1 N HNN.out _)
  have cM : ∀ d os, Calls Try.prog 20 #[.int .i64 N] (grow (redrawn w5 d) os) fun e w'' => e = .returned (.int .u32 (maskOf N)) ∧ ∃ p : Regrown, w'' = grow (redrawn w5 p.d) p.os := fun d os => Calls.regrown_of ((refMask_any N HNN.out _).mono fun _ _ ⟨he, hw⟩ => ⟨he, by rw [← hw]; exact Below.refl _ _⟩)
  have cH : ∀ d os, Calls Try.prog 14 #[.agg #[.int .u32 (cutTo a N), .int .i64 N], .int .u32 a] (grow (redrawn w5 d) os) fun e w'' => e = .returned (.bool true) ∧ ∃ p : Regrown, w'' = grow (redrawn w5 p.d) p.os := fun d os => Calls.regrown_of (by have := has2_any (cutTo a N) N a a0 a1 (grow (redrawn w5 d) os); rw [HHC.out] at this; exact this)
  have cW : ∀ d os, Calls Try.prog 18 #[] (grow (redrawn w5 d) os) fun e w'' => e = .returned (.bool true) ∧ ∃ p : Regrown, w'' = grow (redrawn w5 p.d) p.os := fun d os => Calls.regrown_of (works02_any _)
  clear kTX0 kTX1
  refine wp_region_quiet_below (by kernel_rfl) (by kernel_rfl) ?_
  try simp only [List.append_eq, List.cons_append, List.nil_append]
  repeat (go_big_quiet_step (first | (with_reducible exact cN _ _ _) | (with_reducible exact cO _ _) | (with_reducible exact cM _ _) | (with_reducible exact cH _ _) | (with_reducible exact cW _ _)))
  refine wpQuiet_nil ?_
  intro wq hwq
  obtain ⟨⟨dq, osq⟩, rfl⟩ := hwq
  have hb := below_regrown w5 dq osq
  have hv := HV.out.trans (hb.mono HV.out.size)
  have xTA := TA.out.below hb TA.out.lt
  have xTX := TX.out.below hb TX.out.lt
  generalize grow (redrawn w5 dq) osq = w7 at *
  clear hb HV TA TX rkTX0 rkTX1 cN cO cM cH cW
  have HV := Lib.hid hv
  have TA := Lib.hid xTA
  have TX := Lib.hid xTX
  clear hv xTA xTX
  go_wp2_with fail
  go_ret
  exact ⟨rfl, HV.out⟩

set_option maxRecDepth 100000 in
set_option maxHeartbeats 6400000 in
theorem law02_bits_nr (x l a n : Int) (x0 : 0 ≤ x) (x1 : x < 4294967296) (a0 : 0 ≤ a) (a1 : a < 4294967296) (hr : right x l) (hn : ¬ (0 ≤ n ∧ n ≤ 32)) (w : World) :
    Calls Try.prog 3 #[pfx x l, .int .u32 a, .int .i64 n] w fun e w' => e = .returned (.bool true) ∧ Below w.heap.size w w' := by
  obtain ⟨kk, gg, hl1, hl2⟩ := lens_same a a0 a1
  have HL1 := Lib.hid hl1
  have HL2 := Lib.hid hl2
  clear hl1 hl2
  have HR : Hid (decide (right x l) = true) := by show decide _ = _; simpa using hr
  have HC : Hid (chk x l = 0) := if_pos hr
  have HO1 : Hid (ofA a n = 0) := if_neg hn
  have HO2 : Hid (ofL n = 0) := if_neg hn
  have HO3 : Hid (okA n = 2) := if_neg hn
  have HM : Hid (maskA n = 0) := if_neg hn
  have hbo := fun w => bit2_any a n a0 a1 w
  have hbr := fun w => refBit_any a n a0 a1 w
  have hho := fun w => has2_any x l a a0 a1 w
  have hhr := fun w => refHas_any x l a x0 x1 a0 a1 w
  generalize bitOf a n = bt at *
  generalize decide (hasP x l a) = hb2 at *
  have HBO := Lib.hid hbo
  have HBR := Lib.hid hbr
  have HHO := Lib.hid hho
  have HHR := Lib.hid hhr
  clear hbo hbr hho hhr hr
  rcases (show n < 0 ∨ 32 < n by omega) with hlt | hlt
  · clear hn
    go_enter Try.func3, Try.ntmps3
    go_wp2_with fail
    have hv := Below.refl w.heap.size w
    have hv := hv.alloc hv.size (.cells #[.int .u32 x, .int .i64 l] 25)
    have xTA : Blk (w.alloc (.cells #[.int .u32 x, .int .i64 l] 25)) (w.heap.size) 25 #[.int .u32 x, .int .i64 l] := by
      have := Blk.new w 25 #[.int .u32 x, .int .i64 l]
      simpa using this
    generalize hvv : (w.alloc (.cells #[.int .u32 x, .int .i64 l] 25)) = v1 at *
    clear hvv
    have HV := Lib.hid hv
    have TA := Lib.hid xTA
    clear hv xTA
    refine (of2_any a n a0 a1 _).mono ?_
    rw [HO1.out, HO2.out, HO3.out]
    rintro e w1 ⟨rfl, hb⟩
    have hv := HV.out.trans (hb.mono HV.out.size)
    have xTA := TA.out.below hb TA.out.lt
    clear hb HV TA
    have HV := Lib.hid hv
    have TA := Lib.hid xTA
    clear hv xTA
    go_wp2_with fail
    have hv := HV.out
    have hv := hv.alloc hv.size (.cells #[.int .u32 0, .int .i64 0] 25)
    have xTA := (TA.out).alloc (.cells #[.int .u32 0, .int .i64 0] 25)
    have xTX : Blk (w1.alloc (.cells #[.int .u32 0, .int .i64 0] 25)) (w1.heap.size) 25 #[.int .u32 0, .int .i64 0] := by
      have := Blk.new w1 25 #[.int .u32 0, .int .i64 0]
      simpa using this
    generalize hvv : (w1.alloc (.cells #[.int .u32 0, .int .i64 0] 25)) = v2 at *
    clear hvv
    generalize w1.heap.size = gTX at *
    clear HV TA
    have HV := Lib.hid hv
    have TA := Lib.hid xTA
    have TX := Lib.hid xTX
    clear hv xTA xTX
    refine (mask_any n _).mono ?_
    rw [HM.out, HO3.out]
    rintro e wn2 ⟨rfl, rfl⟩
    go_wp2_with fail
    refine (HL1.out _).mono ?_
    rintro e wn3 ⟨rfl, rfl⟩
    go_wp2_with fail
    refine (HL2.out _).mono ?_
    rintro e wn4 ⟨rfl, rfl⟩
    go_wp2_with fail
    have kTA0 := TA.out.cell 0
    have kTA1 := TA.out.cell 1
    simp only [List.getElem?_toArray, List.getElem?_cons_zero, List.getElem?_cons_succ] at kTA0 kTA1
    have rkTA0 := cell_regrown kTA0
    have rkTA1 := cell_regrown kTA1
    have cC : ∀ d os, Calls Try.prog 12 #[.agg #[.int .u32 x, .int .i64 l]] (grow (redrawn v2 d) os) fun e w'' => e = .returned (.int .i64 0) ∧ ∃ p : Regrown, w'' = grow (redrawn v2 p.d) p.os := fun d os => Calls.regrown_of (by have := check_any x l x0 x1 (grow (redrawn v2 d) os); rw [HC.out] at this; exact this)
    have cN : ∀ (n : Int) d os, Calls Try.prog 11 #[.int .i64 n] (grow (redrawn v2 d) os) fun e w'' => e = .returned (.int .i64 n) ∧ ∃ p : Regrown, w'' = grow (redrawn v2 p.d) p.os := fun n d os => Calls.regrown_of ((num02_any n _).mono fun _ _ ⟨he, hw⟩ => ⟨he, by rw [← hw]; exact Below.refl _ _⟩)
    have cR : ∀ d os, Calls Try.prog 13 #[.agg #[.int .u32 x, .int .i64 l]] (grow (redrawn v2 d) os) fun e w'' => e = .returned (.bool true) ∧ ∃ p : Regrown, w'' = grow (redrawn v2 p.d) p.os := fun d os => Calls.regrown_of (by have := refRight_any x l x0 x1 (grow (redrawn v2 d) os); rw [HR.out] at this; exact this)
    have cH : ∀ d os, Calls Try.prog 14 #[.agg #[.int .u32 x, .int .i64 l], .int .u32 a] (grow (redrawn v2 d) os) fun e w'' => e = .returned (.bool hb2) ∧ ∃ p : Regrown, w'' = grow (redrawn v2 p.d) p.os := fun d os => Calls.regrown_of (HHO.out _)
    have cG : ∀ d os, Calls Try.prog 15 #[.agg #[.int .u32 x, .int .i64 l], .int .u32 a] (grow (redrawn v2 d) os) fun e w'' => e = .returned (.bool hb2) ∧ ∃ p : Regrown, w'' = grow (redrawn v2 p.d) p.os := fun d os => Calls.regrown_of (HHR.out _)
    have cB : ∀ d os, Calls Try.prog 16 #[.int .u32 a, .int .i64 n] (grow (redrawn v2 d) os) fun e w'' => e = .returned (.int .i64 bt) ∧ ∃ p : Regrown, w'' = grow (redrawn v2 p.d) p.os := fun d os => Calls.regrown_of ((HBO.out _).mono fun _ _ ⟨he, hw⟩ => ⟨he, by rw [← hw]; exact Below.refl _ _⟩)
    have cD : ∀ d os, Calls Try.prog 17 #[.int .u32 a, .int .i64 n] (grow (redrawn v2 d) os) fun e w'' => e = .returned (.int .i64 bt) ∧ ∃ p : Regrown, w'' = grow (redrawn v2 p.d) p.os := fun d os => Calls.regrown_of ((HBR.out _).mono fun _ _ ⟨he, hw⟩ => ⟨he, by rw [← hw]; exact Below.refl _ _⟩)
    clear kTA0 kTA1
    refine wp_region_quiet_below (by kernel_rfl) (by kernel_rfl) ?_
    try simp only [List.append_eq, List.cons_append, List.nil_append]
    repeat (go_big_quiet_step (first | (with_reducible exact cC _ _) | (with_reducible exact cN _ _ _) | (with_reducible exact cR _ _) | (with_reducible exact cH _ _) | (with_reducible exact cG _ _) | (with_reducible exact cB _ _) | (with_reducible exact cD _ _)))
    refine wpQuiet_nil ?_
    intro wq hwq
    obtain ⟨⟨dq, osq⟩, rfl⟩ := hwq
    have hb := below_regrown v2 dq osq
    have hv := HV.out.trans (hb.mono HV.out.size)
    have xTA := TA.out.below hb TA.out.lt
    have xTX := TX.out.below hb TX.out.lt
    generalize grow (redrawn v2 dq) osq = w5 at *
    clear hb HV TA TX rkTA0 rkTA1 cC cN cR cH cG cB cD
    have HV := Lib.hid hv
    have TA := Lib.hid xTA
    have TX := Lib.hid xTX
    clear hv xTA xTX
    have kTX0 := TX.out.cell 0
    have kTX1 := TX.out.cell 1
    simp only [List.getElem?_toArray, List.getElem?_cons_zero, List.getElem?_cons_succ] at kTX0 kTX1
    go_wp2_with fail
    refine (num02_any _ _).mono ?_
    rintro e wn6 ⟨rfl, rfl⟩
    go_wp2_with fail
    refine (num02_any _ _).mono ?_
    rintro e wn7 ⟨rfl, rfl⟩
    go_wp2_with fail
    refine (works02_any _).mono ?_
    rintro e w8 ⟨rfl, hb⟩
    clear kTX0 kTX1
    have hv := HV.out.trans (hb.mono HV.out.size)
    have xTA := TA.out.below hb TA.out.lt
    have xTX := TX.out.below hb TX.out.lt
    clear hb HV TA TX
    have HV := Lib.hid hv
    have TA := Lib.hid xTA
    have TX := Lib.hid xTX
    clear hv xTA xTX
    go_wp2_with fail
    go_ret
    exact ⟨rfl, HV.out⟩
  · have hge : ¬ n < 0 := by omega
    have hdd : decide (n ≤ 32) = false := by simpa using hlt
    clear hn
    go_enter Try.func3, Try.ntmps3
    go_wp2_with fail
    have hv := Below.refl w.heap.size w
    have hv := hv.alloc hv.size (.cells #[.int .u32 x, .int .i64 l] 25)
    have xTA : Blk (w.alloc (.cells #[.int .u32 x, .int .i64 l] 25)) (w.heap.size) 25 #[.int .u32 x, .int .i64 l] := by
      have := Blk.new w 25 #[.int .u32 x, .int .i64 l]
      simpa using this
    generalize hvv : (w.alloc (.cells #[.int .u32 x, .int .i64 l] 25)) = v1 at *
    clear hvv
    have HV := Lib.hid hv
    have TA := Lib.hid xTA
    clear hv xTA
    refine (of2_any a n a0 a1 _).mono ?_
    rw [HO1.out, HO2.out, HO3.out]
    rintro e w1 ⟨rfl, hb⟩
    have hv := HV.out.trans (hb.mono HV.out.size)
    have xTA := TA.out.below hb TA.out.lt
    clear hb HV TA
    have HV := Lib.hid hv
    have TA := Lib.hid xTA
    clear hv xTA
    go_wp2_with fail
    have hv := HV.out
    have hv := hv.alloc hv.size (.cells #[.int .u32 0, .int .i64 0] 25)
    have xTA := (TA.out).alloc (.cells #[.int .u32 0, .int .i64 0] 25)
    have xTX : Blk (w1.alloc (.cells #[.int .u32 0, .int .i64 0] 25)) (w1.heap.size) 25 #[.int .u32 0, .int .i64 0] := by
      have := Blk.new w1 25 #[.int .u32 0, .int .i64 0]
      simpa using this
    generalize hvv : (w1.alloc (.cells #[.int .u32 0, .int .i64 0] 25)) = v2 at *
    clear hvv
    generalize w1.heap.size = gTX at *
    clear HV TA
    have HV := Lib.hid hv
    have TA := Lib.hid xTA
    have TX := Lib.hid xTX
    clear hv xTA xTX
    refine (mask_any n _).mono ?_
    rw [HM.out, HO3.out]
    rintro e wn2 ⟨rfl, rfl⟩
    go_wp2_with fail
    refine (HL1.out _).mono ?_
    rintro e wn3 ⟨rfl, rfl⟩
    go_wp2_with fail
    refine (HL2.out _).mono ?_
    rintro e wn4 ⟨rfl, rfl⟩
    go_wp2_with fail
    have kTA0 := TA.out.cell 0
    have kTA1 := TA.out.cell 1
    simp only [List.getElem?_toArray, List.getElem?_cons_zero, List.getElem?_cons_succ] at kTA0 kTA1
    have rkTA0 := cell_regrown kTA0
    have rkTA1 := cell_regrown kTA1
    have cC : ∀ d os, Calls Try.prog 12 #[.agg #[.int .u32 x, .int .i64 l]] (grow (redrawn v2 d) os) fun e w'' => e = .returned (.int .i64 0) ∧ ∃ p : Regrown, w'' = grow (redrawn v2 p.d) p.os := fun d os => Calls.regrown_of (by have := check_any x l x0 x1 (grow (redrawn v2 d) os); rw [HC.out] at this; exact this)
    have cN : ∀ (n : Int) d os, Calls Try.prog 11 #[.int .i64 n] (grow (redrawn v2 d) os) fun e w'' => e = .returned (.int .i64 n) ∧ ∃ p : Regrown, w'' = grow (redrawn v2 p.d) p.os := fun n d os => Calls.regrown_of ((num02_any n _).mono fun _ _ ⟨he, hw⟩ => ⟨he, by rw [← hw]; exact Below.refl _ _⟩)
    have cR : ∀ d os, Calls Try.prog 13 #[.agg #[.int .u32 x, .int .i64 l]] (grow (redrawn v2 d) os) fun e w'' => e = .returned (.bool true) ∧ ∃ p : Regrown, w'' = grow (redrawn v2 p.d) p.os := fun d os => Calls.regrown_of (by have := refRight_any x l x0 x1 (grow (redrawn v2 d) os); rw [HR.out] at this; exact this)
    have cH : ∀ d os, Calls Try.prog 14 #[.agg #[.int .u32 x, .int .i64 l], .int .u32 a] (grow (redrawn v2 d) os) fun e w'' => e = .returned (.bool hb2) ∧ ∃ p : Regrown, w'' = grow (redrawn v2 p.d) p.os := fun d os => Calls.regrown_of (HHO.out _)
    have cG : ∀ d os, Calls Try.prog 15 #[.agg #[.int .u32 x, .int .i64 l], .int .u32 a] (grow (redrawn v2 d) os) fun e w'' => e = .returned (.bool hb2) ∧ ∃ p : Regrown, w'' = grow (redrawn v2 p.d) p.os := fun d os => Calls.regrown_of (HHR.out _)
    have cB : ∀ d os, Calls Try.prog 16 #[.int .u32 a, .int .i64 n] (grow (redrawn v2 d) os) fun e w'' => e = .returned (.int .i64 bt) ∧ ∃ p : Regrown, w'' = grow (redrawn v2 p.d) p.os := fun d os => Calls.regrown_of ((HBO.out _).mono fun _ _ ⟨he, hw⟩ => ⟨he, by rw [← hw]; exact Below.refl _ _⟩)
    have cD : ∀ d os, Calls Try.prog 17 #[.int .u32 a, .int .i64 n] (grow (redrawn v2 d) os) fun e w'' => e = .returned (.int .i64 bt) ∧ ∃ p : Regrown, w'' = grow (redrawn v2 p.d) p.os := fun d os => Calls.regrown_of ((HBR.out _).mono fun _ _ ⟨he, hw⟩ => ⟨he, by rw [← hw]; exact Below.refl _ _⟩)
    clear kTA0 kTA1
    refine wp_region_quiet_below (by kernel_rfl) (by kernel_rfl) ?_
    try simp only [List.append_eq, List.cons_append, List.nil_append]
    repeat (go_big_quiet_step (first | (with_reducible exact cC _ _) | (with_reducible exact cN _ _ _) | (with_reducible exact cR _ _) | (with_reducible exact cH _ _) | (with_reducible exact cG _ _) | (with_reducible exact cB _ _) | (with_reducible exact cD _ _)))
    refine wpQuiet_nil ?_
    intro wq hwq
    obtain ⟨⟨dq, osq⟩, rfl⟩ := hwq
    have hb := below_regrown v2 dq osq
    have hv := HV.out.trans (hb.mono HV.out.size)
    have xTA := TA.out.below hb TA.out.lt
    have xTX := TX.out.below hb TX.out.lt
    generalize grow (redrawn v2 dq) osq = w5 at *
    clear hb HV TA TX rkTA0 rkTA1 cC cN cR cH cG cB cD
    have HV := Lib.hid hv
    have TA := Lib.hid xTA
    have TX := Lib.hid xTX
    clear hv xTA xTX
    have kTX0 := TX.out.cell 0
    have kTX1 := TX.out.cell 1
    simp only [List.getElem?_toArray, List.getElem?_cons_zero, List.getElem?_cons_succ] at kTX0 kTX1
    go_wp2_with fail
    refine (num02_any _ _).mono ?_
    rintro e wn6 ⟨rfl, rfl⟩
    go_wp2_with fail
    refine (num02_any _ _).mono ?_
    rintro e wn7 ⟨rfl, rfl⟩
    go_wp2_with fail
    refine (works02_any _).mono ?_
    rintro e w8 ⟨rfl, hb⟩
    clear kTX0 kTX1
    have hv := HV.out.trans (hb.mono HV.out.size)
    have xTA := TA.out.below hb TA.out.lt
    have xTX := TX.out.below hb TX.out.lt
    clear hb HV TA TX
    have HV := Lib.hid hv
    have TA := Lib.hid xTA
    have TX := Lib.hid xTX
    clear hv xTA xTX
    go_wp2_with fail
    go_ret
    exact ⟨rfl, HV.out⟩

set_option maxRecDepth 100000 in
set_option maxHeartbeats 6400000 in
theorem law02_bits_nw (x l a n : Int) (x0 : 0 ≤ x) (x1 : x < 4294967296) (a0 : 0 ≤ a) (a1 : a < 4294967296) (hr : ¬ right x l) (hn : ¬ (0 ≤ n ∧ n ≤ 32)) (w : World) :
    Calls Try.prog 3 #[pfx x l, .int .u32 a, .int .i64 n] w fun e w' => e = .returned (.bool true) ∧ Below w.heap.size w w' := by
  obtain ⟨kk, gg, hl1, hl2⟩ := lens_same a a0 a1
  have HL1 := Lib.hid hl1
  have HL2 := Lib.hid hl2
  clear hl1 hl2
  have HR : Hid (decide (right x l) = false) := by show decide _ = _; simpa using hr
  have HC : Hid (chk x l = 2) := if_neg hr
  have HO1 : Hid (ofA a n = 0) := if_neg hn
  have HO2 : Hid (ofL n = 0) := if_neg hn
  have HO3 : Hid (okA n = 2) := if_neg hn
  have HM : Hid (maskA n = 0) := if_neg hn
  have hbo := fun w => bit2_any a n a0 a1 w
  have hbr := fun w => refBit_any a n a0 a1 w
  have hho := fun w => has2_any x l a a0 a1 w
  have hhr := fun w => refHas_any x l a x0 x1 a0 a1 w
  generalize bitOf a n = bt at *
  generalize decide (hasP x l a) = hb2 at *
  have HBO := Lib.hid hbo
  have HBR := Lib.hid hbr
  have HHO := Lib.hid hho
  have HHR := Lib.hid hhr
  clear hbo hbr hho hhr hr
  rcases (show n < 0 ∨ 32 < n by omega) with hlt | hlt
  · clear hn
    go_enter Try.func3, Try.ntmps3
    go_wp2_with fail
    have hv := Below.refl w.heap.size w
    have hv := hv.alloc hv.size (.cells #[.int .u32 x, .int .i64 l] 25)
    have xTA : Blk (w.alloc (.cells #[.int .u32 x, .int .i64 l] 25)) (w.heap.size) 25 #[.int .u32 x, .int .i64 l] := by
      have := Blk.new w 25 #[.int .u32 x, .int .i64 l]
      simpa using this
    generalize hvv : (w.alloc (.cells #[.int .u32 x, .int .i64 l] 25)) = v1 at *
    clear hvv
    have HV := Lib.hid hv
    have TA := Lib.hid xTA
    clear hv xTA
    refine (of2_any a n a0 a1 _).mono ?_
    rw [HO1.out, HO2.out, HO3.out]
    rintro e w1 ⟨rfl, hb⟩
    have hv := HV.out.trans (hb.mono HV.out.size)
    have xTA := TA.out.below hb TA.out.lt
    clear hb HV TA
    have HV := Lib.hid hv
    have TA := Lib.hid xTA
    clear hv xTA
    go_wp2_with fail
    have hv := HV.out
    have hv := hv.alloc hv.size (.cells #[.int .u32 0, .int .i64 0] 25)
    have xTA := (TA.out).alloc (.cells #[.int .u32 0, .int .i64 0] 25)
    have xTX : Blk (w1.alloc (.cells #[.int .u32 0, .int .i64 0] 25)) (w1.heap.size) 25 #[.int .u32 0, .int .i64 0] := by
      have := Blk.new w1 25 #[.int .u32 0, .int .i64 0]
      simpa using this
    generalize hvv : (w1.alloc (.cells #[.int .u32 0, .int .i64 0] 25)) = v2 at *
    clear hvv
    generalize w1.heap.size = gTX at *
    clear HV TA
    have HV := Lib.hid hv
    have TA := Lib.hid xTA
    have TX := Lib.hid xTX
    clear hv xTA xTX
    refine (mask_any n _).mono ?_
    rw [HM.out, HO3.out]
    rintro e wn2 ⟨rfl, rfl⟩
    go_wp2_with fail
    refine (HL1.out _).mono ?_
    rintro e wn3 ⟨rfl, rfl⟩
    go_wp2_with fail
    refine (HL2.out _).mono ?_
    rintro e wn4 ⟨rfl, rfl⟩
    go_wp2_with fail
    have kTA0 := TA.out.cell 0
    have kTA1 := TA.out.cell 1
    simp only [List.getElem?_toArray, List.getElem?_cons_zero, List.getElem?_cons_succ] at kTA0 kTA1
    have rkTA0 := cell_regrown kTA0
    have rkTA1 := cell_regrown kTA1
    have cC : ∀ d os, Calls Try.prog 12 #[.agg #[.int .u32 x, .int .i64 l]] (grow (redrawn v2 d) os) fun e w'' => e = .returned (.int .i64 2) ∧ ∃ p : Regrown, w'' = grow (redrawn v2 p.d) p.os := fun d os => Calls.regrown_of (by have := check_any x l x0 x1 (grow (redrawn v2 d) os); rw [HC.out] at this; exact this)
    have cN : ∀ (n : Int) d os, Calls Try.prog 11 #[.int .i64 n] (grow (redrawn v2 d) os) fun e w'' => e = .returned (.int .i64 n) ∧ ∃ p : Regrown, w'' = grow (redrawn v2 p.d) p.os := fun n d os => Calls.regrown_of ((num02_any n _).mono fun _ _ ⟨he, hw⟩ => ⟨he, by rw [← hw]; exact Below.refl _ _⟩)
    have cR : ∀ d os, Calls Try.prog 13 #[.agg #[.int .u32 x, .int .i64 l]] (grow (redrawn v2 d) os) fun e w'' => e = .returned (.bool false) ∧ ∃ p : Regrown, w'' = grow (redrawn v2 p.d) p.os := fun d os => Calls.regrown_of (by have := refRight_any x l x0 x1 (grow (redrawn v2 d) os); rw [HR.out] at this; exact this)
    have cH : ∀ d os, Calls Try.prog 14 #[.agg #[.int .u32 x, .int .i64 l], .int .u32 a] (grow (redrawn v2 d) os) fun e w'' => e = .returned (.bool hb2) ∧ ∃ p : Regrown, w'' = grow (redrawn v2 p.d) p.os := fun d os => Calls.regrown_of (HHO.out _)
    have cG : ∀ d os, Calls Try.prog 15 #[.agg #[.int .u32 x, .int .i64 l], .int .u32 a] (grow (redrawn v2 d) os) fun e w'' => e = .returned (.bool hb2) ∧ ∃ p : Regrown, w'' = grow (redrawn v2 p.d) p.os := fun d os => Calls.regrown_of (HHR.out _)
    have cB : ∀ d os, Calls Try.prog 16 #[.int .u32 a, .int .i64 n] (grow (redrawn v2 d) os) fun e w'' => e = .returned (.int .i64 bt) ∧ ∃ p : Regrown, w'' = grow (redrawn v2 p.d) p.os := fun d os => Calls.regrown_of ((HBO.out _).mono fun _ _ ⟨he, hw⟩ => ⟨he, by rw [← hw]; exact Below.refl _ _⟩)
    have cD : ∀ d os, Calls Try.prog 17 #[.int .u32 a, .int .i64 n] (grow (redrawn v2 d) os) fun e w'' => e = .returned (.int .i64 bt) ∧ ∃ p : Regrown, w'' = grow (redrawn v2 p.d) p.os := fun d os => Calls.regrown_of ((HBR.out _).mono fun _ _ ⟨he, hw⟩ => ⟨he, by rw [← hw]; exact Below.refl _ _⟩)
    clear kTA0 kTA1
    refine wp_region_quiet_below (by kernel_rfl) (by kernel_rfl) ?_
    try simp only [List.append_eq, List.cons_append, List.nil_append]
    repeat (go_big_quiet_step (first | (with_reducible exact cC _ _) | (with_reducible exact cN _ _ _) | (with_reducible exact cR _ _) | (with_reducible exact cH _ _) | (with_reducible exact cG _ _) | (with_reducible exact cB _ _) | (with_reducible exact cD _ _)))
    refine wpQuiet_nil ?_
    intro wq hwq
    obtain ⟨⟨dq, osq⟩, rfl⟩ := hwq
    have hb := below_regrown v2 dq osq
    have hv := HV.out.trans (hb.mono HV.out.size)
    have xTA := TA.out.below hb TA.out.lt
    have xTX := TX.out.below hb TX.out.lt
    generalize grow (redrawn v2 dq) osq = w5 at *
    clear hb HV TA TX rkTA0 rkTA1 cC cN cR cH cG cB cD
    have HV := Lib.hid hv
    have TA := Lib.hid xTA
    have TX := Lib.hid xTX
    clear hv xTA xTX
    have kTX0 := TX.out.cell 0
    have kTX1 := TX.out.cell 1
    simp only [List.getElem?_toArray, List.getElem?_cons_zero, List.getElem?_cons_succ] at kTX0 kTX1
    go_wp2_with fail
    refine (num02_any _ _).mono ?_
    rintro e wn6 ⟨rfl, rfl⟩
    go_wp2_with fail
    refine (num02_any _ _).mono ?_
    rintro e wn7 ⟨rfl, rfl⟩
    go_wp2_with fail
    refine (works02_any _).mono ?_
    rintro e w8 ⟨rfl, hb⟩
    clear kTX0 kTX1
    have hv := HV.out.trans (hb.mono HV.out.size)
    have xTA := TA.out.below hb TA.out.lt
    have xTX := TX.out.below hb TX.out.lt
    clear hb HV TA TX
    have HV := Lib.hid hv
    have TA := Lib.hid xTA
    have TX := Lib.hid xTX
    clear hv xTA xTX
    go_wp2_with fail
    go_ret
    exact ⟨rfl, HV.out⟩
  · have hge : ¬ n < 0 := by omega
    have hdd : decide (n ≤ 32) = false := by simpa using hlt
    clear hn
    go_enter Try.func3, Try.ntmps3
    go_wp2_with fail
    have hv := Below.refl w.heap.size w
    have hv := hv.alloc hv.size (.cells #[.int .u32 x, .int .i64 l] 25)
    have xTA : Blk (w.alloc (.cells #[.int .u32 x, .int .i64 l] 25)) (w.heap.size) 25 #[.int .u32 x, .int .i64 l] := by
      have := Blk.new w 25 #[.int .u32 x, .int .i64 l]
      simpa using this
    generalize hvv : (w.alloc (.cells #[.int .u32 x, .int .i64 l] 25)) = v1 at *
    clear hvv
    have HV := Lib.hid hv
    have TA := Lib.hid xTA
    clear hv xTA
    refine (of2_any a n a0 a1 _).mono ?_
    rw [HO1.out, HO2.out, HO3.out]
    rintro e w1 ⟨rfl, hb⟩
    have hv := HV.out.trans (hb.mono HV.out.size)
    have xTA := TA.out.below hb TA.out.lt
    clear hb HV TA
    have HV := Lib.hid hv
    have TA := Lib.hid xTA
    clear hv xTA
    go_wp2_with fail
    have hv := HV.out
    have hv := hv.alloc hv.size (.cells #[.int .u32 0, .int .i64 0] 25)
    have xTA := (TA.out).alloc (.cells #[.int .u32 0, .int .i64 0] 25)
    have xTX : Blk (w1.alloc (.cells #[.int .u32 0, .int .i64 0] 25)) (w1.heap.size) 25 #[.int .u32 0, .int .i64 0] := by
      have := Blk.new w1 25 #[.int .u32 0, .int .i64 0]
      simpa using this
    generalize hvv : (w1.alloc (.cells #[.int .u32 0, .int .i64 0] 25)) = v2 at *
    clear hvv
    generalize w1.heap.size = gTX at *
    clear HV TA
    have HV := Lib.hid hv
    have TA := Lib.hid xTA
    have TX := Lib.hid xTX
    clear hv xTA xTX
    refine (mask_any n _).mono ?_
    rw [HM.out, HO3.out]
    rintro e wn2 ⟨rfl, rfl⟩
    go_wp2_with fail
    refine (HL1.out _).mono ?_
    rintro e wn3 ⟨rfl, rfl⟩
    go_wp2_with fail
    refine (HL2.out _).mono ?_
    rintro e wn4 ⟨rfl, rfl⟩
    go_wp2_with fail
    have kTA0 := TA.out.cell 0
    have kTA1 := TA.out.cell 1
    simp only [List.getElem?_toArray, List.getElem?_cons_zero, List.getElem?_cons_succ] at kTA0 kTA1
    have rkTA0 := cell_regrown kTA0
    have rkTA1 := cell_regrown kTA1
    have cC : ∀ d os, Calls Try.prog 12 #[.agg #[.int .u32 x, .int .i64 l]] (grow (redrawn v2 d) os) fun e w'' => e = .returned (.int .i64 2) ∧ ∃ p : Regrown, w'' = grow (redrawn v2 p.d) p.os := fun d os => Calls.regrown_of (by have := check_any x l x0 x1 (grow (redrawn v2 d) os); rw [HC.out] at this; exact this)
    have cN : ∀ (n : Int) d os, Calls Try.prog 11 #[.int .i64 n] (grow (redrawn v2 d) os) fun e w'' => e = .returned (.int .i64 n) ∧ ∃ p : Regrown, w'' = grow (redrawn v2 p.d) p.os := fun n d os => Calls.regrown_of ((num02_any n _).mono fun _ _ ⟨he, hw⟩ => ⟨he, by rw [← hw]; exact Below.refl _ _⟩)
    have cR : ∀ d os, Calls Try.prog 13 #[.agg #[.int .u32 x, .int .i64 l]] (grow (redrawn v2 d) os) fun e w'' => e = .returned (.bool false) ∧ ∃ p : Regrown, w'' = grow (redrawn v2 p.d) p.os := fun d os => Calls.regrown_of (by have := refRight_any x l x0 x1 (grow (redrawn v2 d) os); rw [HR.out] at this; exact this)
    have cH : ∀ d os, Calls Try.prog 14 #[.agg #[.int .u32 x, .int .i64 l], .int .u32 a] (grow (redrawn v2 d) os) fun e w'' => e = .returned (.bool hb2) ∧ ∃ p : Regrown, w'' = grow (redrawn v2 p.d) p.os := fun d os => Calls.regrown_of (HHO.out _)
    have cG : ∀ d os, Calls Try.prog 15 #[.agg #[.int .u32 x, .int .i64 l], .int .u32 a] (grow (redrawn v2 d) os) fun e w'' => e = .returned (.bool hb2) ∧ ∃ p : Regrown, w'' = grow (redrawn v2 p.d) p.os := fun d os => Calls.regrown_of (HHR.out _)
    have cB : ∀ d os, Calls Try.prog 16 #[.int .u32 a, .int .i64 n] (grow (redrawn v2 d) os) fun e w'' => e = .returned (.int .i64 bt) ∧ ∃ p : Regrown, w'' = grow (redrawn v2 p.d) p.os := fun d os => Calls.regrown_of ((HBO.out _).mono fun _ _ ⟨he, hw⟩ => ⟨he, by rw [← hw]; exact Below.refl _ _⟩)
    have cD : ∀ d os, Calls Try.prog 17 #[.int .u32 a, .int .i64 n] (grow (redrawn v2 d) os) fun e w'' => e = .returned (.int .i64 bt) ∧ ∃ p : Regrown, w'' = grow (redrawn v2 p.d) p.os := fun d os => Calls.regrown_of ((HBR.out _).mono fun _ _ ⟨he, hw⟩ => ⟨he, by rw [← hw]; exact Below.refl _ _⟩)
    clear kTA0 kTA1
    refine wp_region_quiet_below (by kernel_rfl) (by kernel_rfl) ?_
    try simp only [List.append_eq, List.cons_append, List.nil_append]
    repeat (go_big_quiet_step (first | (with_reducible exact cC _ _) | (with_reducible exact cN _ _ _) | (with_reducible exact cR _ _) | (with_reducible exact cH _ _) | (with_reducible exact cG _ _) | (with_reducible exact cB _ _) | (with_reducible exact cD _ _)))
    refine wpQuiet_nil ?_
    intro wq hwq
    obtain ⟨⟨dq, osq⟩, rfl⟩ := hwq
    have hb := below_regrown v2 dq osq
    have hv := HV.out.trans (hb.mono HV.out.size)
    have xTA := TA.out.below hb TA.out.lt
    have xTX := TX.out.below hb TX.out.lt
    generalize grow (redrawn v2 dq) osq = w5 at *
    clear hb HV TA TX rkTA0 rkTA1 cC cN cR cH cG cB cD
    have HV := Lib.hid hv
    have TA := Lib.hid xTA
    have TX := Lib.hid xTX
    clear hv xTA xTX
    have kTX0 := TX.out.cell 0
    have kTX1 := TX.out.cell 1
    simp only [List.getElem?_toArray, List.getElem?_cons_zero, List.getElem?_cons_succ] at kTX0 kTX1
    go_wp2_with fail
    refine (num02_any _ _).mono ?_
    rintro e wn6 ⟨rfl, rfl⟩
    go_wp2_with fail
    refine (num02_any _ _).mono ?_
    rintro e wn7 ⟨rfl, rfl⟩
    go_wp2_with fail
    refine (works02_any _).mono ?_
    rintro e w8 ⟨rfl, hb⟩
    clear kTX0 kTX1
    have hv := HV.out.trans (hb.mono HV.out.size)
    have xTA := TA.out.below hb TA.out.lt
    have xTX := TX.out.below hb TX.out.lt
    clear hb HV TA TX
    have HV := Lib.hid hv
    have TA := Lib.hid xTA
    have TX := Lib.hid xTX
    clear hv xTA xTX
    go_wp2_with fail
    go_ret
    exact ⟨rfl, HV.out⟩

theorem law02_bits (x l a n : Int) (x0 : 0 ≤ x) (x1 : x < 4294967296) (a0 : 0 ≤ a) (a1 : a < 4294967296) (w : World) :
    Calls Try.prog 3 #[pfx x l, .int .u32 a, .int .i64 n] w fun e w' => e = .returned (.bool true) ∧ Below w.heap.size w w' := by
  by_cases hn : 0 ≤ n ∧ n ≤ 32
  · obtain ⟨N, rfl⟩ : ∃ N : Nat, n = N := ⟨n.toNat, by omega⟩
    by_cases hr : right x l
    · exact law02_bits_fr x l a N (by omega) x0 x1 a0 a1 hr w
    · exact law02_bits_fw x l a N (by omega) x0 x1 a0 a1 hr w
  · by_cases hr : right x l
    · exact law02_bits_nr x l a n x0 x1 a0 a1 hr hn w
    · exact law02_bits_nw x l a n x0 x1 a0 a1 hr hn w
end Go.Proofs.Ytabpkdblcinhjaa
