/- works of law 4 (laid by tools/gen/w9.py). -/
import Derived.Test.YtfbfdjcdjogefaaDoorW8
import Derived.Test.YtfbfdjcdjogefaaDoorU2
namespace Go.Proofs.YtfbfdjcdjogefaaDoor
open Go Go.RowKit Go.Sort
attribute [local go_sem] Oper.semAt_some
attribute [local irreducible] wpQuiet

theorem num4_any (n : Int) (w : World) :
    Calls Tryd.prog 11 #[.int .i64 n] w fun e w' => e = .returned (.int .i64 n) ∧ w = w' := by
  go_enter Tryd.func11, Tryd.ntmps11
  go_wp2
  go_ret
  exact ⟨rfl, rfl⟩
set_option maxRecDepth 100000 in
theorem given_any (w : World) :
    Calls Tryd.prog 26 #[] w fun e w' => e = .returned (.agg #[.int .i64 2, .int .i64 0, .int .u32 167837696, .int .u32 4294901760, .int .u32 0, .int .u32 3]) ∧ Below w.heap.size w w' := by
  go_enter Tryd.func26, Tryd.ntmps26
  go_wp2_with fail
  refine ⟨rfl, .agg #[.int .i64 2, .int .i64 0, .int .u32 167837696, .int .u32 4294901760, .int .u32 0, .int .u32 3], ?_, rfl, (Below.refl _ _).alloc (Nat.le_refl _) _⟩
  simp [results, Tryd.f26, go_sem]
theorem ofRow1 (w : World) : Calls Tryd.prog 20 #[.agg #[.int .u32 167837696, .int .i64 16], .int .i64 3] w fun e w' => e = .returned (.tuple #[.agg #[.int .i64 2, .int .i64 0, .int .u32 167837696, .int .u32 4294901760, .int .u32 0, .int .u32 3], .int .i64 0]) ∧ Below w.heap.size w w' := by
  have h := of4_any 167837696 16 3 (by decide) (by decide) w
  have e1 : ofV 167837696 16 3 = ⟨2, 0, 167837696, 4294901760, 0, 3⟩ := by decide +kernel
  have e2 : ofNo 167837696 16 3 = 0 := by decide +kernel
  rw [e1, e2] at h
  exact h
theorem ofRow2 (w : World) : Calls Tryd.prog 20 #[.agg #[.int .u32 0, .int .i64 0], .int .i64 1] w fun e w' => e = .returned (.tuple #[.agg #[.int .i64 2, .int .i64 0, .int .u32 0, .int .u32 0, .int .u32 0, .int .u32 1], .int .i64 0]) ∧ Below w.heap.size w w' := by
  have h := of4_any 0 0 1 (by decide) (by decide) w
  have e1 : ofV 0 0 1 = ⟨2, 0, 0, 0, 0, 1⟩ := by decide +kernel
  have e2 : ofNo 0 0 1 = 0 := by decide +kernel
  rw [e1, e2] at h
  exact h
theorem ofRow3 (w : World) : Calls Tryd.prog 20 #[.agg #[.int .u32 0, .int .i64 8], .int .i64 1] w fun e w' => e = .returned (.tuple #[.agg #[.int .i64 0, .int .i64 0, .int .u32 0, .int .u32 0, .int .u32 0, .int .u32 0], .int .i64 2]) ∧ Below w.heap.size w w' := by
  have h := of4_any 0 8 1 (by decide) (by decide) w
  have e1 : ofV 0 8 1 = ⟨0, 0, 0, 0, 0, 0⟩ := by decide +kernel
  have e2 : ofNo 0 8 1 = 2 := by decide +kernel
  rw [e1, e2] at h
  exact h
theorem okE {f t a m n k : Int} (h : 0 ≤ a ∧ a < 4294967296 ∧ 0 ≤ m ∧ m < 4294967296 ∧ 0 ≤ n ∧ n < 4294967296 ∧ 0 ≤ k ∧ k < 4294967296) : (⟨f, t, a, m, n, k⟩ : Ent).Ok := by
  obtain ⟨h1, h2, h3, h4, h5, h6, h7, h8⟩ := h
  exact ⟨h1, h2, h3, h4, h5, h6, h7, h8⟩
theorem preRow (w : World) : Calls Tryd.prog 15 #[.agg #[.int .i64 0, .int .i64 0, .int .u32 0, .int .u32 0, .int .u32 0, .int .u32 16]] w fun e w' => e = .returned (.tuple #[.agg #[.int .u32 0, .int .i64 0], .int .i64 140]) ∧ Below w.heap.size w w' := by
  have h := prefix4_any allE (okE (by decide)) w
  have e1 : preA allE = 0 := by decide +kernel
  have e2 : preL allE = 0 := by decide +kernel
  have e3 : preNo allE = 140 := by decide +kernel
  rw [e1, e2, e3] at h
  exact h
theorem bytesRow (w : World) (hf : Fit3 w) : Calls Tryd.prog 12 #[.agg #[.int .i64 2, .int .i64 0, .int .u32 167837696, .int .u32 4294901760, .int .u32 0, .int .u32 3]] w fun e w' => (∃ p c, e = .returned (.tuple #[.slice p 20 c, .int .i64 0]) ∧ ByS w' p [0, 2, 0, 0, 10, 1, 0, 0, 255, 255, 0, 0, 0, 0, 0, 0, 0, 0, 0, 3]) ∧ Below w.heap.size w w' := by
  refine (bytes4_any ⟨2, 0, 167837696, 4294901760, 0, 3⟩ (okE (by decide)) w hf).mono ?_
  rintro e w' ⟨h, hb⟩
  rw [if_pos (by decide)] at h
  obtain ⟨v, rfl, ho⟩ := h
  have e1 : bytesE ⟨2, 0, 167837696, 4294901760, 0, 3⟩ = [0, 2, 0, 0, 10, 1, 0, 0, 255, 255, 0, 0, 0, 0, 0, 0, 0, 0, 0, 3] := by decide +kernel
  rw [e1] at ho
  obtain ⟨p, c, rfl, _, hy, _⟩ := OwnB.byS ho
  exact ⟨⟨p, c, rfl, hy⟩, hb⟩
theorem convRow {w : World} {p : Option Addr} (h : ByS w p [0, 2, 0, 0, 10, 1, 0, 0, 255, 255, 0, 0, 0, 0, 0, 0, 0, 0, 0, 3]) (c : Nat) : (convert 26 9 (.slice p 20 c)).run Tryd.prog w = .ok (.string { data := #[0, 2, 0, 0, 10, 1, 0, 0, 255, 255, 0, 0, 0, 0, 0, 0, 0, 0, 0, 3] }) w := conv_bytes h c

theorem whyRow0 (w : World) : Calls Tryd.prog 17 #[.agg #[.int .i64 1, .int .i64 0, .int .u32 167837696, .int .u32 4294901760, .int .u32 0, .int .u32 3]] w fun e w' => e = .returned (.int .i64 1) ∧ Below w.heap.size w w' := by
  have h := why_any ⟨1, 0, 167837696, 4294901760, 0, 3⟩ (okE (by decide)) w
  have e1 : whyE ⟨1, 0, 167837696, 4294901760, 0, 3⟩ = 1 := by decide +kernel
  rw [e1] at h
  exact h
theorem nameRow0 (w : World) : Calls Tryd.prog 19 #[.int .i64 1] w fun e w' => e = .returned (.string { data := #[102, 97, 109, 105, 108, 121] }) ∧ Below w.heap.size w w' := name_any 1 (by decide) (by decide) w
theorem whyRow1 (w : World) : Calls Tryd.prog 17 #[.agg #[.int .i64 2, .int .i64 0, .int .u32 167837696, .int .u32 4278255360, .int .u32 0, .int .u32 3]] w fun e w' => e = .returned (.int .i64 2) ∧ Below w.heap.size w w' := by
  have h := why_any ⟨2, 0, 167837696, 4278255360, 0, 3⟩ (okE (by decide)) w
  have e1 : whyE ⟨2, 0, 167837696, 4278255360, 0, 3⟩ = 2 := by decide +kernel
  rw [e1] at h
  exact h
theorem nameRow1 (w : World) : Calls Tryd.prog 19 #[.int .i64 2] w fun e w' => e = .returned (.string { data := #[109, 97, 115, 107] }) ∧ Below w.heap.size w w' := name_any 2 (by decide) (by decide) w
theorem whyRow2 (w : World) : Calls Tryd.prog 17 #[.agg #[.int .i64 2, .int .i64 0, .int .u32 167837697, .int .u32 4294901760, .int .u32 0, .int .u32 3]] w fun e w' => e = .returned (.int .i64 3) ∧ Below w.heap.size w w' := by
  have h := why_any ⟨2, 0, 167837697, 4294901760, 0, 3⟩ (okE (by decide)) w
  have e1 : whyE ⟨2, 0, 167837697, 4294901760, 0, 3⟩ = 3 := by decide +kernel
  rw [e1] at h
  exact h
theorem nameRow2 (w : World) : Calls Tryd.prog 19 #[.int .i64 3] w fun e w' => e = .returned (.string { data := #[98, 105, 116, 115] }) ∧ Below w.heap.size w w' := name_any 3 (by decide) (by decide) w
theorem whyRow3 (w : World) : Calls Tryd.prog 17 #[.agg #[.int .i64 2, .int .i64 0, .int .u32 2130706432, .int .u32 4278190080, .int .u32 0, .int .u32 3]] w fun e w' => e = .returned (.int .i64 4) ∧ Below w.heap.size w w' := by
  have h := why_any ⟨2, 0, 2130706432, 4278190080, 0, 3⟩ (okE (by decide)) w
  have e1 : whyE ⟨2, 0, 2130706432, 4278190080, 0, 3⟩ = 4 := by decide +kernel
  rw [e1] at h
  exact h
theorem nameRow3 (w : World) : Calls Tryd.prog 19 #[.int .i64 4] w fun e w' => e = .returned (.string { data := #[107, 105, 110, 100] }) ∧ Below w.heap.size w w' := name_any 4 (by decide) (by decide) w
theorem whyRow4 (w : World) : Calls Tryd.prog 17 #[.agg #[.int .i64 2, .int .i64 0, .int .u32 167837696, .int .u32 4294901760, .int .u32 0, .int .u32 17]] w fun e w' => e = .returned (.int .i64 6) ∧ Below w.heap.size w w' := by
  have h := why_any ⟨2, 0, 167837696, 4294901760, 0, 17⟩ (okE (by decide)) w
  have e1 : whyE ⟨2, 0, 167837696, 4294901760, 0, 17⟩ = 6 := by decide +kernel
  rw [e1] at h
  exact h
theorem nameRow4 (w : World) : Calls Tryd.prog 19 #[.int .i64 6] w fun e w' => e = .returned (.string { data := #[109, 101, 116, 114, 105, 99] }) ∧ Below w.heap.size w w' := name_any 6 (by decide) (by decide) w
theorem whyRowY (w : World) : Calls Tryd.prog 17 #[.agg #[.int .i64 2, .int .i64 0, .int .u32 0, .int .u32 0, .int .u32 0, .int .u32 1]] w fun e w' => e = .returned (.int .i64 0) ∧ Below w.heap.size w w' := by
  have h := why_any ⟨2, 0, 0, 0, 0, 1⟩ (okE (by decide)) w
  have e1 : whyE ⟨2, 0, 0, 0, 0, 1⟩ = 0 := by decide +kernel
  rw [e1] at h
  exact h
theorem all4Row (w : World) : Calls Tryd.prog 22 #[] w fun e w' => e = .returned (.agg #[.int .i64 0, .int .i64 0, .int .u32 0, .int .u32 0, .int .u32 0, .int .u32 16]) ∧ Below w.heap.size w w' := all4_any w

set_option maxRecDepth 100000 in
set_option maxHeartbeats 6400000 in
theorem works4_any  (w : World) (hf : Fit3 w) :
    Calls Tryd.prog 8 #[] w fun e w' => e = .returned (.bool true) ∧ Below w.heap.size w w' := by
  have HF := Lib.hid hf
  clear hf
  go_enter Tryd.func8, Tryd.ntmps8
  go_wp2_with fail
  have HV := Lib.hid (Below.refl w.heap.size w)
  refine (ofRow1 _).mono ?_
  rintro e w1 ⟨rfl, hb⟩
  have hv := HV.out.trans (hb.mono HV.out.size)
  clear hb HV 
  have HV := Lib.hid hv
  clear hv 
  go_wp2_with fail
  have hv := HV.out
  have hv := hv.alloc hv.size (.cells #[.int .i64 2, .int .i64 0, .int .u32 167837696, .int .u32 4294901760, .int .u32 0, .int .u32 3] 25)
  have xTX : Blk (w1.alloc (.cells #[.int .i64 2, .int .i64 0, .int .u32 167837696, .int .u32 4294901760, .int .u32 0, .int .u32 3] 25)) (w1.heap.size) 25 #[.int .i64 2, .int .i64 0, .int .u32 167837696, .int .u32 4294901760, .int .u32 0, .int .u32 3] := by
    have := Blk.new w1 25 #[.int .i64 2, .int .i64 0, .int .u32 167837696, .int .u32 4294901760, .int .u32 0, .int .u32 3]
    simpa using this
  generalize hvv : (w1.alloc (.cells #[.int .i64 2, .int .i64 0, .int .u32 167837696, .int .u32 4294901760, .int .u32 0, .int .u32 3] 25)) = v1 at *
  clear hvv
  generalize w1.heap.size = gTX at *
  clear HV 
  have HV := Lib.hid hv
  have TX := Lib.hid xTX
  clear hv xTX
  refine (bytesRow _ (HF.out.below HV.out)).mono ?_
  rintro e w2 ⟨⟨p3, c3, rfl, hy3⟩, hb⟩
  have hv := HV.out.trans (hb.mono HV.out.size)
  have xTX := TX.out.below hb TX.out.lt
  clear hb HV TX
  have HV := Lib.hid hv
  have TX := Lib.hid xTX
  clear hv xTX
  have HY := Lib.hid hy3
  clear hy3
  go_wp2_with fail
  refine (given_any _).mono ?_
  rintro e w3 ⟨rfl, hb⟩
  have hv := HV.out.trans (hb.mono HV.out.size)
  have xTX := TX.out.below hb TX.out.lt
  have yHY := HY.out.below hb
  clear hb HV TX
  have HV := Lib.hid hv
  have TX := Lib.hid xTX
  clear hv xTX
  clear HY
  have HY := Lib.hid yHY
  clear yHY
  go_wp2_with fail
  refine (given_any _).mono ?_
  rintro e w4 ⟨rfl, hb⟩
  have hv := HV.out.trans (hb.mono HV.out.size)
  have xTX := TX.out.below hb TX.out.lt
  have yHY := HY.out.below hb
  clear hb HV TX
  have HV := Lib.hid hv
  have TX := Lib.hid xTX
  clear hv xTX
  clear HY
  have HY := Lib.hid yHY
  clear yHY
  go_wp2_with fail
  refine (given_any _).mono ?_
  rintro e w5 ⟨rfl, hb⟩
  have hv := HV.out.trans (hb.mono HV.out.size)
  have xTX := TX.out.below hb TX.out.lt
  have yHY := HY.out.below hb
  clear hb HV TX
  have HV := Lib.hid hv
  have TX := Lib.hid xTX
  clear hv xTX
  clear HY
  have HY := Lib.hid yHY
  clear yHY
  go_wp2_with fail
  refine (given_any _).mono ?_
  rintro e w6 ⟨rfl, hb⟩
  have hv := HV.out.trans (hb.mono HV.out.size)
  have xTX := TX.out.below hb TX.out.lt
  have yHY := HY.out.below hb
  clear hb HV TX
  have HV := Lib.hid hv
  have TX := Lib.hid xTX
  clear hv xTX
  clear HY
  have HY := Lib.hid yHY
  clear yHY
  go_wp2_with fail
  refine (given_any _).mono ?_
  rintro e w7 ⟨rfl, hb⟩
  have hv := HV.out.trans (hb.mono HV.out.size)
  have xTX := TX.out.below hb TX.out.lt
  have yHY := HY.out.below hb
  clear hb HV TX
  have HV := Lib.hid hv
  have TX := Lib.hid xTX
  clear hv xTX
  clear HY
  have HY := Lib.hid yHY
  clear yHY
  have HNS : Hid (NewSt Tryd.prog (w7.alloc (.cells #[.int .i64 0, .int .i64 0, .int .u32 0, .int .u32 0, .int .u32 0, .int .u32 0, .int .i64 0, .int .i64 0, .int .u32 0, .int .u32 0, .int .u32 0, .int .u32 0, .int .i64 0, .int .i64 0, .int .u32 0, .int .u32 0, .int .u32 0, .int .u32 0, .int .i64 0, .int .i64 0, .int .u32 0, .int .u32 0, .int .u32 0, .int .u32 0, .int .i64 0, .int .i64 0, .int .u32 0, .int .u32 0, .int .u32 0, .int .u32 0] 62)) 62 w7.heap.size 62 #[.int .i64 0, .int .i64 0, .int .u32 0, .int .u32 0, .int .u32 0, .int .u32 0, .int .i64 0, .int .i64 0, .int .u32 0, .int .u32 0, .int .u32 0, .int .u32 0, .int .i64 0, .int .i64 0, .int .u32 0, .int .u32 0, .int .u32 0, .int .u32 0, .int .i64 0, .int .i64 0, .int .u32 0, .int .u32 0, .int .u32 0, .int .u32 0, .int .i64 0, .int .i64 0, .int .u32 0, .int .u32 0, .int .u32 0, .int .u32 0] #[.int .i64 2, .int .i64 0, .int .u32 167837696, .int .u32 4294901760, .int .u32 0, .int .u32 3, .int .i64 2, .int .i64 0, .int .u32 167837696, .int .u32 4294901760, .int .u32 0, .int .u32 3, .int .i64 2, .int .i64 0, .int .u32 167837696, .int .u32 4294901760, .int .u32 0, .int .u32 3, .int .i64 2, .int .i64 0, .int .u32 167837696, .int .u32 4294901760, .int .u32 0, .int .u32 3, .int .i64 2, .int .i64 0, .int .u32 167837696, .int .u32 4294901760, .int .u32 0, .int .u32 3]) := ⟨Blk.new _ _ _, rfl, by kernel_rfl, by kernel_rfl⟩
  go_upto_region 4 with (refine wpList_store_new HNS.out rfl _ _ rfl (by rfl) (by rfl) ?_; intro w8 hb8 hg8)
  have hbw : Below w7.heap.size w7 w8 := ((Below.refl w7.heap.size w7).alloc (Nat.le_refl _) _).grown hg8 (by simp) (fun k hk => by cases hk; exact Nat.le_refl _)
  clear HNS hg8
  have c0 := hb8.cell 0
  have z0 := hb8.frozen 0
  have c9 := hb8.cell 9
  have z9 := hb8.frozen 9
  have c14 := hb8.cell 14
  have z14 := hb8.frozen 14
  have c20 := hb8.cell 20
  have z20 := hb8.frozen 20
  have c21 := hb8.cell 21
  have z21 := hb8.frozen 21
  have c29 := hb8.cell 29
  have z29 := hb8.frozen 29
  simp only [List.getElem?_toArray, List.getElem?_cons_zero, List.getElem?_cons_succ] at c0 c9 c14 c20 c21 c29
  have hTL : Blk ((((((w8.setCell ⟨w7.heap.size, 0, none⟩ (.int .i64 1)).setCell ⟨w7.heap.size, 9, none⟩ (.int .u32 4278255360)).setCell ⟨w7.heap.size, 14, none⟩ (.int .u32 167837697)).setCell ⟨w7.heap.size, 20, none⟩ (.int .u32 2130706432)).setCell ⟨w7.heap.size, 21, none⟩ (.int .u32 4278190080)).setCell ⟨w7.heap.size, 29, none⟩ (.int .u32 17)) w7.heap.size 62 #[.int .i64 1, .int .i64 0, .int .u32 167837696, .int .u32 4294901760, .int .u32 0, .int .u32 3, .int .i64 2, .int .i64 0, .int .u32 167837696, .int .u32 4278255360, .int .u32 0, .int .u32 3, .int .i64 2, .int .i64 0, .int .u32 167837697, .int .u32 4294901760, .int .u32 0, .int .u32 3, .int .i64 2, .int .i64 0, .int .u32 2130706432, .int .u32 4278190080, .int .u32 0, .int .u32 3, .int .i64 2, .int .i64 0, .int .u32 167837696, .int .u32 4294901760, .int .u32 0, .int .u32 17] := by
    have := ((((((hb8.set_ 0 (.int .i64 1)).set_ 9 (.int .u32 4278255360)).set_ 14 (.int .u32 167837697)).set_ 20 (.int .u32 2130706432)).set_ 21 (.int .u32 4278190080)).set_ 29 (.int .u32 17))
    simpa using this
  have hbx := ((((((hbw.setCell (p := ⟨w7.heap.size, 0, none⟩) (Nat.le_refl _) (.int .i64 1)).setCell (p := ⟨w7.heap.size, 9, none⟩) (Nat.le_refl _) (.int .u32 4278255360)).setCell (p := ⟨w7.heap.size, 14, none⟩) (Nat.le_refl _) (.int .u32 167837697)).setCell (p := ⟨w7.heap.size, 20, none⟩) (Nat.le_refl _) (.int .u32 2130706432)).setCell (p := ⟨w7.heap.size, 21, none⟩) (Nat.le_refl _) (.int .u32 4278190080)).setCell (p := ⟨w7.heap.size, 29, none⟩) (Nat.le_refl _) (.int .u32 17))
  have hbx := hbx.alloc hbx.size (.cells #[.string { data := #[102, 97, 109, 105, 108, 121] }, .string { data := #[109, 97, 115, 107] }, .string { data := #[98, 105, 116, 115] }, .string { data := #[107, 105, 110, 100] }, .string { data := #[109, 101, 116, 114, 105, 99] }] 63)
  have hTN : Blk (((((((w8.setCell ⟨w7.heap.size, 0, none⟩ (.int .i64 1)).setCell ⟨w7.heap.size, 9, none⟩ (.int .u32 4278255360)).setCell ⟨w7.heap.size, 14, none⟩ (.int .u32 167837697)).setCell ⟨w7.heap.size, 20, none⟩ (.int .u32 2130706432)).setCell ⟨w7.heap.size, 21, none⟩ (.int .u32 4278190080)).setCell ⟨w7.heap.size, 29, none⟩ (.int .u32 17)).alloc (.cells #[.string { data := #[102, 97, 109, 105, 108, 121] }, .string { data := #[109, 97, 115, 107] }, .string { data := #[98, 105, 116, 115] }, .string { data := #[107, 105, 110, 100] }, .string { data := #[109, 101, 116, 114, 105, 99] }] 63)) w8.heap.size 63 #[.string { data := #[102, 97, 109, 105, 108, 121] }, .string { data := #[109, 97, 115, 107] }, .string { data := #[98, 105, 116, 115] }, .string { data := #[107, 105, 110, 100] }, .string { data := #[109, 101, 116, 114, 105, 99] }] := by
    have := Blk.new ((((((w8.setCell ⟨w7.heap.size, 0, none⟩ (.int .i64 1)).setCell ⟨w7.heap.size, 9, none⟩ (.int .u32 4278255360)).setCell ⟨w7.heap.size, 14, none⟩ (.int .u32 167837697)).setCell ⟨w7.heap.size, 20, none⟩ (.int .u32 2130706432)).setCell ⟨w7.heap.size, 21, none⟩ (.int .u32 4278190080)).setCell ⟨w7.heap.size, 29, none⟩ (.int .u32 17)) 63 #[.string { data := #[102, 97, 109, 105, 108, 121] }, .string { data := #[109, 97, 115, 107] }, .string { data := #[98, 105, 116, 115] }, .string { data := #[107, 105, 110, 100] }, .string { data := #[109, 101, 116, 114, 105, 99] }]
    simpa using this
  have HTL := Lib.hid (hTL.alloc (.cells #[.string { data := #[102, 97, 109, 105, 108, 121] }, .string { data := #[109, 97, 115, 107] }, .string { data := #[98, 105, 116, 115] }, .string { data := #[107, 105, 110, 100] }, .string { data := #[109, 101, 116, 114, 105, 99] }] 63))
  have HTN := Lib.hid hTN
  have HBX := Lib.hid hbx
  clear hTL hTN hbx hb8 hbw
  go_wp2_with fail
  go_loopw [7] (fun i wr => ∃ j : Nat, j ≤ 5 ∧ i = .int .i64 j ∧ Hid (Blk wr (gTX) 25 #[.int .i64 2, .int .i64 0, .int .u32 167837696, .int .u32 4294901760, .int .u32 0, .int .u32 3]) ∧ Hid (Blk wr (w7.heap.size) 62 #[.int .i64 1, .int .i64 0, .int .u32 167837696, .int .u32 4294901760, .int .u32 0, .int .u32 3, .int .i64 2, .int .i64 0, .int .u32 167837696, .int .u32 4278255360, .int .u32 0, .int .u32 3, .int .i64 2, .int .i64 0, .int .u32 167837697, .int .u32 4294901760, .int .u32 0, .int .u32 3, .int .i64 2, .int .i64 0, .int .u32 2130706432, .int .u32 4278190080, .int .u32 0, .int .u32 3, .int .i64 2, .int .i64 0, .int .u32 167837696, .int .u32 4294901760, .int .u32 0, .int .u32 17]) ∧ Hid (Blk wr (w8.heap.size) 63 #[.string { data := #[102, 97, 109, 105, 108, 121] }, .string { data := #[109, 97, 115, 107] }, .string { data := #[98, 105, 116, 115] }, .string { data := #[107, 105, 110, 100] }, .string { data := #[109, 101, 116, 114, 105, 99] }]) ∧ Hid (ByS wr p3 [0, 2, 0, 0, 10, 1, 0, 0, 255, 255, 0, 0, 0, 0, 0, 0, 0, 0, 0, 3]) ∧ Hid (Below w.heap.size w wr)) (fun i _ => 5 - (intOf i).toNat)
  case atStart => exact ⟨0, by omega, rfl, TX.out.below HBX.out TX.out.lt, HTL, HTN, HY.out.below HBX.out, HV.out.trans (HBX.out.mono HV.out.size)⟩
  case round =>
    clear TX HTL HTN HBX HY HV
    obtain ⟨j, hj, rfl, TX, TL, TN, HY, HV⟩ := hrel
    have hway : j = 0 ∨ j = 1 ∨ j = 2 ∨ j = 3 ∨ j = 4 ∨ j = 5 := by omega
    clear hj
    rcases hway with rfl | rfl | rfl | rfl | rfl | rfl
    · skip
      go_wp2_with fail
      have kTL0 := TL.out.cell 0
      have kTL1 := TL.out.cell 1
      have kTL2 := TL.out.cell 2
      have kTL3 := TL.out.cell 3
      have kTL4 := TL.out.cell 4
      have kTL5 := TL.out.cell 5
      have kTL6 := TL.out.cell 6
      have kTL7 := TL.out.cell 7
      have kTL8 := TL.out.cell 8
      have kTL9 := TL.out.cell 9
      have kTL10 := TL.out.cell 10
      have kTL11 := TL.out.cell 11
      have kTL12 := TL.out.cell 12
      have kTL13 := TL.out.cell 13
      have kTL14 := TL.out.cell 14
      have kTL15 := TL.out.cell 15
      have kTL16 := TL.out.cell 16
      have kTL17 := TL.out.cell 17
      have kTL18 := TL.out.cell 18
      have kTL19 := TL.out.cell 19
      have kTL20 := TL.out.cell 20
      have kTL21 := TL.out.cell 21
      have kTL22 := TL.out.cell 22
      have kTL23 := TL.out.cell 23
      have kTL24 := TL.out.cell 24
      have kTL25 := TL.out.cell 25
      have kTL26 := TL.out.cell 26
      have kTL27 := TL.out.cell 27
      have kTL28 := TL.out.cell 28
      have kTL29 := TL.out.cell 29
      have kTN0 := TN.out.cell 0
      have kTN1 := TN.out.cell 1
      have kTN2 := TN.out.cell 2
      have kTN3 := TN.out.cell 3
      have kTN4 := TN.out.cell 4
      simp only [List.getElem?_toArray, List.getElem?_cons_zero, List.getElem?_cons_succ] at kTL0 kTL1 kTL2 kTL3 kTL4 kTL5 kTL6 kTL7 kTL8 kTL9 kTL10 kTL11 kTL12 kTL13 kTL14 kTL15 kTL16 kTL17 kTL18 kTL19 kTL20 kTL21 kTL22 kTL23 kTL24 kTL25 kTL26 kTL27 kTL28 kTL29 kTN0 kTN1 kTN2 kTN3 kTN4
      have rkTL0 := cell_regrown kTL0
      have rkTL1 := cell_regrown kTL1
      have rkTL2 := cell_regrown kTL2
      have rkTL3 := cell_regrown kTL3
      have rkTL4 := cell_regrown kTL4
      have rkTL5 := cell_regrown kTL5
      have rkTL6 := cell_regrown kTL6
      have rkTL7 := cell_regrown kTL7
      have rkTL8 := cell_regrown kTL8
      have rkTL9 := cell_regrown kTL9
      have rkTL10 := cell_regrown kTL10
      have rkTL11 := cell_regrown kTL11
      have rkTL12 := cell_regrown kTL12
      have rkTL13 := cell_regrown kTL13
      have rkTL14 := cell_regrown kTL14
      have rkTL15 := cell_regrown kTL15
      have rkTL16 := cell_regrown kTL16
      have rkTL17 := cell_regrown kTL17
      have rkTL18 := cell_regrown kTL18
      have rkTL19 := cell_regrown kTL19
      have rkTL20 := cell_regrown kTL20
      have rkTL21 := cell_regrown kTL21
      have rkTL22 := cell_regrown kTL22
      have rkTL23 := cell_regrown kTL23
      have rkTL24 := cell_regrown kTL24
      have rkTL25 := cell_regrown kTL25
      have rkTL26 := cell_regrown kTL26
      have rkTL27 := cell_regrown kTL27
      have rkTL28 := cell_regrown kTL28
      have rkTL29 := cell_regrown kTL29
      have rkTN0 := cell_regrown kTN0
      have rkTN1 := cell_regrown kTN1
      have rkTN2 := cell_regrown kTN2
      have rkTN3 := cell_regrown kTN3
      have rkTN4 := cell_regrown kTN4
      have cW : ∀ d os, Calls Tryd.prog 17 #[.agg #[.int .i64 1, .int .i64 0, .int .u32 167837696, .int .u32 4294901760, .int .u32 0, .int .u32 3]] (grow (redrawn wr d) os) fun e w'' => e = .returned (.int .i64 1) ∧ ∃ p : Regrown, w'' = grow (redrawn wr p.d) p.os := fun d os => Calls.regrown_of (whyRow0 _)
      have cN : ∀ d os, Calls Tryd.prog 19 #[.int .i64 1] (grow (redrawn wr d) os) fun e w'' => e = .returned (.string { data := #[102, 97, 109, 105, 108, 121] }) ∧ ∃ p : Regrown, w'' = grow (redrawn wr p.d) p.os := fun d os => Calls.regrown_of (nameRow0 _)
      clear kTL0 kTL1 kTL2 kTL3 kTL4 kTL5 kTL6 kTL7 kTL8 kTL9 kTL10 kTL11 kTL12 kTL13 kTL14 kTL15 kTL16 kTL17 kTL18 kTL19 kTL20 kTL21 kTL22 kTL23 kTL24 kTL25 kTL26 kTL27 kTL28 kTL29 kTN0 kTN1 kTN2 kTN3 kTN4
      refine wp_region_quiet_below (by kernel_rfl) (by kernel_rfl) ?_
      repeat (quiet_step (first | (with_reducible exact cW _ _) | (with_reducible exact cN _ _)))
      refine wpQuiet_nil ?_
      intro wq hwq
      obtain ⟨⟨dq, osq⟩, rfl⟩ := hwq
      have hb := below_regrown wr dq osq
      have yHY := HY.out.below hb
      have hv := HV.out.trans (hb.mono HV.out.size)
      have xTX := TX.out.below hb TX.out.lt
      have xTL := TL.out.below hb TL.out.lt
      have xTN := TN.out.below hb TN.out.lt
      generalize grow (redrawn wr dq) osq = w8 at *
      clear hb HV TX TL TN rkTL0 rkTL1 rkTL2 rkTL3 rkTL4 rkTL5 rkTL6 rkTL7 rkTL8 rkTL9 rkTL10 rkTL11 rkTL12 rkTL13 rkTL14 rkTL15 rkTL16 rkTL17 rkTL18 rkTL19 rkTL20 rkTL21 rkTL22 rkTL23 rkTL24 rkTL25 rkTL26 rkTL27 rkTL28 rkTL29 rkTN0 rkTN1 rkTN2 rkTN3 rkTN4 cW cN
      have HV := Lib.hid hv
      have TX := Lib.hid xTX
      have TL := Lib.hid xTL
      have TN := Lib.hid xTN
      clear hv xTX xTL xTN
      clear HY
      have HY := Lib.hid yHY
      clear yHY
      go_wp2_with fail
      exact ⟨⟨1, by omega, by simp, TX, TL, TN, HY, HV⟩, by simp [intOf]⟩
    · skip
      go_wp2_with fail
      have kTL0 := TL.out.cell 0
      have kTL1 := TL.out.cell 1
      have kTL2 := TL.out.cell 2
      have kTL3 := TL.out.cell 3
      have kTL4 := TL.out.cell 4
      have kTL5 := TL.out.cell 5
      have kTL6 := TL.out.cell 6
      have kTL7 := TL.out.cell 7
      have kTL8 := TL.out.cell 8
      have kTL9 := TL.out.cell 9
      have kTL10 := TL.out.cell 10
      have kTL11 := TL.out.cell 11
      have kTL12 := TL.out.cell 12
      have kTL13 := TL.out.cell 13
      have kTL14 := TL.out.cell 14
      have kTL15 := TL.out.cell 15
      have kTL16 := TL.out.cell 16
      have kTL17 := TL.out.cell 17
      have kTL18 := TL.out.cell 18
      have kTL19 := TL.out.cell 19
      have kTL20 := TL.out.cell 20
      have kTL21 := TL.out.cell 21
      have kTL22 := TL.out.cell 22
      have kTL23 := TL.out.cell 23
      have kTL24 := TL.out.cell 24
      have kTL25 := TL.out.cell 25
      have kTL26 := TL.out.cell 26
      have kTL27 := TL.out.cell 27
      have kTL28 := TL.out.cell 28
      have kTL29 := TL.out.cell 29
      have kTN0 := TN.out.cell 0
      have kTN1 := TN.out.cell 1
      have kTN2 := TN.out.cell 2
      have kTN3 := TN.out.cell 3
      have kTN4 := TN.out.cell 4
      simp only [List.getElem?_toArray, List.getElem?_cons_zero, List.getElem?_cons_succ] at kTL0 kTL1 kTL2 kTL3 kTL4 kTL5 kTL6 kTL7 kTL8 kTL9 kTL10 kTL11 kTL12 kTL13 kTL14 kTL15 kTL16 kTL17 kTL18 kTL19 kTL20 kTL21 kTL22 kTL23 kTL24 kTL25 kTL26 kTL27 kTL28 kTL29 kTN0 kTN1 kTN2 kTN3 kTN4
      have rkTL0 := cell_regrown kTL0
      have rkTL1 := cell_regrown kTL1
      have rkTL2 := cell_regrown kTL2
      have rkTL3 := cell_regrown kTL3
      have rkTL4 := cell_regrown kTL4
      have rkTL5 := cell_regrown kTL5
      have rkTL6 := cell_regrown kTL6
      have rkTL7 := cell_regrown kTL7
      have rkTL8 := cell_regrown kTL8
      have rkTL9 := cell_regrown kTL9
      have rkTL10 := cell_regrown kTL10
      have rkTL11 := cell_regrown kTL11
      have rkTL12 := cell_regrown kTL12
      have rkTL13 := cell_regrown kTL13
      have rkTL14 := cell_regrown kTL14
      have rkTL15 := cell_regrown kTL15
      have rkTL16 := cell_regrown kTL16
      have rkTL17 := cell_regrown kTL17
      have rkTL18 := cell_regrown kTL18
      have rkTL19 := cell_regrown kTL19
      have rkTL20 := cell_regrown kTL20
      have rkTL21 := cell_regrown kTL21
      have rkTL22 := cell_regrown kTL22
      have rkTL23 := cell_regrown kTL23
      have rkTL24 := cell_regrown kTL24
      have rkTL25 := cell_regrown kTL25
      have rkTL26 := cell_regrown kTL26
      have rkTL27 := cell_regrown kTL27
      have rkTL28 := cell_regrown kTL28
      have rkTL29 := cell_regrown kTL29
      have rkTN0 := cell_regrown kTN0
      have rkTN1 := cell_regrown kTN1
      have rkTN2 := cell_regrown kTN2
      have rkTN3 := cell_regrown kTN3
      have rkTN4 := cell_regrown kTN4
      have cW : ∀ d os, Calls Tryd.prog 17 #[.agg #[.int .i64 2, .int .i64 0, .int .u32 167837696, .int .u32 4278255360, .int .u32 0, .int .u32 3]] (grow (redrawn wr d) os) fun e w'' => e = .returned (.int .i64 2) ∧ ∃ p : Regrown, w'' = grow (redrawn wr p.d) p.os := fun d os => Calls.regrown_of (whyRow1 _)
      have cN : ∀ d os, Calls Tryd.prog 19 #[.int .i64 2] (grow (redrawn wr d) os) fun e w'' => e = .returned (.string { data := #[109, 97, 115, 107] }) ∧ ∃ p : Regrown, w'' = grow (redrawn wr p.d) p.os := fun d os => Calls.regrown_of (nameRow1 _)
      clear kTL0 kTL1 kTL2 kTL3 kTL4 kTL5 kTL6 kTL7 kTL8 kTL9 kTL10 kTL11 kTL12 kTL13 kTL14 kTL15 kTL16 kTL17 kTL18 kTL19 kTL20 kTL21 kTL22 kTL23 kTL24 kTL25 kTL26 kTL27 kTL28 kTL29 kTN0 kTN1 kTN2 kTN3 kTN4
      refine wp_region_quiet_below (by kernel_rfl) (by kernel_rfl) ?_
      repeat (quiet_step (first | (with_reducible exact cW _ _) | (with_reducible exact cN _ _)))
      refine wpQuiet_nil ?_
      intro wq hwq
      obtain ⟨⟨dq, osq⟩, rfl⟩ := hwq
      have hb := below_regrown wr dq osq
      have yHY := HY.out.below hb
      have hv := HV.out.trans (hb.mono HV.out.size)
      have xTX := TX.out.below hb TX.out.lt
      have xTL := TL.out.below hb TL.out.lt
      have xTN := TN.out.below hb TN.out.lt
      generalize grow (redrawn wr dq) osq = w9 at *
      clear hb HV TX TL TN rkTL0 rkTL1 rkTL2 rkTL3 rkTL4 rkTL5 rkTL6 rkTL7 rkTL8 rkTL9 rkTL10 rkTL11 rkTL12 rkTL13 rkTL14 rkTL15 rkTL16 rkTL17 rkTL18 rkTL19 rkTL20 rkTL21 rkTL22 rkTL23 rkTL24 rkTL25 rkTL26 rkTL27 rkTL28 rkTL29 rkTN0 rkTN1 rkTN2 rkTN3 rkTN4 cW cN
      have HV := Lib.hid hv
      have TX := Lib.hid xTX
      have TL := Lib.hid xTL
      have TN := Lib.hid xTN
      clear hv xTX xTL xTN
      clear HY
      have HY := Lib.hid yHY
      clear yHY
      go_wp2_with fail
      exact ⟨⟨2, by omega, by simp, TX, TL, TN, HY, HV⟩, by simp [intOf]⟩
    · skip
      go_wp2_with fail
      have kTL0 := TL.out.cell 0
      have kTL1 := TL.out.cell 1
      have kTL2 := TL.out.cell 2
      have kTL3 := TL.out.cell 3
      have kTL4 := TL.out.cell 4
      have kTL5 := TL.out.cell 5
      have kTL6 := TL.out.cell 6
      have kTL7 := TL.out.cell 7
      have kTL8 := TL.out.cell 8
      have kTL9 := TL.out.cell 9
      have kTL10 := TL.out.cell 10
      have kTL11 := TL.out.cell 11
      have kTL12 := TL.out.cell 12
      have kTL13 := TL.out.cell 13
      have kTL14 := TL.out.cell 14
      have kTL15 := TL.out.cell 15
      have kTL16 := TL.out.cell 16
      have kTL17 := TL.out.cell 17
      have kTL18 := TL.out.cell 18
      have kTL19 := TL.out.cell 19
      have kTL20 := TL.out.cell 20
      have kTL21 := TL.out.cell 21
      have kTL22 := TL.out.cell 22
      have kTL23 := TL.out.cell 23
      have kTL24 := TL.out.cell 24
      have kTL25 := TL.out.cell 25
      have kTL26 := TL.out.cell 26
      have kTL27 := TL.out.cell 27
      have kTL28 := TL.out.cell 28
      have kTL29 := TL.out.cell 29
      have kTN0 := TN.out.cell 0
      have kTN1 := TN.out.cell 1
      have kTN2 := TN.out.cell 2
      have kTN3 := TN.out.cell 3
      have kTN4 := TN.out.cell 4
      simp only [List.getElem?_toArray, List.getElem?_cons_zero, List.getElem?_cons_succ] at kTL0 kTL1 kTL2 kTL3 kTL4 kTL5 kTL6 kTL7 kTL8 kTL9 kTL10 kTL11 kTL12 kTL13 kTL14 kTL15 kTL16 kTL17 kTL18 kTL19 kTL20 kTL21 kTL22 kTL23 kTL24 kTL25 kTL26 kTL27 kTL28 kTL29 kTN0 kTN1 kTN2 kTN3 kTN4
      have rkTL0 := cell_regrown kTL0
      have rkTL1 := cell_regrown kTL1
      have rkTL2 := cell_regrown kTL2
      have rkTL3 := cell_regrown kTL3
      have rkTL4 := cell_regrown kTL4
      have rkTL5 := cell_regrown kTL5
      have rkTL6 := cell_regrown kTL6
      have rkTL7 := cell_regrown kTL7
      have rkTL8 := cell_regrown kTL8
      have rkTL9 := cell_regrown kTL9
      have rkTL10 := cell_regrown kTL10
      have rkTL11 := cell_regrown kTL11
      have rkTL12 := cell_regrown kTL12
      have rkTL13 := cell_regrown kTL13
      have rkTL14 := cell_regrown kTL14
      have rkTL15 := cell_regrown kTL15
      have rkTL16 := cell_regrown kTL16
      have rkTL17 := cell_regrown kTL17
      have rkTL18 := cell_regrown kTL18
      have rkTL19 := cell_regrown kTL19
      have rkTL20 := cell_regrown kTL20
      have rkTL21 := cell_regrown kTL21
      have rkTL22 := cell_regrown kTL22
      have rkTL23 := cell_regrown kTL23
      have rkTL24 := cell_regrown kTL24
      have rkTL25 := cell_regrown kTL25
      have rkTL26 := cell_regrown kTL26
      have rkTL27 := cell_regrown kTL27
      have rkTL28 := cell_regrown kTL28
      have rkTL29 := cell_regrown kTL29
      have rkTN0 := cell_regrown kTN0
      have rkTN1 := cell_regrown kTN1
      have rkTN2 := cell_regrown kTN2
      have rkTN3 := cell_regrown kTN3
      have rkTN4 := cell_regrown kTN4
      have cW : ∀ d os, Calls Tryd.prog 17 #[.agg #[.int .i64 2, .int .i64 0, .int .u32 167837697, .int .u32 4294901760, .int .u32 0, .int .u32 3]] (grow (redrawn wr d) os) fun e w'' => e = .returned (.int .i64 3) ∧ ∃ p : Regrown, w'' = grow (redrawn wr p.d) p.os := fun d os => Calls.regrown_of (whyRow2 _)
      have cN : ∀ d os, Calls Tryd.prog 19 #[.int .i64 3] (grow (redrawn wr d) os) fun e w'' => e = .returned (.string { data := #[98, 105, 116, 115] }) ∧ ∃ p : Regrown, w'' = grow (redrawn wr p.d) p.os := fun d os => Calls.regrown_of (nameRow2 _)
      clear kTL0 kTL1 kTL2 kTL3 kTL4 kTL5 kTL6 kTL7 kTL8 kTL9 kTL10 kTL11 kTL12 kTL13 kTL14 kTL15 kTL16 kTL17 kTL18 kTL19 kTL20 kTL21 kTL22 kTL23 kTL24 kTL25 kTL26 kTL27 kTL28 kTL29 kTN0 kTN1 kTN2 kTN3 kTN4
      refine wp_region_quiet_below (by kernel_rfl) (by kernel_rfl) ?_
      repeat (quiet_step (first | (with_reducible exact cW _ _) | (with_reducible exact cN _ _)))
      refine wpQuiet_nil ?_
      intro wq hwq
      obtain ⟨⟨dq, osq⟩, rfl⟩ := hwq
      have hb := below_regrown wr dq osq
      have yHY := HY.out.below hb
      have hv := HV.out.trans (hb.mono HV.out.size)
      have xTX := TX.out.below hb TX.out.lt
      have xTL := TL.out.below hb TL.out.lt
      have xTN := TN.out.below hb TN.out.lt
      generalize grow (redrawn wr dq) osq = w10 at *
      clear hb HV TX TL TN rkTL0 rkTL1 rkTL2 rkTL3 rkTL4 rkTL5 rkTL6 rkTL7 rkTL8 rkTL9 rkTL10 rkTL11 rkTL12 rkTL13 rkTL14 rkTL15 rkTL16 rkTL17 rkTL18 rkTL19 rkTL20 rkTL21 rkTL22 rkTL23 rkTL24 rkTL25 rkTL26 rkTL27 rkTL28 rkTL29 rkTN0 rkTN1 rkTN2 rkTN3 rkTN4 cW cN
      have HV := Lib.hid hv
      have TX := Lib.hid xTX
      have TL := Lib.hid xTL
      have TN := Lib.hid xTN
      clear hv xTX xTL xTN
      clear HY
      have HY := Lib.hid yHY
      clear yHY
      go_wp2_with fail
      exact ⟨⟨3, by omega, by simp, TX, TL, TN, HY, HV⟩, by simp [intOf]⟩
    · skip
      go_wp2_with fail
      have kTL0 := TL.out.cell 0
      have kTL1 := TL.out.cell 1
      have kTL2 := TL.out.cell 2
      have kTL3 := TL.out.cell 3
      have kTL4 := TL.out.cell 4
      have kTL5 := TL.out.cell 5
      have kTL6 := TL.out.cell 6
      have kTL7 := TL.out.cell 7
      have kTL8 := TL.out.cell 8
      have kTL9 := TL.out.cell 9
      have kTL10 := TL.out.cell 10
      have kTL11 := TL.out.cell 11
      have kTL12 := TL.out.cell 12
      have kTL13 := TL.out.cell 13
      have kTL14 := TL.out.cell 14
      have kTL15 := TL.out.cell 15
      have kTL16 := TL.out.cell 16
      have kTL17 := TL.out.cell 17
      have kTL18 := TL.out.cell 18
      have kTL19 := TL.out.cell 19
      have kTL20 := TL.out.cell 20
      have kTL21 := TL.out.cell 21
      have kTL22 := TL.out.cell 22
      have kTL23 := TL.out.cell 23
      have kTL24 := TL.out.cell 24
      have kTL25 := TL.out.cell 25
      have kTL26 := TL.out.cell 26
      have kTL27 := TL.out.cell 27
      have kTL28 := TL.out.cell 28
      have kTL29 := TL.out.cell 29
      have kTN0 := TN.out.cell 0
      have kTN1 := TN.out.cell 1
      have kTN2 := TN.out.cell 2
      have kTN3 := TN.out.cell 3
      have kTN4 := TN.out.cell 4
      simp only [List.getElem?_toArray, List.getElem?_cons_zero, List.getElem?_cons_succ] at kTL0 kTL1 kTL2 kTL3 kTL4 kTL5 kTL6 kTL7 kTL8 kTL9 kTL10 kTL11 kTL12 kTL13 kTL14 kTL15 kTL16 kTL17 kTL18 kTL19 kTL20 kTL21 kTL22 kTL23 kTL24 kTL25 kTL26 kTL27 kTL28 kTL29 kTN0 kTN1 kTN2 kTN3 kTN4
      have rkTL0 := cell_regrown kTL0
      have rkTL1 := cell_regrown kTL1
      have rkTL2 := cell_regrown kTL2
      have rkTL3 := cell_regrown kTL3
      have rkTL4 := cell_regrown kTL4
      have rkTL5 := cell_regrown kTL5
      have rkTL6 := cell_regrown kTL6
      have rkTL7 := cell_regrown kTL7
      have rkTL8 := cell_regrown kTL8
      have rkTL9 := cell_regrown kTL9
      have rkTL10 := cell_regrown kTL10
      have rkTL11 := cell_regrown kTL11
      have rkTL12 := cell_regrown kTL12
      have rkTL13 := cell_regrown kTL13
      have rkTL14 := cell_regrown kTL14
      have rkTL15 := cell_regrown kTL15
      have rkTL16 := cell_regrown kTL16
      have rkTL17 := cell_regrown kTL17
      have rkTL18 := cell_regrown kTL18
      have rkTL19 := cell_regrown kTL19
      have rkTL20 := cell_regrown kTL20
      have rkTL21 := cell_regrown kTL21
      have rkTL22 := cell_regrown kTL22
      have rkTL23 := cell_regrown kTL23
      have rkTL24 := cell_regrown kTL24
      have rkTL25 := cell_regrown kTL25
      have rkTL26 := cell_regrown kTL26
      have rkTL27 := cell_regrown kTL27
      have rkTL28 := cell_regrown kTL28
      have rkTL29 := cell_regrown kTL29
      have rkTN0 := cell_regrown kTN0
      have rkTN1 := cell_regrown kTN1
      have rkTN2 := cell_regrown kTN2
      have rkTN3 := cell_regrown kTN3
      have rkTN4 := cell_regrown kTN4
      have cW : ∀ d os, Calls Tryd.prog 17 #[.agg #[.int .i64 2, .int .i64 0, .int .u32 2130706432, .int .u32 4278190080, .int .u32 0, .int .u32 3]] (grow (redrawn wr d) os) fun e w'' => e = .returned (.int .i64 4) ∧ ∃ p : Regrown, w'' = grow (redrawn wr p.d) p.os := fun d os => Calls.regrown_of (whyRow3 _)
      have cN : ∀ d os, Calls Tryd.prog 19 #[.int .i64 4] (grow (redrawn wr d) os) fun e w'' => e = .returned (.string { data := #[107, 105, 110, 100] }) ∧ ∃ p : Regrown, w'' = grow (redrawn wr p.d) p.os := fun d os => Calls.regrown_of (nameRow3 _)
      clear kTL0 kTL1 kTL2 kTL3 kTL4 kTL5 kTL6 kTL7 kTL8 kTL9 kTL10 kTL11 kTL12 kTL13 kTL14 kTL15 kTL16 kTL17 kTL18 kTL19 kTL20 kTL21 kTL22 kTL23 kTL24 kTL25 kTL26 kTL27 kTL28 kTL29 kTN0 kTN1 kTN2 kTN3 kTN4
      refine wp_region_quiet_below (by kernel_rfl) (by kernel_rfl) ?_
      repeat (quiet_step (first | (with_reducible exact cW _ _) | (with_reducible exact cN _ _)))
      refine wpQuiet_nil ?_
      intro wq hwq
      obtain ⟨⟨dq, osq⟩, rfl⟩ := hwq
      have hb := below_regrown wr dq osq
      have yHY := HY.out.below hb
      have hv := HV.out.trans (hb.mono HV.out.size)
      have xTX := TX.out.below hb TX.out.lt
      have xTL := TL.out.below hb TL.out.lt
      have xTN := TN.out.below hb TN.out.lt
      generalize grow (redrawn wr dq) osq = w11 at *
      clear hb HV TX TL TN rkTL0 rkTL1 rkTL2 rkTL3 rkTL4 rkTL5 rkTL6 rkTL7 rkTL8 rkTL9 rkTL10 rkTL11 rkTL12 rkTL13 rkTL14 rkTL15 rkTL16 rkTL17 rkTL18 rkTL19 rkTL20 rkTL21 rkTL22 rkTL23 rkTL24 rkTL25 rkTL26 rkTL27 rkTL28 rkTL29 rkTN0 rkTN1 rkTN2 rkTN3 rkTN4 cW cN
      have HV := Lib.hid hv
      have TX := Lib.hid xTX
      have TL := Lib.hid xTL
      have TN := Lib.hid xTN
      clear hv xTX xTL xTN
      clear HY
      have HY := Lib.hid yHY
      clear yHY
      go_wp2_with fail
      exact ⟨⟨4, by omega, by simp, TX, TL, TN, HY, HV⟩, by simp [intOf]⟩
    · skip
      go_wp2_with fail
      have kTL0 := TL.out.cell 0
      have kTL1 := TL.out.cell 1
      have kTL2 := TL.out.cell 2
      have kTL3 := TL.out.cell 3
      have kTL4 := TL.out.cell 4
      have kTL5 := TL.out.cell 5
      have kTL6 := TL.out.cell 6
      have kTL7 := TL.out.cell 7
      have kTL8 := TL.out.cell 8
      have kTL9 := TL.out.cell 9
      have kTL10 := TL.out.cell 10
      have kTL11 := TL.out.cell 11
      have kTL12 := TL.out.cell 12
      have kTL13 := TL.out.cell 13
      have kTL14 := TL.out.cell 14
      have kTL15 := TL.out.cell 15
      have kTL16 := TL.out.cell 16
      have kTL17 := TL.out.cell 17
      have kTL18 := TL.out.cell 18
      have kTL19 := TL.out.cell 19
      have kTL20 := TL.out.cell 20
      have kTL21 := TL.out.cell 21
      have kTL22 := TL.out.cell 22
      have kTL23 := TL.out.cell 23
      have kTL24 := TL.out.cell 24
      have kTL25 := TL.out.cell 25
      have kTL26 := TL.out.cell 26
      have kTL27 := TL.out.cell 27
      have kTL28 := TL.out.cell 28
      have kTL29 := TL.out.cell 29
      have kTN0 := TN.out.cell 0
      have kTN1 := TN.out.cell 1
      have kTN2 := TN.out.cell 2
      have kTN3 := TN.out.cell 3
      have kTN4 := TN.out.cell 4
      simp only [List.getElem?_toArray, List.getElem?_cons_zero, List.getElem?_cons_succ] at kTL0 kTL1 kTL2 kTL3 kTL4 kTL5 kTL6 kTL7 kTL8 kTL9 kTL10 kTL11 kTL12 kTL13 kTL14 kTL15 kTL16 kTL17 kTL18 kTL19 kTL20 kTL21 kTL22 kTL23 kTL24 kTL25 kTL26 kTL27 kTL28 kTL29 kTN0 kTN1 kTN2 kTN3 kTN4
      have rkTL0 := cell_regrown kTL0
      have rkTL1 := cell_regrown kTL1
      have rkTL2 := cell_regrown kTL2
      have rkTL3 := cell_regrown kTL3
      have rkTL4 := cell_regrown kTL4
      have rkTL5 := cell_regrown kTL5
      have rkTL6 := cell_regrown kTL6
      have rkTL7 := cell_regrown kTL7
      have rkTL8 := cell_regrown kTL8
      have rkTL9 := cell_regrown kTL9
      have rkTL10 := cell_regrown kTL10
      have rkTL11 := cell_regrown kTL11
      have rkTL12 := cell_regrown kTL12
      have rkTL13 := cell_regrown kTL13
      have rkTL14 := cell_regrown kTL14
      have rkTL15 := cell_regrown kTL15
      have rkTL16 := cell_regrown kTL16
      have rkTL17 := cell_regrown kTL17
      have rkTL18 := cell_regrown kTL18
      have rkTL19 := cell_regrown kTL19
      have rkTL20 := cell_regrown kTL20
      have rkTL21 := cell_regrown kTL21
      have rkTL22 := cell_regrown kTL22
      have rkTL23 := cell_regrown kTL23
      have rkTL24 := cell_regrown kTL24
      have rkTL25 := cell_regrown kTL25
      have rkTL26 := cell_regrown kTL26
      have rkTL27 := cell_regrown kTL27
      have rkTL28 := cell_regrown kTL28
      have rkTL29 := cell_regrown kTL29
      have rkTN0 := cell_regrown kTN0
      have rkTN1 := cell_regrown kTN1
      have rkTN2 := cell_regrown kTN2
      have rkTN3 := cell_regrown kTN3
      have rkTN4 := cell_regrown kTN4
      have cW : ∀ d os, Calls Tryd.prog 17 #[.agg #[.int .i64 2, .int .i64 0, .int .u32 167837696, .int .u32 4294901760, .int .u32 0, .int .u32 17]] (grow (redrawn wr d) os) fun e w'' => e = .returned (.int .i64 6) ∧ ∃ p : Regrown, w'' = grow (redrawn wr p.d) p.os := fun d os => Calls.regrown_of (whyRow4 _)
      have cN : ∀ d os, Calls Tryd.prog 19 #[.int .i64 6] (grow (redrawn wr d) os) fun e w'' => e = .returned (.string { data := #[109, 101, 116, 114, 105, 99] }) ∧ ∃ p : Regrown, w'' = grow (redrawn wr p.d) p.os := fun d os => Calls.regrown_of (nameRow4 _)
      clear kTL0 kTL1 kTL2 kTL3 kTL4 kTL5 kTL6 kTL7 kTL8 kTL9 kTL10 kTL11 kTL12 kTL13 kTL14 kTL15 kTL16 kTL17 kTL18 kTL19 kTL20 kTL21 kTL22 kTL23 kTL24 kTL25 kTL26 kTL27 kTL28 kTL29 kTN0 kTN1 kTN2 kTN3 kTN4
      refine wp_region_quiet_below (by kernel_rfl) (by kernel_rfl) ?_
      repeat (quiet_step (first | (with_reducible exact cW _ _) | (with_reducible exact cN _ _)))
      refine wpQuiet_nil ?_
      intro wq hwq
      obtain ⟨⟨dq, osq⟩, rfl⟩ := hwq
      have hb := below_regrown wr dq osq
      have yHY := HY.out.below hb
      have hv := HV.out.trans (hb.mono HV.out.size)
      have xTX := TX.out.below hb TX.out.lt
      have xTL := TL.out.below hb TL.out.lt
      have xTN := TN.out.below hb TN.out.lt
      generalize grow (redrawn wr dq) osq = w12 at *
      clear hb HV TX TL TN rkTL0 rkTL1 rkTL2 rkTL3 rkTL4 rkTL5 rkTL6 rkTL7 rkTL8 rkTL9 rkTL10 rkTL11 rkTL12 rkTL13 rkTL14 rkTL15 rkTL16 rkTL17 rkTL18 rkTL19 rkTL20 rkTL21 rkTL22 rkTL23 rkTL24 rkTL25 rkTL26 rkTL27 rkTL28 rkTL29 rkTN0 rkTN1 rkTN2 rkTN3 rkTN4 cW cN
      have HV := Lib.hid hv
      have TX := Lib.hid xTX
      have TL := Lib.hid xTL
      have TN := Lib.hid xTN
      clear hv xTX xTL xTN
      clear HY
      have HY := Lib.hid yHY
      clear yHY
      go_wp2_with fail
      exact ⟨⟨5, by omega, by simp, TX, TL, TN, HY, HV⟩, by simp [intOf]⟩
    · skip
      go_wp2_with fail
      refine (ofRow2 _).mono ?_
      rintro e w13 ⟨rfl, hb⟩
      have hv := HV.out.trans (hb.mono HV.out.size)
      have xTX := TX.out.below hb TX.out.lt
      have xTL := TL.out.below hb TL.out.lt
      have xTN := TN.out.below hb TN.out.lt
      have yHY := HY.out.below hb
      clear hb HV TX TL TN
      have HV := Lib.hid hv
      have TX := Lib.hid xTX
      have TL := Lib.hid xTL
      have TN := Lib.hid xTN
      clear hv xTX xTL xTN
      clear HY
      have HY := Lib.hid yHY
      clear yHY
      go_wp2_with fail
      have hbx := (Below.refl w13.heap.size w13).alloc (Nat.le_refl _) (.cells #[.int .i64 2, .int .i64 0, .int .u32 0, .int .u32 0, .int .u32 0, .int .u32 1] 25)
      have yHY := HY.out.below hbx
      clear hbx
      have hv := HV.out
      have hv := hv.alloc hv.size (.cells #[.int .i64 2, .int .i64 0, .int .u32 0, .int .u32 0, .int .u32 0, .int .u32 1] 25)
      have xTX := (TX.out).alloc (.cells #[.int .i64 2, .int .i64 0, .int .u32 0, .int .u32 0, .int .u32 0, .int .u32 1] 25)
      have xTL := (TL.out).alloc (.cells #[.int .i64 2, .int .i64 0, .int .u32 0, .int .u32 0, .int .u32 0, .int .u32 1] 25)
      have xTN := (TN.out).alloc (.cells #[.int .i64 2, .int .i64 0, .int .u32 0, .int .u32 0, .int .u32 0, .int .u32 1] 25)
      have xTY : Blk (w13.alloc (.cells #[.int .i64 2, .int .i64 0, .int .u32 0, .int .u32 0, .int .u32 0, .int .u32 1] 25)) (w13.heap.size) 25 #[.int .i64 2, .int .i64 0, .int .u32 0, .int .u32 0, .int .u32 0, .int .u32 1] := by
        have := Blk.new w13 25 #[.int .i64 2, .int .i64 0, .int .u32 0, .int .u32 0, .int .u32 0, .int .u32 1]
        simpa using this
      generalize hvv : (w13.alloc (.cells #[.int .i64 2, .int .i64 0, .int .u32 0, .int .u32 0, .int .u32 0, .int .u32 1] 25)) = v2 at *
      clear hvv
      generalize w13.heap.size = gTY at *
      clear HV TX TL TN
      have HV := Lib.hid hv
      have TX := Lib.hid xTX
      have TL := Lib.hid xTL
      have TN := Lib.hid xTN
      have TY := Lib.hid xTY
      clear hv xTX xTL xTN xTY
      clear HY
      have HY := Lib.hid yHY
      clear yHY
      refine (ofRow3 _).mono ?_
      rintro e w14 ⟨rfl, hb⟩
      have hv := HV.out.trans (hb.mono HV.out.size)
      have xTX := TX.out.below hb TX.out.lt
      have xTL := TL.out.below hb TL.out.lt
      have xTN := TN.out.below hb TN.out.lt
      have xTY := TY.out.below hb TY.out.lt
      have yHY := HY.out.below hb
      clear hb HV TX TL TN TY
      have HV := Lib.hid hv
      have TX := Lib.hid xTX
      have TL := Lib.hid xTL
      have TN := Lib.hid xTN
      have TY := Lib.hid xTY
      clear hv xTX xTL xTN xTY
      clear HY
      have HY := Lib.hid yHY
      clear yHY
      go_wp2_with fail
      have hbx := (Below.refl w14.heap.size w14).alloc (Nat.le_refl _) (.cells #[.int .i64 0, .int .i64 0, .int .u32 0, .int .u32 0, .int .u32 0, .int .u32 0] 25)
      have yHY := HY.out.below hbx
      clear hbx
      have hv := HV.out
      have hv := hv.alloc hv.size (.cells #[.int .i64 0, .int .i64 0, .int .u32 0, .int .u32 0, .int .u32 0, .int .u32 0] 25)
      have xTX := (TX.out).alloc (.cells #[.int .i64 0, .int .i64 0, .int .u32 0, .int .u32 0, .int .u32 0, .int .u32 0] 25)
      have xTL := (TL.out).alloc (.cells #[.int .i64 0, .int .i64 0, .int .u32 0, .int .u32 0, .int .u32 0, .int .u32 0] 25)
      have xTN := (TN.out).alloc (.cells #[.int .i64 0, .int .i64 0, .int .u32 0, .int .u32 0, .int .u32 0, .int .u32 0] 25)
      have xTY := (TY.out).alloc (.cells #[.int .i64 0, .int .i64 0, .int .u32 0, .int .u32 0, .int .u32 0, .int .u32 0] 25)
      have xTZ : Blk (w14.alloc (.cells #[.int .i64 0, .int .i64 0, .int .u32 0, .int .u32 0, .int .u32 0, .int .u32 0] 25)) (w14.heap.size) 25 #[.int .i64 0, .int .i64 0, .int .u32 0, .int .u32 0, .int .u32 0, .int .u32 0] := by
        have := Blk.new w14 25 #[.int .i64 0, .int .i64 0, .int .u32 0, .int .u32 0, .int .u32 0, .int .u32 0]
        simpa using this
      generalize hvv : (w14.alloc (.cells #[.int .i64 0, .int .i64 0, .int .u32 0, .int .u32 0, .int .u32 0, .int .u32 0] 25)) = v3 at *
      clear hvv
      generalize w14.heap.size = gTZ at *
      clear HV TX TL TN TY
      have HV := Lib.hid hv
      have TX := Lib.hid xTX
      have TL := Lib.hid xTL
      have TN := Lib.hid xTN
      have TY := Lib.hid xTY
      have TZ := Lib.hid xTZ
      clear hv xTX xTL xTN xTY xTZ
      clear HY
      have HY := Lib.hid yHY
      clear yHY
      refine (all4Row _).mono ?_
      rintro e w15 ⟨rfl, hb⟩
      have hv := HV.out.trans (hb.mono HV.out.size)
      have xTX := TX.out.below hb TX.out.lt
      have xTL := TL.out.below hb TL.out.lt
      have xTN := TN.out.below hb TN.out.lt
      have xTY := TY.out.below hb TY.out.lt
      have xTZ := TZ.out.below hb TZ.out.lt
      have yHY := HY.out.below hb
      clear hb HV TX TL TN TY TZ
      have HV := Lib.hid hv
      have TX := Lib.hid xTX
      have TL := Lib.hid xTL
      have TN := Lib.hid xTN
      have TY := Lib.hid xTY
      have TZ := Lib.hid xTZ
      clear hv xTX xTL xTN xTY xTZ
      clear HY
      have HY := Lib.hid yHY
      clear yHY
      go_wp2_with fail
      refine (preRow _).mono ?_
      rintro e w16 ⟨rfl, hb⟩
      have hv := HV.out.trans (hb.mono HV.out.size)
      have xTX := TX.out.below hb TX.out.lt
      have xTL := TL.out.below hb TL.out.lt
      have xTN := TN.out.below hb TN.out.lt
      have xTY := TY.out.below hb TY.out.lt
      have xTZ := TZ.out.below hb TZ.out.lt
      have yHY := HY.out.below hb
      clear hb HV TX TL TN TY TZ
      have HV := Lib.hid hv
      have TX := Lib.hid xTX
      have TL := Lib.hid xTL
      have TN := Lib.hid xTN
      have TY := Lib.hid xTY
      have TZ := Lib.hid xTZ
      clear hv xTX xTL xTN xTY xTZ
      clear HY
      have HY := Lib.hid yHY
      clear yHY
      go_wp2_with fail
      have hbx := (Below.refl w16.heap.size w16).alloc (Nat.le_refl _) (.cells #[.int .u32 0, .int .i64 0] 41)
      have yHY := HY.out.below hbx
      clear hbx
      have hv := HV.out
      have hv := hv.alloc hv.size (.cells #[.int .u32 0, .int .i64 0] 41)
      have xTX := (TX.out).alloc (.cells #[.int .u32 0, .int .i64 0] 41)
      have xTL := (TL.out).alloc (.cells #[.int .u32 0, .int .i64 0] 41)
      have xTN := (TN.out).alloc (.cells #[.int .u32 0, .int .i64 0] 41)
      have xTY := (TY.out).alloc (.cells #[.int .u32 0, .int .i64 0] 41)
      have xTZ := (TZ.out).alloc (.cells #[.int .u32 0, .int .i64 0] 41)
      have xTP : Blk (w16.alloc (.cells #[.int .u32 0, .int .i64 0] 41)) (w16.heap.size) 41 #[.int .u32 0, .int .i64 0] := by
        have := Blk.new w16 41 #[.int .u32 0, .int .i64 0]
        simpa using this
      generalize hvv : (w16.alloc (.cells #[.int .u32 0, .int .i64 0] 41)) = v4 at *
      clear hvv
      generalize w16.heap.size = gTP at *
      clear HV TX TL TN TY TZ
      have HV := Lib.hid hv
      have TX := Lib.hid xTX
      have TL := Lib.hid xTL
      have TN := Lib.hid xTN
      have TY := Lib.hid xTY
      have TZ := Lib.hid xTZ
      have TP := Lib.hid xTP
      clear hv xTX xTL xTN xTY xTZ xTP
      clear HY
      have HY := Lib.hid yHY
      clear yHY
      have eC : ∀ d os, Sem.run Tryd.prog (convert 26 9 (.slice p3 20 c3)) (grow (redrawn v4 d) os) = .ok (.string { data := #[0, 2, 0, 0, 10, 1, 0, 0, 255, 255, 0, 0, 0, 0, 0, 0, 0, 0, 0, 3] }) (grow (redrawn v4 d) os) := fun d os => convRow (HY.out.below (below_regrown v4 d os)) c3
      have kTX0 := TX.out.cell 0
      have kTX1 := TX.out.cell 1
      have kTX2 := TX.out.cell 2
      have kTX3 := TX.out.cell 3
      have kTX4 := TX.out.cell 4
      have kTX5 := TX.out.cell 5
      have kTY0 := TY.out.cell 0
      have kTY1 := TY.out.cell 1
      have kTY2 := TY.out.cell 2
      have kTY3 := TY.out.cell 3
      have kTY4 := TY.out.cell 4
      have kTY5 := TY.out.cell 5
      simp only [List.getElem?_toArray, List.getElem?_cons_zero, List.getElem?_cons_succ] at kTX0 kTX1 kTX2 kTX3 kTX4 kTX5 kTY0 kTY1 kTY2 kTY3 kTY4 kTY5
      have rkTX0 := cell_regrown kTX0
      have rkTX1 := cell_regrown kTX1
      have rkTX2 := cell_regrown kTX2
      have rkTX3 := cell_regrown kTX3
      have rkTX4 := cell_regrown kTX4
      have rkTX5 := cell_regrown kTX5
      have rkTY0 := cell_regrown kTY0
      have rkTY1 := cell_regrown kTY1
      have rkTY2 := cell_regrown kTY2
      have rkTY3 := cell_regrown kTY3
      have rkTY4 := cell_regrown kTY4
      have rkTY5 := cell_regrown kTY5
      have cN : ∀ (n : Int) d os, Calls Tryd.prog 11 #[.int .i64 n] (grow (redrawn v4 d) os) fun e w'' => e = .returned (.int .i64 n) ∧ ∃ p : Regrown, w'' = grow (redrawn v4 p.d) p.os := fun n d os => Calls.regrown_of ((num4_any n _).mono fun _ _ ⟨he, hw⟩ => ⟨he, by rw [← hw]; exact Below.refl _ _⟩)
      have cG : ∀ d os, Calls Tryd.prog 26 #[] (grow (redrawn v4 d) os) fun e w'' => e = .returned (.agg #[.int .i64 2, .int .i64 0, .int .u32 167837696, .int .u32 4294901760, .int .u32 0, .int .u32 3]) ∧ ∃ p : Regrown, w'' = grow (redrawn v4 p.d) p.os := fun d os => Calls.regrown_of (given_any _)
      have cW : ∀ d os, Calls Tryd.prog 17 #[.agg #[.int .i64 2, .int .i64 0, .int .u32 0, .int .u32 0, .int .u32 0, .int .u32 1]] (grow (redrawn v4 d) os) fun e w'' => e = .returned (.int .i64 0) ∧ ∃ p : Regrown, w'' = grow (redrawn v4 p.d) p.os := fun d os => Calls.regrown_of (whyRowY _)
      clear kTX0 kTX1 kTX2 kTX3 kTX4 kTX5 kTY0 kTY1 kTY2 kTY3 kTY4 kTY5
      refine wp_region_quiet_below (by kernel_rfl) (by kernel_rfl) ?_
      try simp only [List.append_eq, List.cons_append, List.nil_append]
      repeat (go_big_quiet_step (first | (with_reducible exact cN _ _ _) | (with_reducible exact cG _ _) | (with_reducible exact cW _ _)))
      refine wpQuiet_nil ?_
      intro wq hwq
      obtain ⟨⟨dq, osq⟩, rfl⟩ := hwq
      have hb := below_regrown v4 dq osq
      have yHY := HY.out.below hb
      have hv := HV.out.trans (hb.mono HV.out.size)
      have xTX := TX.out.below hb TX.out.lt
      have xTL := TL.out.below hb TL.out.lt
      have xTN := TN.out.below hb TN.out.lt
      have xTY := TY.out.below hb TY.out.lt
      have xTZ := TZ.out.below hb TZ.out.lt
      have xTP := TP.out.below hb TP.out.lt
      generalize grow (redrawn v4 dq) osq = w17 at *
      clear hb HV TX TL TN TY TZ TP rkTX0 rkTX1 rkTX2 rkTX3 rkTX4 rkTX5 rkTY0 rkTY1 rkTY2 rkTY3 rkTY4 rkTY5 cN cG cW
      have HV := Lib.hid hv
      have TX := Lib.hid xTX
      have TL := Lib.hid xTL
      have TN := Lib.hid xTN
      have TY := Lib.hid xTY
      have TZ := Lib.hid xTZ
      have TP := Lib.hid xTP
      clear hv xTX xTL xTN xTY xTZ xTP
      clear HY
      have HY := Lib.hid yHY
      clear yHY
      go_wp2_with fail
      go_ret
      exact ⟨rfl, HV.out⟩
theorem yes4 : ∀ w : World, Fit3 w → Calls Tryd.prog 8 #[] w fun e w' => e = .returned (.bool true) ∧ Below w.heap.size w w' := fun w hf => works4_any w hf
end Go.Proofs.YtfbfdjcdjogefaaDoor
