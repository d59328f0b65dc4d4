/- Merged by tools/merge.py: W14, W15. -/
import Derived.Test.YtehhablobfaplaaDoorW2
import Derived.Test.YtehhablobfaplaaDoorN2
import Derived.Deep.Cut
import Derived.Test.YtehhablobfaplaaDoorW4
import Derived.Defers
import Derived.Recover
namespace Go.Proofs.YtehhablobfaplaaDoor
open Go Go.RowKit
attribute [local go_sem] Oper.semAt_some

abbrev gaveE (n : Int) : Ending := .panicked [{ v := .iface 28 (.int .i64 n), recovered := false }]

set_option maxRecDepth 100000 in
set_option maxHeartbeats 800000 in
theorem number4_ok {base : Nat} (w : World) (B r : Nat) (xs : List Int) (a k : Nat) (hr : Rd3 base w r xs a) (ha : a ≤ xs.length) (hf : Fit3 w) (hB : Blk w B 105 #[.pointer (some ⟨r, 0, none⟩)]) (hz : readNo xs a k = 0) :
    Calls Tryd.prog 75 #[.int .i64 k, .pointer (some ⟨B, 0, none⟩)] w fun e w' => e = .returned (.int .u32 (readN xs a k)) ∧ Rd3 base w' r xs (a + k) ∧ w.grownBy w' (some r) := by
  have ht := take3_any w r xs a k hr ha hf
  rw [hz, if_pos rfl, Int.toNat_natCast] at ht
  have HT := Lib.hid ht
  have c0 := hB.cell 0
  simp only [List.getElem?_toArray, List.getElem?_cons_zero] at c0
  clear ht hr ha hf hB hz
  generalize readN xs a k = v at *
  go_enter Tryd.func75, Tryd.ntmps75
  go_wp2_with fail
  refine HT.out.mono ?_
  rintro e w' ⟨rfl, h1, h2⟩
  have H1 := Lib.hid h1
  have H2 := Lib.hid h2
  clear h1 h2 HT c0
  go_wp2_with fail
  go_ret
  exact ⟨rfl, H1.out, H2.out⟩

set_option maxRecDepth 100000 in
set_option maxHeartbeats 800000 in
theorem number4_no {base : Nat} (w : World) (B r : Nat) (xs : List Int) (a k : Nat) (hr : Rd3 base w r xs a) (ha : a ≤ xs.length) (hf : Fit3 w) (hB : Blk w B 105 #[.pointer (some ⟨r, 0, none⟩)]) (hz : readNo xs a k = 130) :
    Calls Tryd.prog 75 #[.int .i64 k, .pointer (some ⟨B, 0, none⟩)] w fun e w' => e = gaveE 130 ∧ w.grownBy w' (some r) := by
  have ht := take3_any w r xs a k hr ha hf
  rw [hz, if_neg (by decide)] at ht
  have HT := Lib.hid ht
  have c0 := hB.cell 0
  simp only [List.getElem?_toArray, List.getElem?_cons_zero] at c0
  clear ht hr ha hf hB hz
  generalize readN xs a k = v at *
  go_enter Tryd.func75, Tryd.ntmps75
  go_wp2_with fail
  refine HT.out.mono ?_
  rintro e w' ⟨rfl, h1, h2⟩
  have H2 := Lib.hid h2
  clear h1 h2 HT c0
  go_wp2_with fail
  exact ⟨rfl, rfl, H2.out⟩

/-- What holds while an entry is read. -/
structure RW (U0 w : World) (r : Nat) (xs : List Int) (a : Nat) (cs : Array Value) (W : World) : Prop where
  rd : Rd3 U0.heap.size W r xs a
  tb : Blk W w.heap.size 105 #[.pointer (some ⟨r, 0, none⟩)]
  tr : Blk W (w.heap.size + 1) 55 #[.int .i64 0, .int .i64 0, .int .u32 0, .int .u32 0, .int .u32 0, .int .u32 0]
  tx : Blk W (w.heap.size + 1 + 1) 55 cs
  gr : w.grownBy W (some r)
  bl : Below U0.heap.size U0 W
theorem RW.fit {U0 w : World} {r : Nat} {xs : List Int} {a : Nat} {cs : Array Value} {W : World} (h : RW U0 w r xs a cs W) (hf : Fit3 U0) : Fit3 W := hf.below h.bl
theorem RW.took {U0 w : World} {r : Nat} {xs : List Int} {a a' : Nat} {cs : Array Value} {W W' : World} (h : RW U0 w r xs a cs W) (hrw : r < w.heap.size) (h1 : Rd3 U0.heap.size W' r xs a') (h2 : W.grownBy W' (some r)) : RW U0 w r xs a' cs W' :=
  ⟨h1, h.tb.grown h2 (by simp; omega), h.tr.grown h2 (by simp; omega), h.tx.grown h2 (by simp; omega), grown_trans h.gr h2, h.bl.grown h2 h.bl.size (fun k hk => by cases hk; exact h.rd.ge)⟩
theorem RW.put {U0 w : World} {r : Nat} {xs : List Int} {a : Nat} {cs : Array Value} {W : World} (h : RW U0 w r xs a cs W) (hw : U0.heap.size ≤ w.heap.size) (hrw : r < w.heap.size) (i : Nat) (v : Value) : RW U0 w r xs a (cs.setIfInBounds i v) (W.setCell ⟨w.heap.size + 1 + 1, i, none⟩ v) :=
  ⟨h.rd.far _ _ (by simp; omega), h.tb.far (by simp; omega) _, h.tr.far (by simp) _, h.tx.set_ i v, by
    have hg := grown_set W (w.heap.size + 1 + 1) i v
    exact ⟨hg.os.trans h.gr.os, hg.tape.trans h.gr.tape, hg.output.trans h.gr.output, Nat.le_trans h.gr.size hg.size, fun q hq hne => (hg.block q (Nat.lt_of_lt_of_le hq h.gr.size) (by simp; omega)).trans (h.gr.block q hq hne)⟩, h.bl.setCell (by simp; omega) _⟩

theorem read_no {xs : List Int} {a k : Nat} (hk : k = 2 ∨ k = 4) (ha : a ≤ xs.length) : readNo xs a k = if a + k ≤ xs.length then 0 else 130 := by
  unfold readNo
  rw [if_neg (by rcases hk with rfl | rfl <;> simp [W3]), if_neg (by omega)]
  by_cases h : a + k ≤ xs.length
  · rw [if_pos h, if_neg (by omega)]
  · rw [if_neg h, if_pos (by omega)]
theorem read_n {xs : List Int} {a k : Nat} (hk : k = 2 ∨ k = 4) (h : a + k ≤ xs.length) : readN xs a k = valB ((xs.drop a).take k) := by
  unfold readN
  rw [read_no hk (by omega), if_pos h, if_pos rfl, Int.toNat_natCast, Int.toNat_natCast]

set_option maxRecDepth 100000 in
set_option maxHeartbeats 3200000 in
theorem entry4_any (U0 w : World) (hf : Fit3 U0) (hb : Below U0.heap.size U0 w) (r : Nat) (xs : List Int) (hr : Rd3 U0.heap.size w r xs 0) :
    Calls Tryd.prog 70 #[.agg #[.pointer (some ⟨r, 0, none⟩)]] w fun e w' => e = (if 20 ≤ xs.length then .returned (entV (readE xs)) else gaveE 130) ∧ Below U0.heap.size U0 w' ∧ w.grownBy w' (some r) := by
  have hrw := hr.lt
  have hws := hb.size
  have hbx : IsBytes xs := by
    obtain ⟨b, c, _, _, _, _, _, h6, _⟩ := hr
    exact h6
  have HRW : Hid (RW U0 w r xs 0 #[.int .i64 0, .int .i64 0, .int .u32 0, .int .u32 0, .int .u32 0, .int .u32 0] (((w.alloc (.cells #[.pointer (some ⟨r, 0, none⟩)] 105)).alloc (.cells #[.int .i64 0, .int .i64 0, .int .u32 0, .int .u32 0, .int .u32 0, .int .u32 0] 55)).alloc (.cells #[.int .i64 0, .int .i64 0, .int .u32 0, .int .u32 0, .int .u32 0, .int .u32 0] 55))) := by
    have h3 := ((((Below.refl w.heap.size w).alloc (Nat.le_refl _) (.cells #[.pointer (some ⟨r, 0, none⟩)] 105)).alloc (by simp) (.cells #[.int .i64 0, .int .i64 0, .int .u32 0, .int .u32 0, .int .u32 0, .int .u32 0] 55)).alloc (by simp; omega) (.cells #[.int .i64 0, .int .i64 0, .int .u32 0, .int .u32 0, .int .u32 0, .int .u32 0] 55))
    refine ⟨hr.keep h3, ((Blk.new w _ _).alloc _).alloc _, ?_, ?_, grown_below h3 _, hb.trans (h3.mono hws)⟩
    · have := (Blk.new (w.alloc (.cells #[.pointer (some ⟨r, 0, none⟩)] 105)) 55 #[.int .i64 0, .int .i64 0, .int .u32 0, .int .u32 0, .int .u32 0, .int .u32 0]).alloc (.cells #[.int .i64 0, .int .i64 0, .int .u32 0, .int .u32 0, .int .u32 0, .int .u32 0] 55)
      simpa using this
    · have := Blk.new ((w.alloc (.cells #[.pointer (some ⟨r, 0, none⟩)] 105)).alloc (.cells #[.int .i64 0, .int .i64 0, .int .u32 0, .int .u32 0, .int .u32 0, .int .u32 0] 55)) 55 #[.int .i64 0, .int .i64 0, .int .u32 0, .int .u32 0, .int .u32 0, .int .u32 0]
      simpa using this
  have HF := Lib.hid hf
  have HX := Lib.hid hbx
  clear hr hf hbx hb
  go_enter Tryd.func70, Tryd.ntmps70
  go_wp2_with fail
  by_cases h0 : 2 ≤ xs.length
  · have hno := read_no (xs := xs) (a := 0) (k := 2) (by omega) (by omega)
    rw [if_pos h0] at hno
    have hc := number4_ok _ w.heap.size r xs 0 2 HRW.out.rd (by omega) (HRW.out.fit HF.out) HRW.out.tb hno
    rw [read_n (xs := xs) (a := 0) (k := 2) (by omega) h0] at hc
    have hv := valB_lt (l := (xs.drop 0).take 2) ((HX.out.drop 0).take 2) (by simp; omega)
    have hl : ((xs.drop 0).take 2).length = 2 := by simp; omega
    rw [hl] at hv
    obtain ⟨v0, hv0⟩ : ∃ v, valB ((xs.drop 0).take 2) = v := ⟨_, rfl⟩
    rw [hv0] at hc hv
    have q00 : 0 ≤ v0 := hv.1
    have q01 : v0 < 65536 := hv.2
    have e0 : IntKind.i64.wrap v0 = v0 := by rw [IntKind.wrap_i64]; omega
    have HC := Lib.hid hc
    have HV0 := Lib.hid hv0
    clear hc hno hv hl hv0
    refine HC.out.mono ?_
    rintro e w0 ⟨rfl, hr1, hg1⟩
    have HT := Lib.hid (HRW.out.took hrw hr1 hg1)
    have z0 := HT.out.tx.frozen 0
    have x0 := HT.out.tx.cell 0
    simp only [List.getElem?_toArray, List.getElem?_cons_zero] at x0
    have hp := HT.out.put hws hrw 0 (.int .i64 v0)
    have HP : Hid (RW U0 w r xs 2 #[.int .i64 v0, .int .i64 0, .int .u32 0, .int .u32 0, .int .u32 0, .int .u32 0] (w0.setCell ⟨w.heap.size + 1 + 1, 0, none⟩ (.int .i64 v0))) := Lib.hid (by simpa using hp)
    clear hr1 hg1 HC HRW HT hp
    go_wp2_with fail
    generalize w0.setCell ⟨w.heap.size + 1 + 1, 0, none⟩ (.int .i64 v0) = W0 at *
    have HRW := HP
    clear HP z0 x0
    by_cases h1 : 4 ≤ xs.length
    · have hno := read_no (xs := xs) (a := 2) (k := 2) (by omega) (by omega)
      rw [if_pos h1] at hno
      have hc := number4_ok _ w.heap.size r xs 2 2 HRW.out.rd (by omega) (HRW.out.fit HF.out) HRW.out.tb hno
      rw [read_n (xs := xs) (a := 2) (k := 2) (by omega) h1] at hc
      have hv := valB_lt (l := (xs.drop 2).take 2) ((HX.out.drop 2).take 2) (by simp; omega)
      have hl : ((xs.drop 2).take 2).length = 2 := by simp; omega
      rw [hl] at hv
      obtain ⟨v1, hv1⟩ : ∃ v, valB ((xs.drop 2).take 2) = v := ⟨_, rfl⟩
      rw [hv1] at hc hv
      have q10 : 0 ≤ v1 := hv.1
      have q11 : v1 < 65536 := hv.2
      have e1 : IntKind.i64.wrap v1 = v1 := by rw [IntKind.wrap_i64]; omega
      have HC := Lib.hid hc
      have HV1 := Lib.hid hv1
      clear hc hno hv hl hv1
      refine HC.out.mono ?_
      rintro e w1 ⟨rfl, hr1, hg1⟩
      have HT := Lib.hid (HRW.out.took hrw hr1 hg1)
      have z1 := HT.out.tx.frozen 1
      have x1 := HT.out.tx.cell 1
      simp only [List.getElem?_toArray, List.getElem?_cons_zero, List.getElem?_cons_succ] at x1
      have hp := HT.out.put hws hrw 1 (.int .i64 v1)
      have HP : Hid (RW U0 w r xs 4 #[.int .i64 v0, .int .i64 v1, .int .u32 0, .int .u32 0, .int .u32 0, .int .u32 0] (w1.setCell ⟨w.heap.size + 1 + 1, 1, none⟩ (.int .i64 v1))) := Lib.hid (by simpa using hp)
      clear hr1 hg1 HC HRW HT hp
      go_wp2_with fail
      generalize w1.setCell ⟨w.heap.size + 1 + 1, 1, none⟩ (.int .i64 v1) = W1 at *
      have HRW := HP
      clear HP z1 x1
      by_cases h2 : 8 ≤ xs.length
      · have hno := read_no (xs := xs) (a := 4) (k := 4) (by omega) (by omega)
        rw [if_pos h2] at hno
        have hc := number4_ok _ w.heap.size r xs 4 4 HRW.out.rd (by omega) (HRW.out.fit HF.out) HRW.out.tb hno
        rw [read_n (xs := xs) (a := 4) (k := 4) (by omega) h2] at hc
        have hv := valB_lt (l := (xs.drop 4).take 4) ((HX.out.drop 4).take 4) (by simp; omega)
        have hl : ((xs.drop 4).take 4).length = 4 := by simp; omega
        rw [hl] at hv
        obtain ⟨v2, hv2⟩ : ∃ v, valB ((xs.drop 4).take 4) = v := ⟨_, rfl⟩
        rw [hv2] at hc hv
        have q20 : 0 ≤ v2 := hv.1
        have q21 : v2 < 4294967296 := hv.2
        have HC := Lib.hid hc
        have HV2 := Lib.hid hv2
        clear hc hno hv hl hv2
        refine HC.out.mono ?_
        rintro e w2 ⟨rfl, hr1, hg1⟩
        have HT := Lib.hid (HRW.out.took hrw hr1 hg1)
        have z2 := HT.out.tx.frozen 2
        have x2 := HT.out.tx.cell 2
        simp only [List.getElem?_toArray, List.getElem?_cons_zero, List.getElem?_cons_succ] at x2
        have hp := HT.out.put hws hrw 2 (.int .u32 v2)
        have HP : Hid (RW U0 w r xs 8 #[.int .i64 v0, .int .i64 v1, .int .u32 v2, .int .u32 0, .int .u32 0, .int .u32 0] (w2.setCell ⟨w.heap.size + 1 + 1, 2, none⟩ (.int .u32 v2))) := Lib.hid (by simpa using hp)
        clear hr1 hg1 HC HRW HT hp
        go_wp2_with fail
        generalize w2.setCell ⟨w.heap.size + 1 + 1, 2, none⟩ (.int .u32 v2) = W2 at *
        have HRW := HP
        clear HP z2 x2
        by_cases h3 : 12 ≤ xs.length
        · have hno := read_no (xs := xs) (a := 8) (k := 4) (by omega) (by omega)
          rw [if_pos h3] at hno
          have hc := number4_ok _ w.heap.size r xs 8 4 HRW.out.rd (by omega) (HRW.out.fit HF.out) HRW.out.tb hno
          rw [read_n (xs := xs) (a := 8) (k := 4) (by omega) h3] at hc
          have hv := valB_lt (l := (xs.drop 8).take 4) ((HX.out.drop 8).take 4) (by simp; omega)
          have hl : ((xs.drop 8).take 4).length = 4 := by simp; omega
          rw [hl] at hv
          obtain ⟨v3, hv3⟩ : ∃ v, valB ((xs.drop 8).take 4) = v := ⟨_, rfl⟩
          rw [hv3] at hc hv
          have q30 : 0 ≤ v3 := hv.1
          have q31 : v3 < 4294967296 := hv.2
          have HC := Lib.hid hc
          have HV3 := Lib.hid hv3
          clear hc hno hv hl hv3
          refine HC.out.mono ?_
          rintro e w3 ⟨rfl, hr1, hg1⟩
          have HT := Lib.hid (HRW.out.took hrw hr1 hg1)
          have z3 := HT.out.tx.frozen 3
          have x3 := HT.out.tx.cell 3
          simp only [List.getElem?_toArray, List.getElem?_cons_zero, List.getElem?_cons_succ] at x3
          have hp := HT.out.put hws hrw 3 (.int .u32 v3)
          have HP : Hid (RW U0 w r xs 12 #[.int .i64 v0, .int .i64 v1, .int .u32 v2, .int .u32 v3, .int .u32 0, .int .u32 0] (w3.setCell ⟨w.heap.size + 1 + 1, 3, none⟩ (.int .u32 v3))) := Lib.hid (by simpa using hp)
          clear hr1 hg1 HC HRW HT hp
          go_wp2_with fail
          generalize w3.setCell ⟨w.heap.size + 1 + 1, 3, none⟩ (.int .u32 v3) = W3 at *
          have HRW := HP
          clear HP z3 x3
          by_cases h4 : 16 ≤ xs.length
          · have hno := read_no (xs := xs) (a := 12) (k := 4) (by omega) (by omega)
            rw [if_pos h4] at hno
            have hc := number4_ok _ w.heap.size r xs 12 4 HRW.out.rd (by omega) (HRW.out.fit HF.out) HRW.out.tb hno
            rw [read_n (xs := xs) (a := 12) (k := 4) (by omega) h4] at hc
            have hv := valB_lt (l := (xs.drop 12).take 4) ((HX.out.drop 12).take 4) (by simp; omega)
            have hl : ((xs.drop 12).take 4).length = 4 := by simp; omega
            rw [hl] at hv
            obtain ⟨v4, hv4⟩ : ∃ v, valB ((xs.drop 12).take 4) = v := ⟨_, rfl⟩
            rw [hv4] at hc hv
            have q40 : 0 ≤ v4 := hv.1
            have q41 : v4 < 4294967296 := hv.2
            have HC := Lib.hid hc
            have HV4 := Lib.hid hv4
            clear hc hno hv hl hv4
            refine HC.out.mono ?_
            rintro e w4 ⟨rfl, hr1, hg1⟩
            have HT := Lib.hid (HRW.out.took hrw hr1 hg1)
            have z4 := HT.out.tx.frozen 4
            have x4 := HT.out.tx.cell 4
            simp only [List.getElem?_toArray, List.getElem?_cons_zero, List.getElem?_cons_succ] at x4
            have hp := HT.out.put hws hrw 4 (.int .u32 v4)
            have HP : Hid (RW U0 w r xs 16 #[.int .i64 v0, .int .i64 v1, .int .u32 v2, .int .u32 v3, .int .u32 v4, .int .u32 0] (w4.setCell ⟨w.heap.size + 1 + 1, 4, none⟩ (.int .u32 v4))) := Lib.hid (by simpa using hp)
            clear hr1 hg1 HC HRW HT hp
            go_wp2_with fail
            generalize w4.setCell ⟨w.heap.size + 1 + 1, 4, none⟩ (.int .u32 v4) = W4 at *
            have HRW := HP
            clear HP z4 x4
            by_cases h5 : 20 ≤ xs.length
            · have hno := read_no (xs := xs) (a := 16) (k := 4) (by omega) (by omega)
              rw [if_pos h5] at hno
              have hc := number4_ok _ w.heap.size r xs 16 4 HRW.out.rd (by omega) (HRW.out.fit HF.out) HRW.out.tb hno
              rw [read_n (xs := xs) (a := 16) (k := 4) (by omega) h5] at hc
              have hv := valB_lt (l := (xs.drop 16).take 4) ((HX.out.drop 16).take 4) (by simp; omega)
              have hl : ((xs.drop 16).take 4).length = 4 := by simp; omega
              rw [hl] at hv
              obtain ⟨v5, hv5⟩ : ∃ v, valB ((xs.drop 16).take 4) = v := ⟨_, rfl⟩
              rw [hv5] at hc hv
              have q50 : 0 ≤ v5 := hv.1
              have q51 : v5 < 4294967296 := hv.2
              have HC := Lib.hid hc
              have HV5 := Lib.hid hv5
              clear hc hno hv hl hv5
              refine HC.out.mono ?_
              rintro e w5 ⟨rfl, hr1, hg1⟩
              have HT := Lib.hid (HRW.out.took hrw hr1 hg1)
              have z5 := HT.out.tx.frozen 5
              have x5 := HT.out.tx.cell 5
              simp only [List.getElem?_toArray, List.getElem?_cons_zero, List.getElem?_cons_succ] at x5
              have hp := HT.out.put hws hrw 5 (.int .u32 v5)
              have HP : Hid (RW U0 w r xs 20 #[.int .i64 v0, .int .i64 v1, .int .u32 v2, .int .u32 v3, .int .u32 v4, .int .u32 v5] (w5.setCell ⟨w.heap.size + 1 + 1, 5, none⟩ (.int .u32 v5))) := Lib.hid (by simpa using hp)
              clear hr1 hg1 HC HRW HT hp
              go_upto_region 9 with fail
              generalize w5.setCell ⟨w.heap.size + 1 + 1, 5, none⟩ (.int .u32 v5) = W5 at *
              have y0 := HP.out.tx.cell 0
              have u0 := HP.out.tr.cell 0
              have f0 := HP.out.tr.frozen 0
              have y1 := HP.out.tx.cell 1
              have u1 := HP.out.tr.cell 1
              have f1 := HP.out.tr.frozen 1
              have y2 := HP.out.tx.cell 2
              have u2 := HP.out.tr.cell 2
              have f2 := HP.out.tr.frozen 2
              have y3 := HP.out.tx.cell 3
              have u3 := HP.out.tr.cell 3
              have f3 := HP.out.tr.frozen 3
              have y4 := HP.out.tx.cell 4
              have u4 := HP.out.tr.cell 4
              have f4 := HP.out.tr.frozen 4
              have y5 := HP.out.tx.cell 5
              have u5 := HP.out.tr.cell 5
              have f5 := HP.out.tr.frozen 5
              simp only [List.getElem?_toArray, List.getElem?_cons_zero, List.getElem?_cons_succ] at y0 y1 y2 y3 y4 y5 u0 u1 u2 u3 u4 u5
              have hR : readE xs = ⟨v0, v1, v2, v3, v4, v5⟩ := by
                unfold readE
                rw [← HV0.out, ← HV1.out, ← HV2.out, ← HV3.out, ← HV4.out, ← HV5.out, List.drop_zero]
              have HR := Lib.hid hR
              clear hR z5 x5
              go_wp2_with fail
              have hg : ∀ (W : World) (q : Nat) (v : Value), w.grownBy W (some r) → w.grownBy (W.setCell ⟨w.heap.size + 1, q, none⟩ v) (some r) := fun W q v h => by
                have hg := grown_set W (w.heap.size + 1) q v
                exact ⟨hg.os.trans h.os, hg.tape.trans h.tape, hg.output.trans h.output, Nat.le_trans h.size hg.size, fun z hz hne => (hg.block z (Nat.lt_of_lt_of_le hz h.size) (by simp; omega)).trans (h.block z hz hne)⟩
              refine bodyPost_ret (v := entV ⟨v0, v1, v2, v3, v4, v5⟩) (by simp [results, Tryd.results70, go_sem, u0, u1, u2, u3, u4, u5]) rfl ⟨?_, ((((((HP.out.bl).setCell (by simp; omega) _).setCell (by simp; omega) _).setCell (by simp; omega) _).setCell (by simp; omega) _).setCell (by simp; omega) _).setCell (by simp; omega) _, hg _ 5 _ (hg _ 4 _ (hg _ 3 _ (hg _ 2 _ (hg _ 1 _ (hg _ 0 _ (HP.out.gr))))))⟩
              rw [HR.out]
            · have hno := read_no (xs := xs) (a := 16) (k := 4) (by omega) (by omega)
              rw [if_neg h5] at hno
              have hc := number4_no _ w.heap.size r xs 16 4 HRW.out.rd (by omega) (HRW.out.fit HF.out) HRW.out.tb hno
              have HC := Lib.hid hc
              clear hc hno
              refine HC.out.mono ?_
              rintro e w5 ⟨rfl, hg1⟩
              have HG := Lib.hid (grown_trans HRW.out.gr hg1)
              have HL := Lib.hid (HRW.out.bl.grown hg1 HRW.out.bl.size (fun k hk => by cases hk; exact HRW.out.rd.ge))
              clear hg1 HC HRW
              go_wp2_with fail
              exact ⟨rfl, rfl, HL.out, HG.out⟩
          · have hno := read_no (xs := xs) (a := 12) (k := 4) (by omega) (by omega)
            rw [if_neg h4] at hno
            have hc := number4_no _ w.heap.size r xs 12 4 HRW.out.rd (by omega) (HRW.out.fit HF.out) HRW.out.tb hno
            have HC := Lib.hid hc
            clear hc hno
            refine HC.out.mono ?_
            rintro e w4 ⟨rfl, hg1⟩
            have HG := Lib.hid (grown_trans HRW.out.gr hg1)
            have HL := Lib.hid (HRW.out.bl.grown hg1 HRW.out.bl.size (fun k hk => by cases hk; exact HRW.out.rd.ge))
            clear hg1 HC HRW
            go_wp2_with fail
            exact ⟨rfl, rfl, HL.out, HG.out⟩
        · have hno := read_no (xs := xs) (a := 8) (k := 4) (by omega) (by omega)
          rw [if_neg h3] at hno
          have hc := number4_no _ w.heap.size r xs 8 4 HRW.out.rd (by omega) (HRW.out.fit HF.out) HRW.out.tb hno
          have HC := Lib.hid hc
          clear hc hno
          refine HC.out.mono ?_
          rintro e w3 ⟨rfl, hg1⟩
          have HG := Lib.hid (grown_trans HRW.out.gr hg1)
          have HL := Lib.hid (HRW.out.bl.grown hg1 HRW.out.bl.size (fun k hk => by cases hk; exact HRW.out.rd.ge))
          clear hg1 HC HRW
          go_wp2_with fail
          exact ⟨rfl, rfl, HL.out, HG.out⟩
      · have hno := read_no (xs := xs) (a := 4) (k := 4) (by omega) (by omega)
        rw [if_neg h2] at hno
        have hc := number4_no _ w.heap.size r xs 4 4 HRW.out.rd (by omega) (HRW.out.fit HF.out) HRW.out.tb hno
        have HC := Lib.hid hc
        clear hc hno
        refine HC.out.mono ?_
        rintro e w2 ⟨rfl, hg1⟩
        have HG := Lib.hid (grown_trans HRW.out.gr hg1)
        have HL := Lib.hid (HRW.out.bl.grown hg1 HRW.out.bl.size (fun k hk => by cases hk; exact HRW.out.rd.ge))
        clear hg1 HC HRW
        go_wp2_with fail
        exact ⟨rfl, rfl, HL.out, HG.out⟩
    · have hno := read_no (xs := xs) (a := 2) (k := 2) (by omega) (by omega)
      rw [if_neg h1] at hno
      have hc := number4_no _ w.heap.size r xs 2 2 HRW.out.rd (by omega) (HRW.out.fit HF.out) HRW.out.tb hno
      have HC := Lib.hid hc
      clear hc hno
      refine HC.out.mono ?_
      rintro e w1 ⟨rfl, hg1⟩
      have HG := Lib.hid (grown_trans HRW.out.gr hg1)
      have HL := Lib.hid (HRW.out.bl.grown hg1 HRW.out.bl.size (fun k hk => by cases hk; exact HRW.out.rd.ge))
      clear hg1 HC HRW
      go_wp2_with fail
      exact ⟨rfl, rfl, HL.out, HG.out⟩
  · have hno := read_no (xs := xs) (a := 0) (k := 2) (by omega) (by omega)
    rw [if_neg h0] at hno
    have hc := number4_no _ w.heap.size r xs 0 2 HRW.out.rd (by omega) (HRW.out.fit HF.out) HRW.out.tb hno
    have HC := Lib.hid hc
    clear hc hno
    refine HC.out.mono ?_
    rintro e w0 ⟨rfl, hg1⟩
    have HG := Lib.hid (grown_trans HRW.out.gr hg1)
    have HL := Lib.hid (HRW.out.bl.grown hg1 HRW.out.bl.size (fun k hk => by cases hk; exact HRW.out.rd.ge))
    clear hg1 HC HRW
    go_wp2_with fail
    exact ⟨rfl, rfl, HL.out, HG.out⟩
end Go.Proofs.YtehhablobfaplaaDoor

namespace Go.Proofs.YtehhablobfaplaaDoor
open Go Go.RowKit
attribute [local go_sem] Oper.semAt_some

theorem asErrno (n : Int) (w : World) : (Instr.typeAssert (.iface 28 (.int .i64 n)) 20 28 true).run Tryd.prog w = .ok (.tuple #[.int .i64 n, .bool true]) w := by kernel_rfl
theorem asErrnoNil (w : World) : (Instr.typeAssert .nilIface 20 28 true).run Tryd.prog w = .ok (.tuple #[.int .i64 0, .bool false]) w := by kernel_rfl
set_option maxHeartbeats 400000 in
theorem caught_any (n : Int) (w : World) :
    Calls Tryd.prog 68 #[.iface 28 (.int .i64 n)] w fun e w' => e = .returned (.int .i64 n) ∧ w = w' := by
  have hA := asErrno n
  go_enter Tryd.func68, Tryd.ntmps68
  go_wp2
  go_ret
  exact ⟨rfl, rfl⟩
set_option maxHeartbeats 400000 in
theorem caught_nil (w : World) :
    Calls Tryd.prog 68 #[.nilIface] w fun e w' => e = .returned (.int .i64 0) ∧ w = w' := by
  have hA := asErrnoNil
  go_enter Tryd.func68, Tryd.ntmps68
  go_wp2
  go_ret
  exact ⟨rfl, rfl⟩

set_option maxRecDepth 100000 in
set_option maxHeartbeats 400000 in
theorem readIdle (B : Nat) (y : Int) (w : World) (hc : w.cell? ⟨B, 0, none⟩ = some (.int .i64 y)) (hz : w.frozen? ⟨B, 0, none⟩ = false) :
    CallsD Tryd.prog 67 #[.pointer (some ⟨B, 0, none⟩)] .returning w fun e u' w' => e = .returned (.tuple #[]) ∧ u' = .returning ∧ w' = w.setCell ⟨B, 0, none⟩ (.int .i64 0) := by
  refine callsD_of_wpS Tryd.func67 rfl fun c₀ cs hu => ?_
  apply wpS_region
  simp [wpOpsS, go_sem, recoverD, hu, Tryd.ntmps67]
  refine (caught_nil _).mono ?_
  rintro e w1 ⟨rfl, rfl⟩
  cases c₀
  simp_all [bodyPostS, results, Tryd.results67, go_sem]
set_option maxRecDepth 100000 in
set_option maxHeartbeats 400000 in
theorem readPanics (B : Nat) (y n : Int) (w : World) (hc : w.cell? ⟨B, 0, none⟩ = some (.int .i64 y)) (hz : w.frozen? ⟨B, 0, none⟩ = false) :
    CallsD Tryd.prog 67 #[.pointer (some ⟨B, 0, none⟩)] (.panicking [{ v := .iface 28 (.int .i64 n), recovered := false }]) w fun e u' w' => e = .returned (.tuple #[]) ∧ u' = .panicking [{ v := .iface 28 (.int .i64 n), recovered := true }] ∧ w' = w.setCell ⟨B, 0, none⟩ (.int .i64 n) := by
  refine callsD_of_wpS Tryd.func67 rfl fun c₀ cs hu => ?_
  apply wpS_region
  simp [wpOpsS, go_sem, recoverD, hu, Tryd.ntmps67]
  refine (caught_any n _).mono ?_
  rintro e w1 ⟨rfl, rfl⟩
  cases c₀
  simp_all [bodyPostS, results, Tryd.results67, go_sem]

/-- What Read tells. -/
def rdV (xs : List Int) : Ent := if 20 ≤ xs.length then readE xs else ⟨0, 0, 0, 0, 0, 0⟩
def rdNo (xs : List Int) : Int := if 20 ≤ xs.length then 0 else 130
theorem readE_take (xs : List Int) : readE (xs.take 20) = readE xs := by
  unfold readE
  simp only [List.take_take, List.drop_take]
  rfl

set_option maxRecDepth 100000 in
set_option maxHeartbeats 3200000 in
theorem read4_any (p : Option Addr) (c : Nat) (xs : List Int) (hb : IsBytes xs) (hn : xs.length ≤ 1000000) (hc : xs.length ≤ c) (w : World) (hx : ByS w p xs) (hf : Fit3 w) :
    Calls Tryd.prog 55 #[.slice p xs.length c] w fun e w' => e = .returned (.tuple #[entV (rdV xs), .int .i64 (rdNo xs)]) ∧ Below w.heap.size w w' := by
  have hmf : ∀ (fn : Fn) (first cap : Array Value) (w : World), (Instr.makeFunc fn first cap).run Tryd.prog w = .ok (.func fn first cap) w := fun _ _ _ _ => rfl
  have hmin : min (20 : Int) xs.length = ((xs.take 20).length : Int) := by rw [List.length_take]; omega
  have hl0 : (0 : Int) ≤ ((xs.take 20).length : Int) := by omega
  have hl1 : ((xs.take 20).length : Int) ≤ (c : Int) := by rw [List.length_take]; omega
  have HL := Lib.hid (show (20 ≤ (xs.take 20).length ↔ 20 ≤ xs.length) by rw [List.length_take]; omega)
  have hxt : ByS w p (xs.take 20) := fun h0 => by
    obtain ⟨b, o, e, hl, hcc⟩ := hx (by rw [List.length_take] at h0; omega)
    refine ⟨b, o, e, hl, fun i hi => ?_⟩
    have hi' : i < xs.length := by rw [List.length_take] at hi; omega
    rw [hcc i hi']
    simp
  have HX := Lib.hid hxt
  have HBT := Lib.hid (hb.take 20)
  have HNT := Lib.hid (show (xs.take 20).length ≤ 1000000 by rw [List.length_take]; omega)
  have HF := Lib.hid hf
  have e1 : rdV xs = (if 20 ≤ (xs.take 20).length then readE (xs.take 20) else ⟨0, 0, 0, 0, 0, 0⟩) := by
    unfold rdV
    rw [readE_take]
    by_cases h : 20 ≤ xs.length
    · rw [if_pos h, if_pos (HL.out.2 h)]
    · rw [if_neg h, if_neg (fun h2 => h (HL.out.1 h2))]
  have e2 : rdNo xs = (if 20 ≤ (xs.take 20).length then 0 else 130) := by
    unfold rdNo
    by_cases h : 20 ≤ xs.length
    · rw [if_pos h, if_pos (HL.out.2 h)]
    · rw [if_neg h, if_neg (fun h2 => h (HL.out.1 h2))]
  rw [e1, e2]
  have hl20 : (xs.take 20).length ≤ 20 := by rw [List.length_take]; omega
  clear hx hxt hb hf e1 e2 HL
  generalize xs.take 20 = ys at *
  have HU := Lib.hid (HF.out.below (two_below w (.cells #[.int .i64 0, .int .i64 0, .int .u32 0, .int .u32 0, .int .u32 0, .int .u32 0] 55) (.cells #[.int .i64 0] 28)))
  have hz2 : ((w.alloc (.cells #[.int .i64 0, .int .i64 0, .int .u32 0, .int .u32 0, .int .u32 0, .int .u32 0] 55)).alloc (.cells #[.int .i64 0] 28)).heap.size = w.heap.size + 1 + 1 := by simp
  have HZ2 := Lib.hid hz2
  clear hz2
  by_cases hys : 20 ≤ ys.length
  · rw [if_pos hys, if_pos hys]
    obtain ⟨o, ho⟩ : ∃ o, readE ys = o := ⟨_, rfl⟩
    rw [ho]
    obtain ⟨f, t, a, m, n, k⟩ := o
    have HO := Lib.hid ho
    clear ho
    go_enter_defers Tryd.func55, Tryd.ntmps55
    go_wp2_with fail
    refine (new3_any p c ys _ HBT.out HNT.out (HX.out.below (two_below w _ _))).mono ?_
    rintro e w2 ⟨r, rfl, hr, hge, hb2⟩
    have hx2 := entry4_any _ (w2.alloc (.cells #[.pointer (some ⟨r, 0, none⟩)] 105)) HU.out (hb2.alloc hb2.size _) r ys (hr.keep ((Below.refl w2.heap.size w2).alloc (Nat.le_refl _) _))
    rw [if_pos hys, HO.out] at hx2
    have HE := Lib.hid hx2
    clear hr hge hb2 hx2
    go_wp2_with fail
    refine HE.out.mono ?_
    rintro e w3 ⟨rfl, hb3, -⟩
    obtain ⟨b1, b2, hbl⟩ := blks2 w _ _ _ _ hb3
    have d0 := b1.cell 0
    have x0 := b1.frozen 0
    have d1 := b1.cell 1
    have x1 := b1.frozen 1
    have d2 := b1.cell 2
    have x2 := b1.frozen 2
    have d3 := b1.cell 3
    have x3 := b1.frozen 3
    have d4 := b1.cell 4
    have x4 := b1.frozen 4
    have d5 := b1.cell 5
    have x5 := b1.frozen 5
    have e0 := b2.cell 0
    have y0 := b2.frozen 0
    have hS := ((((((b1.set_ 0 (.int .i64 f)).set_ 1 (.int .i64 t)).set_ 2 (.int .u32 a)).set_ 3 (.int .u32 m)).set_ 4 (.int .u32 n)).set_ 5 (.int .u32 k))
    have hE := ((((((b2.far (p := ⟨w.heap.size, 0, none⟩) (by simp) (.int .i64 f)).far (p := ⟨w.heap.size, 1, none⟩) (by simp) (.int .i64 t)).far (p := ⟨w.heap.size, 2, none⟩) (by simp) (.int .u32 a)).far (p := ⟨w.heap.size, 3, none⟩) (by simp) (.int .u32 m)).far (p := ⟨w.heap.size, 4, none⟩) (by simp) (.int .u32 n)).far (p := ⟨w.heap.size, 5, none⟩) (by simp) (.int .u32 k))
    have hB := ((((((hbl.setCell (p := ⟨w.heap.size, 0, none⟩) (Nat.le_refl _) (.int .i64 f)).setCell (p := ⟨w.heap.size, 1, none⟩) (Nat.le_refl _) (.int .i64 t)).setCell (p := ⟨w.heap.size, 2, none⟩) (Nat.le_refl _) (.int .u32 a)).setCell (p := ⟨w.heap.size, 3, none⟩) (Nat.le_refl _) (.int .u32 m)).setCell (p := ⟨w.heap.size, 4, none⟩) (Nat.le_refl _) (.int .u32 n)).setCell (p := ⟨w.heap.size, 5, none⟩) (Nat.le_refl _) (.int .u32 k))
    simp only [List.getElem?_toArray, List.getElem?_cons_zero, List.getElem?_cons_succ] at d0 d1 d2 d3 d4 d5 e0
    have HS := Lib.hid hS
    have HEE := Lib.hid hE
    have HB := Lib.hid hB
    clear b1 b2 hbl hb3 HE hS hE hB
    go_wp2_with fail
    have HW5 := HEE.out.set_ 0 (.int .i64 0)
    have HS5 := HS.out.far (p := ⟨w.heap.size + 1, 0, none⟩) (by simp) (.int .i64 0)
    have c5 := HW5.cell 0
    have z5 := HW5.frozen 0
    have hbb := (HB.out.setCell (p := ⟨w.heap.size + 1, 0, none⟩) (by simp) (.int .i64 0)).setCell (p := ⟨w.heap.size + 1, 0, none⟩) (by simp) (.int .i64 0)
    have HSF := HS5.far (p := ⟨w.heap.size + 1, 0, none⟩) (by simp) (.int .i64 0)
    have HEF := HW5.set_ 0 (.int .i64 0)
    have s0 := HSF.cell 0
    have s1 := HSF.cell 1
    have s2 := HSF.cell 2
    have s3 := HSF.cell 3
    have s4 := HSF.cell 4
    have s5 := HSF.cell 5
    have q0 := HEF.cell 0
    simp at c5 s0 s1 s2 s3 s4 s5 q0
    refine leaves_cons (f := 67) (args := #[.pointer (some ⟨w.heap.size + 1, 0, none⟩)]) (by simp) (by simp [go_sem]) ?_
    refine (readIdle (w.heap.size + 1) 0 _ c5 z5).mono ?_
    rintro e u' w'' ⟨rfl, rfl, rfl⟩
    simp [Leaves, settle, results, Tryd.results55, go_sem, s0, s1, s2, s3, s4, s5, q0, hbb]
  · rw [if_neg hys, if_neg hys]
    go_enter_defers Tryd.func55, Tryd.ntmps55
    go_wp2_with fail
    refine (new3_any p c ys _ HBT.out HNT.out (HX.out.below (two_below w _ _))).mono ?_
    rintro e w2 ⟨r, rfl, hr, hge, hb2⟩
    have hx2 := entry4_any _ (w2.alloc (.cells #[.pointer (some ⟨r, 0, none⟩)] 105)) HU.out (hb2.alloc hb2.size _) r ys (hr.keep ((Below.refl w2.heap.size w2).alloc (Nat.le_refl _) _))
    rw [if_neg hys] at hx2
    have HE := Lib.hid hx2
    clear hr hge hb2 hx2
    go_wp2_with fail
    refine HE.out.mono ?_
    rintro e w3 ⟨rfl, hb3, -⟩
    obtain ⟨b1, b2, hbl⟩ := blks2 w _ _ _ _ hb3
    have e0 := b2.cell 0
    have y0 := b2.frozen 0
    have hbb := hbl.setCell (p := ⟨w.heap.size + 1, 0, none⟩) (by simp) (.int .i64 130)
    have HSF := b1.far (p := ⟨w.heap.size + 1, 0, none⟩) (by simp) (.int .i64 130)
    have HEF := b2.set_ 0 (.int .i64 130)
    have s0 := HSF.cell 0
    have s1 := HSF.cell 1
    have s2 := HSF.cell 2
    have s3 := HSF.cell 3
    have s4 := HSF.cell 4
    have s5 := HSF.cell 5
    have q0 := HEF.cell 0
    simp at e0 s0 s1 s2 s3 s4 s5 q0
    clear b1 b2 hbl hb3 HE
    go_wp2_with fail
    refine leaves_cons (f := 67) (args := #[.pointer (some ⟨w.heap.size + 1, 0, none⟩)]) (by simp) (by simp [go_sem]) ?_
    refine (readPanics (w.heap.size + 1) 0 130 _ e0 y0).mono ?_
    rintro e u' w'' ⟨rfl, rfl, rfl⟩
    simp [Leaves, settle, results, Tryd.results55, go_sem, s0, s1, s2, s3, s4, s5, q0, hbb]
end Go.Proofs.YtehhablobfaplaaDoor
