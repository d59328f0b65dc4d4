/- The walk of OctetReads, over what Put, Read and works promise. -/
import Derived.Test.YthpmfeijnphdbaaDoorO7
import Derived.Lib.QuietBelow
import Derived.RegionTactic
import Derived.Deep.RegionHeld3
namespace Go.Proofs.YthpmfeijnphdbaaDoor
open Go Go.RowKit Go.Sort
attribute [local go_sem] Oper.semAt_some
attribute [local irreducible] wpQuiet

theorem ByS.left {w : World} {p : Option Addr} {xs ys : List Int} (h : ByS w p (xs ++ ys)) : ByS w p xs := fun hn => by
  obtain ⟨b, o, e, hlt, hc⟩ := h (by simp; omega)
  refine ⟨b, o, e, hlt, fun i hi => ?_⟩
  rw [hc i (by simp; omega), List.getElem_append_left hi]
theorem ByS.window {w : World} {b o : Nat} {xs : List Int} (h : ByS w (some ⟨b, o, none⟩) xs) (q m : Nat) (hq : q + m ≤ xs.length) : ByS w (some ⟨b, o + q, none⟩) ((xs.drop q).take m) := fun hn => by
  have hl : ((xs.drop q).take m).length = m := by simp; omega
  obtain ⟨b', o', e, hlt, hc⟩ := h (by omega)
  cases e
  refine ⟨b, o + q, rfl, hlt, fun i hi => ?_⟩
  rw [Nat.add_assoc, hc (q + i) (by omega)]
  simp

/-- What is read, put again. -/
theorem read_put {xs : List Int} {at_ k : Int} (hb : IsBytes xs) (hz : readNo xs at_ k = 0) : ∃ q m : Nat, at_ = q ∧ k = m ∧ (m = 1 ∨ m = 2 ∨ m = 4) ∧ q + m ≤ xs.length ∧ 0 ≤ readN xs at_ k ∧ readN xs at_ k < 4294967296 ∧ putNo (readN xs at_ k) k = 0 ∧ putL (readN xs at_ k) k = (xs.drop q).take m := by
  have hk : W3 k := Classical.byContradiction fun hw => by unfold readNo at hz; rw [if_pos hw] at hz; cases hz
  have h2 := hz
  unfold readNo at h2
  rw [if_neg (by simpa using hk)] at h2
  by_cases ha : at_ < 0
  · rw [if_pos ha] at h2; cases h2
  · rw [if_neg ha] at h2
    by_cases hc : at_ > xs.length ∨ (xs.length : Int) - at_ < k
    · rw [if_pos hc] at h2; cases h2
    · obtain ⟨m, rfl, hm⟩ := hk.nat
      obtain ⟨q, rfl⟩ : ∃ q : Nat, at_ = q := ⟨at_.toNat, by omega⟩
      have hq : q + m ≤ xs.length := by omega
      have hv : readN xs q m = valB ((xs.drop q).take m) := by unfold readN; rw [if_pos hz]; simp
      have hl : ((xs.drop q).take m).length = m := by simp; omega
      obtain ⟨v1, v2, v3⟩ := be_val hm hl ((hb.drop q).take m)
      have hle : (256 : Int) ^ m ≤ 4294967296 := by rcases hm with rfl | rfl | rfl <;> decide
      have hno : putNo (readN xs q m) m = 0 := by
        unfold putNo
        rw [if_neg (by simpa using hk), Int.toNat_natCast, hv, if_neg]
        rw [Int.ediv_eq_zero_of_lt v2 v3]
        decide
      refine ⟨q, m, rfl, rfl, hm, hq, by rw [hv]; exact v2, by rw [hv]; omega, hno, ?_⟩
      unfold putL
      rw [if_pos hno, Int.toNat_natCast, hv, v1]

set_option maxRecDepth 100000 in
set_option maxHeartbeats 3200000 in
theorem law03_reads (HP : PutC 9) (HR : ReadC 12) (HY : YesC 8) (at_ k : Int)
    (p1 : Option Addr) (c1 : Nat) (xs : List Int) (b1 : IsBytes xs) (hcap : xs.length ≤ c1) (hat : at_ < 9223372036854775808) (w : World) (x1 : ByS w p1 xs) (hf : Fit3 w) :
    Calls Tryd.prog 4 #[.slice p1 xs.length c1, .int .i64 at_, .int .i64 k] w fun e w' => e = .returned (.bool true) ∧ Below w.heap.size w w' := by
  have HP := Lib.hid HP
  have HR := Lib.hid HR
  have HY := Lib.hid HY
  have B1 := Lib.hid b1
  have X1 := Lib.hid x1
  have HF := Lib.hid hf
  clear b1 x1 hf
  by_cases hbig : 100 < xs.length
  · go_enter Tryd.func4, Tryd.ntmps4
    go_wp2_with fail
    refine (HY.out _ HF.out).mono ?_
    rintro e w' ⟨rfl, hb⟩
    have HB := Lib.hid hb
    clear hb
    go_wp2_with fail
    go_ret
    exact ⟨rfl, HB.out⟩
  · have HE : OwnB w.heap.size (w.alloc (.cells #[] 5)) (.slice (some ⟨w.heap.size, 0, none⟩) 0 0) [] := World.ownsRow_made w #[] 0 (Nat.le_refl _) (Nat.zero_le _) (by simp)
    have HW0 : Below w.heap.size w (w.alloc (.cells #[] 5)) := (Below.refl _ _).alloc (Nat.le_refl _) _
    have K1 : ([] : List Int).length + xs.length ≤ 1000000 := by simp; omega
    have K2 : xs.length + [(77 : Int)].length ≤ 1000000 := by simp; omega
    have HY1 := Lib.hid (X1.out.below HW0)
    have HHE := Lib.hid HE
    have HHW := Lib.hid HW0
    clear HE HW0
    go_enter Tryd.func4, Tryd.ntmps4
    go_wp2_with (first | (at_builtin; refine wpList_app_bytes (v := .slice (some ⟨w.heap.size, 0, none⟩) 0 0) (xs := []) (p := p1) (ys := xs) (c := c1) rfl _ _ rfl w.heap.size rfl HHE.out rfl HY1.out K1 (by simp) ?_))
    intro v3 w3 o3 g3 _
    have hb3 := own_below (by simp) HHW.out HHE.out g3
    have ho4 : OwnB w.heap.size (w3.alloc (.cells #[.int .u8 77] 5)) v3 xs := o3.alloc _
    have hy4 : ByS (w3.alloc (.cells #[.int .u8 77] 5)) (some ⟨w3.heap.size, 0, none⟩) [77] := ByS.ofBlk (t := 5) (r := []) (Blk.new w3 5 #[.int .u8 77])
    have hb4 : Below w.heap.size w (w3.alloc (.cells #[.int .u8 77] 5)) := hb3.alloc hb3.size _
    have HO4 := Lib.hid ho4
    have HY4 := Lib.hid hy4
    have HB4 := Lib.hid hb4
    have l4 := hb4.size
    clear ho4 hy4 hb4 hb3 o3 g3 HHE HHW HY1
    go_wp2_with (first | (at_builtin; refine wpList_app_bytes (v := v3) (xs := xs) (p := some ⟨w3.heap.size, 0, none⟩) (ys := [77]) (c := 1) rfl _ _ rfl w.heap.size rfl HO4.out rfl HY4.out K2 l4 ?_))
    intro v5 w5 o5 g5 _
    have hb5 := own_below l4 HB4.out HO4.out g5
    obtain ⟨p5, c5, rfl, m5, y5, _⟩ := o5.byS
    obtain ⟨g, o, rfl, _, _⟩ := y5 (by simp)
    have HY5 := Lib.hid y5.left
    have HB5 := Lib.hid hb5
    have m5' : xs.length + 1 ≤ c5 := by simpa using m5
    clear hb5 y5 m5 g5 o5 HO4 HY4 HB4 l4 K1 K2
    go_wp2_with fail
    refine (HR.out _ c5 xs at_ k w5 B1.out (by omega) (by omega) HY5.out hat (HF.out.below HB5.out)).mono ?_
    rintro e w6 ⟨rfl, hb6⟩
    have HB6 := Lib.hid (HB5.out.trans (hb6.mono HB5.out.size))
    have HY6 := Lib.hid (HY5.out.below hb6)
    clear hb6 HY5 HB5
    go_wp2_with fail
    refine (refRead_c p1 c1 xs at_ k _ B1.out (by omega) hcap (X1.out.below HB6.out) hat (HF.out.below HB6.out)).mono ?_
    rintro e w7 ⟨rfl, hb7⟩
    have HB7 := Lib.hid (HB6.out.trans (hb7.mono HB6.out.size))
    have e1 := conv_bytes (HY6.out.below hb7) c5
    have e2 := conv_bytes (X1.out.below HB7.out) c1
    have hnm := fun W => num3_any (readNo xs at_ k) W
    have hrp := fun hz => read_put (at_ := at_) (k := k) B1.out hz
    clear hb7 HY6 HB6
    generalize readNo xs at_ k = no at *
    generalize readN xs at_ k = n at *
    generalize strOfNums xs = st at e1 e2
    by_cases hz : no = 0
    · subst hz
      obtain ⟨q, m, rfl, rfl, hm, hq, n0, n1, hno, hL⟩ := hrp rfl
      have HM := Lib.hid hm
      clear hrp
      go_wp2_with (first | (refine (hnm _).mono ?_; rintro e w' ⟨rfl, rfl⟩))
      clear e1 e2
      refine (HP.out n m w7 n0 n1 (HF.out.below HB7.out)).mono ?_
      rw [hno, hL]
      rintro e w8 ⟨p8, c8, rfl, m8, y8, hb8⟩
      have hb9 := HB7.out.trans (hb8.mono HB7.out.size)
      have hlen : ((xs.drop q).take m).length = m := by simp; omega
      have hx9 := X1.out.below hb9
      obtain ⟨b, o', hp1, hbl, _⟩ := hx9 (by omega)
      subst hp1
      have hwin := hx9.window q m hq
      generalize (xs.drop q).take m = M at *
      subst hlen
      have e3 : ∀ d os, Sem.run Tryd.prog (convert 23 9 (.slice p8 M.length c8)) (grow (redrawn w8 d) os) = .ok (.string (strOfNums M)) (grow (redrawn w8 d) os) := fun d os => conv_bytes (y8.below (below_regrown w8 d os)) c8
      have e4 : ∀ d os, Sem.run Tryd.prog (convert 23 9 (.slice (some ⟨b, o' + q, none⟩) M.length (c1 - q))) (grow (redrawn w8 d) os) = .ok (.string (strOfNums M)) (grow (redrawn w8 d) os) := fun d os => conv_bytes (hwin.below (below_regrown w8 d os)) (c1 - q)
      have hw : IntKind.i64.wrap ((q : Int) + (M.length : Int)) = ((q + M.length : Nat) : Int) := by rw [IntKind.wrap_i64]; omega
      have cN : ∀ d os, Calls Tryd.prog 11 #[.int .i64 0] (grow (redrawn w8 d) os) fun e w'' => e = .returned (.int .i64 0) ∧ ∃ p : Regrown, w'' = grow (redrawn w8 p.d) p.os := fun d os => Calls.regrown_of ((num3_any 0 _).mono fun _ _ ⟨h1, h2⟩ => ⟨h1, by subst h2; exact Below.refl _ _⟩)
      have cY : ∀ d os, Calls Tryd.prog 8 #[] (grow (redrawn w8 d) os) fun e w'' => e = .returned (.bool true) ∧ ∃ p : Regrown, w'' = grow (redrawn w8 p.d) p.os := fun d os => Calls.regrown_of (HY.out _ ((HF.out.below hb9).below (below_regrown w8 d os)))
      generalize strOfNums M = sm at *
      have HB9 := Lib.hid hb9
      have t1 : (0 : Int) ≤ (q : Int) + (M.length : Int) := by omega
      have t2 : (q : Int) + (M.length : Int) ≤ (c1 : Int) := by omega
      have t3 : ((q : Int) + (M.length : Int)).toNat = q + M.length := by omega
      have t4 : ¬ c1 = q := by omega
      clear hwin hx9 y8 m8 hb8 hb9 hno hL hnm m5' hbig HP HR X1 HB7 hbl
      go_wp2_with fail
      refine wp_region_quiet_below (by kernel_rfl) (by kernel_rfl) ?_
      repeat (quiet_step (first | (with_reducible exact cN _ _) | (with_reducible exact cY _ _)))
      refine wpQuiet_nil ?_
      intro wq hwq
      obtain ⟨⟨dq, osq⟩, rfl⟩ := hwq
      have hb := below_regrown w8 dq osq
      have HW9 := Lib.hid (HB9.out.trans (hb.mono HB9.out.size))
      generalize grow (redrawn w8 dq) osq = w9 at *
      clear hb e3 e4 cN cY
      go_wp2_with fail
      go_ret
      exact ⟨rfl, HW9.out⟩
    · go_wp2_with (first | (refine (hnm _).mono ?_; rintro e w' ⟨rfl, rfl⟩))
      refine (HY.out _ (HF.out.below HB7.out)).mono ?_
      rintro e w8 ⟨rfl, hb⟩
      have HB := Lib.hid (HB7.out.trans (hb.mono HB7.out.size))
      clear hb
      go_wp2_with fail
      go_ret
      exact ⟨rfl, HB.out⟩
end Go.Proofs.YthpmfeijnphdbaaDoor
