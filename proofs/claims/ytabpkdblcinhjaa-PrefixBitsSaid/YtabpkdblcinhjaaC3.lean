/- Contracts of the reference of layer 2: Has, Mask, Of, Len. -/
import Derived.Test.YtabpkdblcinhjaaC2
namespace Go.Proofs.Ytabpkdblcinhjaa
open Go Go.RowKit
attribute [local go_sem] Oper.semAt_some

set_option maxRecDepth 100000 in
set_option maxHeartbeats 800000 in
theorem refHas_any (x n a : Int) (x0 : 0 ≤ x) (x1 : x < 4294967296) (a0 : 0 ≤ a) (a1 : a < 4294967296) (w : World) :
    Calls Try.prog 15 #[.agg #[.int .u32 x, .int .i64 n], .int .u32 a] w fun e w' => e = .returned (.bool (decide (hasP x n a))) ∧ Below w.heap.size w w' := by
  have hbw : Below w.heap.size w (w.alloc (.cells #[.int .u32 x, .int .i64 n] 25)) := (Below.refl _ _).alloc (Nat.le_refl _) _
  have HBW := Lib.hid hbw
  clear hbw
  by_cases hr : right x n
  · have hb : decide (right x n) = true := decide_eq_true hr
    have HB := Lib.hid hb
    obtain ⟨j, rfl⟩ : ∃ j : Nat, n = j := ⟨n.toNat, by have := hr.1; omega⟩
    have hj : j ≤ 32 := by have := hr.2.1; omega
    have hts := top_same x a x0 x1 a0 a1 j hj
    have HT := Lib.hid hts
    have HR := Lib.hid hr
    clear hb hts hr
    go_enter Try.func15, Try.ntmps15
    go_wp2_with fail
    refine (refRight_any x j x0 x1 _).mono ?_
    rintro e w1 ⟨rfl, hb1⟩
    rw [HB.out]
    have hbl : Blk w1 w.heap.size 25 #[.int .u32 x, .int .i64 j] := (Blk.new w _ _).below hb1 (by simp)
    have hb2 : Below w.heap.size w w1 := HBW.out.trans (hb1.mono (by simp))
    have c0 := hbl.cell 0
    have c1 := hbl.cell 1
    simp only [List.getElem?_toArray, List.getElem?_cons_zero, List.getElem?_cons_succ] at c0 c1
    have HB2 := Lib.hid hb2
    clear hb1 hbl hb2
    go_wp2_with fail
    go_loopw [5] (fun i wr => ∃ q : Nat, q ≤ j ∧ i = .int .i64 q ∧ Hid (∀ i, i < q → bitN x i = bitN a i) ∧ wr = w1) (fun i _ => j - (intOf i).toNat)
    case atStart => exact ⟨0, by omega, rfl, Lib.hid (fun i _ => by omega), rfl⟩
    case round =>
      obtain ⟨q, hq, rfl, HZ, rfl⟩ := hrel
      by_cases hlt : q < j
      · go_wp2_with fail
        refine (refBit_any x q x0 x1 _).mono ?_
        rintro e w2 ⟨rfl, rfl⟩
        rw [bitOf_at x q (by omega)]
        go_wp2_with fail
        refine (refBit_any a q a0 a1 _).mono ?_
        rintro e w2 ⟨rfl, rfl⟩
        rw [bitOf_at a q (by omega)]
        by_cases hz : bitN x q = bitN a q
        · have HZ2 : Hid (∀ i, i < q + 1 → bitN x i = bitN a i) := Lib.hid (fun i hi => by
            rcases Nat.lt_or_ge i q with h | h
            · exact HZ.out i h
            · obtain rfl : i = q := by omega
              exact hz)
          go_wp2_with fail
          go_roundw
          case rel => exact ⟨q + 1, by omega, by go_num, HZ2, trivial⟩
          case measure => simp [intOf]; omega
        · have hb : decide (hasP x j a) = false := decide_eq_false (fun h => hz (HT.out.1 (by simpa using h.2) q hlt))
          have HF := Lib.hid hb
          clear hb
          go_wp2_with fail
          go_ret
          exact ⟨by rw [HF.out]; rfl, HB2.out⟩
      · obtain rfl : q = j := by omega
        have hb : decide (hasP x q a) = true := decide_eq_true ⟨HR.out, by simpa using HT.out.2 HZ.out⟩
        have HF := Lib.hid hb
        clear hb
        go_wp2_with fail
        go_ret
        exact ⟨by rw [HF.out]; rfl, HB2.out⟩
  · have hb : decide (right x n) = false := decide_eq_false hr
    have hb3 : decide (hasP x n a) = false := decide_eq_false (fun h => hr h.1)
    have HB := Lib.hid hb
    have HB3 := Lib.hid hb3
    clear hb hb3 hr
    go_enter Try.func15, Try.ntmps15
    go_wp2_with fail
    refine (refRight_any x n x0 x1 _).mono ?_
    rintro e w1 ⟨rfl, hb1⟩
    rw [HB.out]
    have hb2 : Below w.heap.size w w1 := HBW.out.trans (hb1.mono (by simp))
    have HB2 := Lib.hid hb2
    clear hb1 hb2
    go_wp2_with fail
    go_ret
    exact ⟨by rw [HB3.out]; rfl, HB2.out⟩

set_option maxRecDepth 100000 in
set_option maxHeartbeats 800000 in
theorem refMask_any (L : Nat) (hL : L ≤ 32) (w : World) :
    Calls Try.prog 20 #[.int .i64 L] w fun e w' => e = .returned (.int .u32 (maskOf L)) ∧ w = w' := by
  go_enter Try.func20, Try.ntmps20
  go_wp2_with fail
  go_loopw [3, 4] (fun n i wr => ∃ q : Nat, q ≤ 32 ∧ i = .int .i64 q ∧ n = .int .u32 (top (maskOf L) q) ∧ wr = w) (fun _ i _ => 32 - (intOf i).toNat)
  case atStart => exact ⟨0, by omega, rfl, by rw [top_zero _ (maskOf_range L).1 (maskOf_range L).2], rfl⟩
  case round =>
    obtain ⟨q, hq, rfl, rfl, rfl⟩ := hrel
    by_cases hlt : q < 32
    · have hnext := top_next (maskOf L) q hlt
      rw [bit_mask L q hL hlt] at hnext
      have t0 := top_nonneg (maskOf L) q (maskOf_range L).1
      have t1 := top_lt (maskOf L) (q + 1) (maskOf_range L).2 (by omega)
      have y1 : top (maskOf L) q < 2147483648 := by split at hnext <;> omega
      have HN := Lib.hid hnext
      clear t1 hnext
      generalize top (maskOf L) q = y at *
      by_cases hql : q < L
      · go_wp2_with fail
        go_roundw
        case rel => exact ⟨q + 1, by omega, by go_num, by rw [HN.out, if_pos hql], trivial⟩
        case measure => simp [intOf]; omega
      · go_wp2_with fail
        go_roundw
        case rel => exact ⟨q + 1, by omega, by go_num, by rw [HN.out, if_neg hql]; go_num, trivial⟩
        case measure => simp [intOf]; omega
    · obtain rfl : q = 32 := by omega
      rw [top_last]
      have := maskOf_range L
      generalize hy : maskOf L = y at *
      have HY := Lib.hid hy
      clear hy
      go_wp2_with fail
      go_ret
      exact ⟨by rw [HY.out]; rfl, rfl⟩

set_option maxRecDepth 100000 in
set_option maxHeartbeats 800000 in
theorem refOf_any (a : Int) (a0 : 0 ≤ a) (a1 : a < 4294967296) (L : Nat) (hL : L ≤ 32) (w : World) :
    Calls Try.prog 19 #[.int .u32 a, .int .i64 L] w fun e w' => e = .returned (.agg #[.int .u32 (cutTo a L), .int .i64 L]) ∧ Below w.heap.size w w' := by
  have c0 := cutTo_nonneg a L a0
  have c1 := cutTo_lt a L a1
  go_enter Try.func19, Try.ntmps19
  go_wp2_with fail
  go_loopw [5, 6] (fun n i wr => ∃ q : Nat, q ≤ 32 ∧ i = .int .i64 q ∧ n = .int .u32 (top (cutTo a L) q) ∧ wr = w.alloc (.cells #[.int .u32 0, .int .i64 0] 25)) (fun _ i _ => 32 - (intOf i).toNat)
  case atStart => exact ⟨0, by omega, rfl, by rw [top_zero _ c0 c1], rfl⟩
  case round =>
    obtain ⟨q, hq, rfl, rfl, rfl⟩ := hrel
    by_cases hlt : q < 32
    · have hnext := top_next (cutTo a L) q hlt
      have hbit := bit_cut a L q hL hlt
      rw [hbit] at hnext
      have t0 := top_nonneg (cutTo a L) q c0
      have t1 := top_lt (cutTo a L) (q + 1) c1 (by omega)
      have hbr := bitN_range a q
      have y1 : top (cutTo a L) q < 2147483648 := by split at hnext <;> omega
      have HN := Lib.hid hnext
      clear t1 hnext hbit c0 c1
      generalize top (cutTo a L) q = y at *
      by_cases hql : q < L
      · go_wp2_with fail
        refine (refBit_any a q a0 a1 _).mono ?_
        rintro e w2 ⟨rfl, rfl⟩
        rw [bitOf_at a q (by omega)]
        generalize hbb : bitN a q = b at *
        have HB := Lib.hid hbb
        clear hbb
        go_wp2_with fail
        go_roundw
        case rel => exact ⟨q + 1, by omega, by go_num, by rw [HN.out, if_pos hql], trivial⟩
        case measure => simp [intOf]; omega
      · go_wp2_with fail
        go_roundw
        case rel => exact ⟨q + 1, by omega, by go_num, by rw [HN.out, if_neg hql]; go_num, trivial⟩
        case measure => simp [intOf]; omega
    · obtain rfl : q = 32 := by omega
      rw [top_last]
      generalize hy : cutTo a L = y at *
      have HY := Lib.hid hy
      clear hy
      go_wp2_with fail
      refine ⟨rfl, .agg #[.int .u32 y, .int .i64 L], ?_, by rw [HY.out], (Below.refl _ _).alloc (Nat.le_refl _) _⟩
      simp [results, Try.f19, go_sem]

set_option maxRecDepth 100000 in
set_option maxHeartbeats 800000 in
theorem refLen_any (m : Int) (w : World) :
    Calls Try.prog 10 #[.int .u32 m] w fun e w' => ((∃ k : Nat, k ≤ 32 ∧ maskOf k = m ∧ e = .returned (.tuple #[.int .i64 k, .int .i64 0])) ∨ ((∀ k, k ≤ 32 → maskOf k ≠ m) ∧ e = .returned (.tuple #[.int .i64 0, .int .i64 120]))) ∧ w = w' := by
  go_enter Try.func10, Try.ntmps10
  go_wp2_with fail
  go_loopw [4] (fun i wr => ∃ q : Nat, q ≤ 33 ∧ i = .int .i64 q ∧ Hid (∀ k, k < q → maskOf k ≠ m) ∧ wr = w) (fun i _ => 33 - (intOf i).toNat)
  case atStart => exact ⟨0, by omega, rfl, Lib.hid (fun k _ => by omega), rfl⟩
  case round =>
    obtain ⟨q, hq, rfl, HZ, rfl⟩ := hrel
    by_cases hlt : q ≤ 32
    · go_wp2_with fail
      refine (refMask_any q hlt _).mono ?_
      rintro e w2 ⟨rfl, rfl⟩
      by_cases he : maskOf q = m
      · go_wp2_with fail
        exact ⟨rfl, .tuple #[.int .i64 q, .int .i64 0], by simp [results, Try.f10, go_sem], .inl ⟨q, hlt, he, rfl⟩, rfl⟩
      · have HZ2 : Hid (∀ k, k < q + 1 → maskOf k ≠ m) := Lib.hid (fun k hk => by
          rcases Nat.lt_or_ge k q with h | h
          · exact HZ.out k h
          · obtain rfl : k = q := by omega
            exact he)
        generalize maskOf q = y at *
        go_wp2_with fail
        go_roundw
        case rel => exact ⟨q + 1, by omega, by go_num, HZ2, trivial⟩
        case measure => simp [intOf]; omega
    · obtain rfl : q = 33 := by omega
      go_wp2_with fail
      exact ⟨rfl, .tuple #[.int .i64 0, .int .i64 120], by simp [results, Try.f10, go_sem], .inr ⟨fun k hk => HZ.out k (by omega), rfl⟩, rfl⟩
end Go.Proofs.Ytabpkdblcinhjaa
