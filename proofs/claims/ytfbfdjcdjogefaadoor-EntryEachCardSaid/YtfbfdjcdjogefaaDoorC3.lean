/- Contracts of the reference of layer 2: Has, Mask, Of, Len. -/
import Derived.Test.YtfbfdjcdjogefaaDoorC2
namespace Go.Proofs.YtfbfdjcdjogefaaDoor
open Go Go.RowKit
attribute [local go_sem] Oper.semAt_some

set_option maxRecDepth 100000 in
set_option maxHeartbeats 800000 in
theorem refMask_any (L : Nat) (hL : L ≤ 32) (w : World) :
    Calls Tryd.prog 55 #[.int .i64 L] w fun e w' => e = .returned (.int .u32 (maskOf L)) ∧ w = w' := by
  go_enter Tryd.func55, Tryd.ntmps55
  go_wp2_with fail
  go_loopw [3, 4] (fun n i wr => ∃ q : Nat, q ≤ 32 ∧ i = .int .i64 q ∧ n = .int .u32 (top (maskOf L) q) ∧ wr = w) (fun _ i _ => 32 - (intOf i).toNat)
  case atStart => exact ⟨0, by omega, rfl, by rw [top_zero _ (maskOf_range L).1 (maskOf_range L).2], rfl⟩
  case round =>
    obtain ⟨q, hq, rfl, rfl, rfl⟩ := hrel
    by_cases hlt : q < 32
    · have hnext := top_next (maskOf L) q hlt
      rw [bit_mask L q hL hlt] at hnext
      have t0 := top_nonneg (maskOf L) q (maskOf_range L).1
      have t1 := top_lt (maskOf L) (q + 1) (maskOf_range L).2 (by omega)
      have y1 : top (maskOf L) q < 2147483648 := by split at hnext <;> omega
      have HN := Lib.hid hnext
      clear t1 hnext
      generalize top (maskOf L) q = y at *
      by_cases hql : q < L
      · go_wp2_with fail
        go_roundw
        case rel => exact ⟨q + 1, by omega, by go_num, by rw [HN.out, if_pos hql], trivial⟩
        case measure => simp [intOf]; omega
      · go_wp2_with fail
        go_roundw
        case rel => exact ⟨q + 1, by omega, by go_num, by rw [HN.out, if_neg hql]; go_num, trivial⟩
        case measure => simp [intOf]; omega
    · obtain rfl : q = 32 := by omega
      rw [top_last]
      have := maskOf_range L
      generalize hy : maskOf L = y at *
      have HY := Lib.hid hy
      clear hy
      go_wp2_with fail
      go_ret
      exact ⟨by rw [HY.out]; rfl, rfl⟩

set_option maxRecDepth 100000 in
set_option maxHeartbeats 800000 in
theorem refLen_any (m : Int) (w : World) :
    Calls Tryd.prog 37 #[.int .u32 m] w fun e w' => ((∃ k : Nat, k ≤ 32 ∧ maskOf k = m ∧ e = .returned (.tuple #[.int .i64 k, .int .i64 0])) ∨ ((∀ k, k ≤ 32 → maskOf k ≠ m) ∧ e = .returned (.tuple #[.int .i64 0, .int .i64 120]))) ∧ w = w' := by
  go_enter Tryd.func37, Tryd.ntmps37
  go_wp2_with fail
  go_loopw [4] (fun i wr => ∃ q : Nat, q ≤ 33 ∧ i = .int .i64 q ∧ Hid (∀ k, k < q → maskOf k ≠ m) ∧ wr = w) (fun i _ => 33 - (intOf i).toNat)
  case atStart => exact ⟨0, by omega, rfl, Lib.hid (fun k _ => by omega), rfl⟩
  case round =>
    obtain ⟨q, hq, rfl, HZ, rfl⟩ := hrel
    by_cases hlt : q ≤ 32
    · go_wp2_with fail
      refine (refMask_any q hlt _).mono ?_
      rintro e w2 ⟨rfl, rfl⟩
      by_cases he : maskOf q = m
      · go_wp2_with fail
        exact ⟨rfl, .tuple #[.int .i64 q, .int .i64 0], by simp [results, Tryd.f37, go_sem], .inl ⟨q, hlt, he, rfl⟩, rfl⟩
      · have HZ2 : Hid (∀ k, k < q + 1 → maskOf k ≠ m) := Lib.hid (fun k hk => by
          rcases Nat.lt_or_ge k q with h | h
          · exact HZ.out k h
          · obtain rfl : k = q := by omega
            exact he)
        generalize maskOf q = y at *
        go_wp2_with fail
        go_roundw
        case rel => exact ⟨q + 1, by omega, by go_num, HZ2, trivial⟩
        case measure => simp [intOf]; omega
    · obtain rfl : q = 33 := by omega
      go_wp2_with fail
      exact ⟨rfl, .tuple #[.int .i64 0, .int .i64 120], by simp [results, Tryd.f37, go_sem], .inr ⟨fun k hk => HZ.out k (by omega), rfl⟩, rfl⟩
end Go.Proofs.YtfbfdjcdjogefaaDoor
