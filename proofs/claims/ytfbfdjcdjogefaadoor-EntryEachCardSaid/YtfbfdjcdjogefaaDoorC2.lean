/- Contracts of the reference of layer 2: Bit, Right, Has. -/
import Derived.Test.YtfbfdjcdjogefaaDoorC1
import Derived.Test.YtfbfdjcdjogefaaDoorChecked
import Derived.ProofKit
import Derived.Lib.Hide
import Derived.WalkSmall
import Derived.Handy
namespace Go.Proofs.YtfbfdjcdjogefaaDoor
open Go Go.RowKit
attribute [local go_sem] Oper.semAt_some

set_option maxRecDepth 100000 in
set_option maxHeartbeats 800000 in
theorem refBit_any (a i : Int) (h0 : 0 ≤ a) (h1 : a < 4294967296) (w : World) :
    Calls Tryd.prog 65 #[.int .u32 a, .int .i64 i] w fun e w' => e = .returned (.int .i64 (bitOf a i)) ∧ w = w' := by
  by_cases hi : i < 0
  · have hb : bitOf a i = 0 := by unfold bitOf; rw [if_pos (.inl hi)]
    have HB := Lib.hid hb
    clear hb
    go_enter Tryd.func65, Tryd.ntmps65
    go_wp2_with fail
    go_ret
    exact ⟨by rw [HB.out]; rfl, rfl⟩
  by_cases hi2 : 31 < i
  · have hb : bitOf a i = 0 := by unfold bitOf; rw [if_pos (.inr hi2)]
    have HB := Lib.hid hb
    clear hb
    go_enter Tryd.func65, Tryd.ntmps65
    go_wp2_with fail
    go_ret
    exact ⟨by rw [HB.out]; rfl, rfl⟩
  obtain ⟨j, rfl⟩ : ∃ j : Nat, i = j := ⟨i.toNat, by omega⟩
  have hb : bitOf a j = top a (j + 1) % 2 := by unfold bitOf; rw [if_neg (by omega)]; rfl
  have HB := Lib.hid hb
  clear hb
  have hw : ∀ x : Int, 0 ≤ x → x < 4294967296 → IntKind.i64.wrap x = x := fun x h0 h1 => by rw [IntKind.wrap_i64]; omega
  have hwa := hw a h0 h1
  go_enter Tryd.func65, Tryd.ntmps65
  go_wp2_with fail
  go_loopw [5, 6] (fun n k wr => ∃ q : Nat, j ≤ q ∧ q ≤ 31 ∧ k = .int .i64 q ∧ n = .int .i64 (top a (q + 1)) ∧ wr = w) (fun _ k _ => (intOf k).toNat)
  case atStart => exact ⟨31, by omega, by omega, rfl, by rw [top_last], rfl⟩
  case round =>
    obtain ⟨q, hq, hq2, rfl, rfl, rfl⟩ := hrel
    have t0 := top_nonneg a (q + 1) h0
    have t1 := top_lt a (q + 1) h1 (by omega)
    by_cases hlt : j < q
    · have hh := top_half a q (by omega)
      generalize top a (q + 1) = x at *
      go_wp2_with fail
      go_roundw
      case rel => exact ⟨q - 1, by omega, by omega, by go_num, by rw [show q - 1 + 1 = q from by omega, hh], trivial⟩
      case measure => simp [intOf]; omega
    · obtain rfl : q = j := by omega
      go_wp2_with fail
      go_ret
      exact ⟨by rw [HB.out]; rfl, rfl⟩

theorem bitOf_at (a : Int) (q : Nat) (h : q ≤ 31) : bitOf a q = bitN a q := by
  unfold bitOf; rw [if_neg (by omega)]; rfl

set_option maxRecDepth 100000 in
set_option maxHeartbeats 800000 in
theorem refRight_any (a n : Int) (h0 : 0 ≤ a) (h1 : a < 4294967296) (w : World) :
    Calls Tryd.prog 39 #[.agg #[.int .u32 a, .int .i64 n]] w fun e w' => e = .returned (.bool (decide (right a n))) ∧ Below w.heap.size w w' := by
  have hbw : Below w.heap.size w (w.alloc (.cells #[.int .u32 a, .int .i64 n] 41)) := (Below.refl _ _).alloc (Nat.le_refl _) _
  have HBW := Lib.hid hbw
  clear hbw
  by_cases hi : n < 0
  · have hb : decide (right a n) = false := decide_eq_false (fun h => by have := h.1; omega)
    have HB := Lib.hid hb
    clear hb
    go_enter Tryd.func39, Tryd.ntmps39
    go_wp2_with fail
    go_ret
    exact ⟨by rw [HB.out]; rfl, HBW.out⟩
  by_cases hi2 : 32 < n
  · have hb : decide (right a n) = false := decide_eq_false (fun h => by have := h.2.1; omega)
    have HB := Lib.hid hb
    clear hb
    go_enter Tryd.func39, Tryd.ntmps39
    go_wp2_with fail
    go_ret
    exact ⟨by rw [HB.out]; rfl, HBW.out⟩
  obtain ⟨j, rfl⟩ : ∃ j : Nat, n = j := ⟨n.toNat, by omega⟩
  have hcut := cut_iff a j (by omega)
  have HC := Lib.hid hcut
  clear hcut
  go_enter Tryd.func39, Tryd.ntmps39
  go_wp2_with fail
  go_loopw [3] (fun i wr => ∃ q : Nat, j ≤ q ∧ q ≤ 32 ∧ i = .int .i64 q ∧ Hid (∀ i, j ≤ i → i < q → bitN a i = 0) ∧ wr = w.alloc (.cells #[.int .u32 a, .int .i64 j] 41)) (fun i _ => 32 - (intOf i).toNat)
  case atStart => exact ⟨j, by omega, by omega, rfl, Lib.hid (fun i _ _ => by omega), rfl⟩
  case round =>
    obtain ⟨q, hq, hq2, rfl, HZ, rfl⟩ := hrel
    by_cases hlt : q < 32
    · go_wp2_with fail
      refine (refBit_any a q h0 h1 _).mono ?_
      rintro e w1 ⟨rfl, rfl⟩
      rw [bitOf_at a q (by omega)]
      by_cases hz : bitN a q = 0
      · have HZ2 : Hid (∀ i, j ≤ i → i < q + 1 → bitN a i = 0) := Lib.hid (fun i hi hi2 => by
          rcases Nat.lt_or_ge i q with h | h
          · exact HZ.out i hi h
          · obtain rfl : i = q := by omega
            exact hz)
        go_wp2_with fail
        go_roundw
        case rel => exact ⟨q + 1, by omega, by omega, by go_num, HZ2, trivial⟩
        case measure => simp [intOf]; omega
      · have hb : decide (right a j) = false := decide_eq_false (fun h => hz (HC.out.1 (by simpa using h.2.2) q hq hlt))
        have HB := Lib.hid hb
        clear hb
        go_wp2_with fail
        go_ret
        exact ⟨by rw [HB.out]; rfl, HBW.out⟩
    · obtain rfl : q = 32 := by omega
      have hb : decide (right a j) = true := decide_eq_true ⟨by omega, by omega, by simpa using HC.out.2 HZ.out⟩
      have HB := Lib.hid hb
      clear hb
      go_wp2_with fail
      go_ret
      exact ⟨by rw [HB.out]; rfl, HBW.out⟩
end Go.Proofs.YtfbfdjcdjogefaaDoor
