/- Merged by tools/merge.py: C1, C2, C3, C4. -/
import Derived.Test.YtghkacciihocdaaA0
import Derived.Test.YtghkacciihocdaaChecked
import Derived.ProofKit
import Derived.Lib.Hide
import Derived.WalkSmall
import Derived.Handy
import Derived.Lib.QuietBelow
import Derived.WalkLawsBesides
import Derived.BigQuiet
import Derived.Deep.QuietTactic
import Derived.Deep.DeepFit
namespace Go.Proofs.Ytghkacciihocdaa

/-- How much one place from the highest one on weighs: 2 to the 32 - n. -/
def wgt (n : Nat) : Int := ((2 ^ (32 - n) : Nat) : Int)
theorem wgt_pos (n : Nat) : 0 < wgt n := by
  unfold wgt
  exact Int.natCast_pos.2 (Nat.pow_pos (by decide))
theorem wgt_zero : wgt 0 = 4294967296 := by decide
theorem wgt_last : wgt 32 = 1 := by decide
theorem wgt_step (n : Nat) (h : n < 32) : wgt n = 2 * wgt (n + 1) := by
  unfold wgt
  rw [show 32 - n = (32 - (n + 1)) + 1 from by omega, Nat.pow_succ]
  omega

/-- The first n bits of an address, as a number. -/
def top (a : Int) (n : Nat) : Int := a / wgt n
/-- Bit number i. -/
def bitN (a : Int) (i : Nat) : Int := top a (i + 1) % 2
def bitOf (a i : Int) : Int := if i < 0 ∨ 31 < i then 0 else bitN a i.toNat

theorem top_zero (a : Int) (h0 : 0 ≤ a) (h1 : a < 4294967296) : top a 0 = 0 := by
  unfold top; rw [wgt_zero]; omega
theorem top_last (a : Int) : top a 32 = a := by unfold top; rw [wgt_last]; simp
theorem top_half (a : Int) (n : Nat) (h : n < 32) : top a n = top a (n + 1) / 2 := by
  unfold top
  have hp := wgt_pos (n + 1)
  rw [wgt_step n h, Int.mul_comm, Int.ediv_ediv, if_neg (by omega), Int.sub_zero]
theorem top_next (a : Int) (n : Nat) (h : n < 32) : top a (n + 1) = 2 * top a n + bitN a n := by
  rw [top_half a n h]
  unfold bitN
  omega
theorem bitN_range (a : Int) (i : Nat) : 0 ≤ bitN a i ∧ bitN a i ≤ 1 := by unfold bitN; omega
theorem top_nonneg (a : Int) (n : Nat) (h : 0 ≤ a) : 0 ≤ top a n := Int.ediv_nonneg h (Int.le_of_lt (wgt_pos _))
theorem top_lt (a : Int) (n : Nat) (h1 : a < 4294967296) : ∀ (_ : n ≤ 32), top a n < 4294967296 := by
  intro h
  unfold top
  have hp := wgt_pos n
  rcases Int.lt_or_le a 0 with ha | ha
  · have : a / wgt n < 0 := Int.ediv_neg_of_neg_of_pos ha hp
    omega
  · have := Int.ediv_le_self (wgt n) ha
    omega

/-- Two addresses have the same first n bits just if each of these bits is the same. -/
theorem top_same (a b : Int) (ha0 : 0 ≤ a) (ha1 : a < 4294967296) (hb0 : 0 ≤ b) (hb1 : b < 4294967296) : ∀ (n : Nat), n ≤ 32 → (top a n = top b n ↔ ∀ i, i < n → bitN a i = bitN b i)
  | 0, _ => by rw [top_zero a ha0 ha1, top_zero b hb0 hb1]; simp
  | n + 1, h => by
    have ih := top_same a b ha0 ha1 hb0 hb1 n (by omega)
    rw [top_next a n (by omega), top_next b n (by omega)]
    have ra := bitN_range a n
    have rb := bitN_range b n
    constructor
    · intro e i hi
      have h1 : top a n = top b n := by omega
      have h2 : bitN a n = bitN b n := by omega
      rcases Nat.lt_or_ge i n with hlt | hge
      · exact (ih.1 h1) i hlt
      · obtain rfl : i = n := by omega
        exact h2
    · intro e
      have h1 := ih.2 (fun i hi => e i (by omega))
      have h2 := e n (by omega)
      omega

/-- The address of which the first n bits are kept, the others 0. -/
def cutTo (a : Int) (n : Nat) : Int := top a n * wgt n
/-- The first n bits 1, the others 0. -/
def maskOf (n : Nat) : Int := cutTo 4294967295 n

theorem wgt_le (n : Nat) : wgt n ≤ 4294967296 := by
  unfold wgt
  have : 2 ^ (32 - n) ≤ 2 ^ 32 := Nat.pow_le_pow_right (by decide) (by omega)
  have h : (2 : Nat) ^ 32 = 4294967296 := by decide
  omega

theorem cutTo_le (a : Int) (n : Nat) : cutTo a n ≤ a ∧ a < cutTo a n + wgt n := by
  unfold cutTo top
  have h1 := Int.mul_ediv_add_emod a (wgt n)
  have h2 := Int.emod_nonneg a (Int.ne_of_gt (wgt_pos n))
  have h3 := Int.emod_lt_of_pos a (wgt_pos n)
  rw [Int.mul_comm] at h1
  omega
theorem cutTo_nonneg (a : Int) (n : Nat) (h : 0 ≤ a) : 0 ≤ cutTo a n := Int.mul_nonneg (top_nonneg a n h) (Int.le_of_lt (wgt_pos n))

theorem top_mul (k : Int) (n : Nat) : top (k * wgt n) n = k := by
  unfold top
  exact Int.mul_ediv_cancel k (Int.ne_of_gt (wgt_pos n))
theorem top_cutTo (a : Int) (n : Nat) : top (cutTo a n) n = top a n := top_mul _ n

/-- What may be: so many bits, and none behind them is 1. -/
def right (a n : Int) : Prop := 0 ≤ n ∧ n ≤ 32 ∧ cutTo a n.toNat = a
instance (a n : Int) : Decidable (right a n) := inferInstanceAs (Decidable (_ ∧ _ ∧ _))

/-- None of the bits from n on is 1 just if nothing is cut. -/
theorem cut_iff (a : Int) (n : Nat) (hn : n ≤ 32) : cutTo a n = a ↔ ∀ i, n ≤ i → i < 32 → bitN a i = 0 := by
  have key : ∀ (k : Nat), k ≤ 32 - n → ((∀ i, n ≤ i → i < n + k → bitN a i = 0) ↔ top a (n + k) * wgt (n + k) = cutTo a n) := by
    intro k
    induction k with
    | zero => intro _; simp [cutTo]; omega
    | succ k ih =>
      intro hk
      have ih := ih (by omega)
      have hs := wgt_step (n + k) (by omega)
      have ht := top_next a (n + k) (by omega)
      have hb := bitN_range a (n + k)
      have hle : top a (n + k) * wgt (n + k) ≥ cutTo a n := by
        have h1 := (cutTo_le a (n + k)).2
        have h2 : cutTo a n ≤ a := (cutTo_le a n).1
        have h3 : ∃ q : Int, cutTo a n = q * wgt (n + k) := by
          refine ⟨top a n * ((2 ^ k : Nat) : Int), ?_⟩
          unfold cutTo wgt
          rw [Int.mul_assoc, ← Int.natCast_mul, ← Nat.pow_add, show k + (32 - (n + k)) = 32 - n from by omega]
        obtain ⟨q, hq⟩ := h3
        have hp := wgt_pos (n + k)
        unfold cutTo at h1
        rw [hq] at h2 ⊢
        have : q * wgt (n + k) < (top a (n + k) + 1) * wgt (n + k) := by rw [Int.add_mul]; omega
        have := Int.lt_of_mul_lt_mul_right this (Int.le_of_lt hp)
        exact Int.mul_le_mul_of_nonneg_right (by omega) (Int.le_of_lt hp)
      have hexp : top a (n + (k + 1)) * wgt (n + (k + 1)) = top a (n + k) * wgt (n + k) + bitN a (n + k) * wgt (n + (k + 1)) := by
        rw [show n + (k + 1) = n + k + 1 from by omega, ht, hs, Int.add_mul, Int.mul_assoc, Int.mul_left_comm]
      have hp := wgt_pos (n + (k + 1))
      constructor
      · intro h
        have h1 := ih.1 (fun i hi hi2 => h i hi (by omega))
        have h2 := h (n + k) (by omega) (by omega)
        rw [hexp, h1, h2]; simp
      · intro h i hi hi2
        rw [hexp] at h
        have hb0 : bitN a (n + k) = 0 := by
          rcases Int.lt_or_le 0 (bitN a (n + k)) with hpos | hneg
          · have : 0 < bitN a (n + k) * wgt (n + (k + 1)) := Int.mul_pos hpos hp
            omega
          · omega
        rw [hb0] at h
        have h1 := ih.2 (by simpa using h)
        rcases Nat.lt_or_ge i (n + k) with hlt | hge
        · exact h1 i hi hlt
        · obtain rfl : i = n + k := by omega
          exact hb0
  have := key (32 - n) (by omega)
  rw [show n + (32 - n) = 32 from by omega, top_last, wgt_last] at this
  rw [this]
  constructor <;> intro h <;> omega

theorem wgt_split (k n : Nat) (h : k ≤ n) (hn : n ≤ 32) : wgt k = wgt n * ((2 ^ (n - k) : Nat) : Int) := by
  unfold wgt
  rw [← Int.natCast_mul, ← Nat.pow_add, show 32 - n + (n - k) = 32 - k from by omega]

theorem top_top (a : Int) (k n : Nat) (h : k ≤ n) (hn : n ≤ 32) : top a k = top a n / ((2 ^ (n - k) : Nat) : Int) := by
  have hp := wgt_pos n
  unfold top
  rw [wgt_split k n h hn, Int.ediv_ediv, if_neg (by omega), Int.sub_zero]

theorem top_of_cut (a : Int) (k n : Nat) (h : k ≤ n) (hn : n ≤ 32) : top (cutTo a n) k = top a k := by
  rw [top_top _ k n h hn, top_top a k n h hn, top_cutTo]

theorem cut_cut (a : Int) (n : Nat) : cutTo (cutTo a n) n = cutTo a n := by
  unfold cutTo
  rw [top_mul]

theorem bit_cut (a : Int) (n i : Nat) (hn : n ≤ 32) (hi : i < 32) : bitN (cutTo a n) i = if i < n then bitN a i else 0 := by
  split
  · rename_i h
    unfold bitN
    rw [top_of_cut a (i + 1) n (by omega) hn]
  · exact (cut_iff _ n hn).1 (cut_cut a n) i (by omega) hi

theorem bit_all : ∀ i, i < 32 → bitN 4294967295 i = 1 := by decide
theorem bit_mask (n i : Nat) (hn : n ≤ 32) (hi : i < 32) : bitN (maskOf n) i = if i < n then 1 else 0 := by
  unfold maskOf
  rw [bit_cut _ n i hn hi, bit_all i hi]

theorem cutTo_lt (a : Int) (n : Nat) (h : a < 4294967296) : cutTo a n < 4294967296 := by have := (cutTo_le a n).1; omega
theorem maskOf_range (n : Nat) : 0 ≤ maskOf n ∧ maskOf n < 4294967296 := ⟨cutTo_nonneg _ n (by decide), cutTo_lt _ n (by decide)⟩
theorem maskOf_inj (n m : Nat) (hn : n ≤ 32) (hm : m ≤ 32) (h : maskOf n = maskOf m) : n = m := by
  rcases Nat.lt_trichotomy n m with hlt | he | hlt
  · have h1 := bit_mask n n hn (by omega)
    have h2 := bit_mask m n hm (by omega)
    rw [h, h2, if_pos hlt, if_neg (by omega)] at h1
    omega
  · exact he
  · have h1 := bit_mask n m hn (by omega)
    have h2 := bit_mask m m hm (by omega)
    rw [h, h2, if_pos hlt, if_neg (by omega)] at h1
    omega

/-- Is the address in the prefix? -/
def hasP (x n a : Int) : Prop := right x n ∧ top x n.toNat = top a n.toNat
instance (x n a : Int) : Decidable (hasP x n a) := inferInstanceAs (Decidable (_ ∧ _))
end Go.Proofs.Ytghkacciihocdaa

namespace Go.Proofs.Ytghkacciihocdaa
open Go Go.RowKit
attribute [local go_sem] Oper.semAt_some

set_option maxRecDepth 100000 in
set_option maxHeartbeats 800000 in
theorem refBit_any (a i : Int) (h0 : 0 ≤ a) (h1 : a < 4294967296) (w : World) :
    Calls Try.prog 59 #[.int .u32 a, .int .i64 i] w fun e w' => e = .returned (.int .i64 (bitOf a i)) ∧ w = w' := by
  by_cases hi : i < 0
  · have hb : bitOf a i = 0 := by unfold bitOf; rw [if_pos (.inl hi)]
    have HB := Lib.hid hb
    clear hb
    go_enter Try.func59, Try.ntmps59
    go_wp2_with fail
    go_ret
    exact ⟨by rw [HB.out]; rfl, rfl⟩
  by_cases hi2 : 31 < i
  · have hb : bitOf a i = 0 := by unfold bitOf; rw [if_pos (.inr hi2)]
    have HB := Lib.hid hb
    clear hb
    go_enter Try.func59, Try.ntmps59
    go_wp2_with fail
    go_ret
    exact ⟨by rw [HB.out]; rfl, rfl⟩
  obtain ⟨j, rfl⟩ : ∃ j : Nat, i = j := ⟨i.toNat, by omega⟩
  have hb : bitOf a j = top a (j + 1) % 2 := by unfold bitOf; rw [if_neg (by omega)]; rfl
  have HB := Lib.hid hb
  clear hb
  have hw : ∀ x : Int, 0 ≤ x → x < 4294967296 → IntKind.i64.wrap x = x := fun x h0 h1 => by rw [IntKind.wrap_i64]; omega
  have hwa := hw a h0 h1
  go_enter Try.func59, Try.ntmps59
  go_wp2_with fail
  go_loopw [5, 6] (fun n k wr => ∃ q : Nat, j ≤ q ∧ q ≤ 31 ∧ k = .int .i64 q ∧ n = .int .i64 (top a (q + 1)) ∧ wr = w) (fun _ k _ => (intOf k).toNat)
  case atStart => exact ⟨31, by omega, by omega, rfl, by rw [top_last], rfl⟩
  case round =>
    obtain ⟨q, hq, hq2, rfl, rfl, rfl⟩ := hrel
    have t0 := top_nonneg a (q + 1) h0
    have t1 := top_lt a (q + 1) h1 (by omega)
    by_cases hlt : j < q
    · have hh := top_half a q (by omega)
      generalize top a (q + 1) = x at *
      go_wp2_with fail
      go_roundw
      case rel => exact ⟨q - 1, by omega, by omega, by go_num, by rw [show q - 1 + 1 = q from by omega, hh], trivial⟩
      case measure => simp [intOf]; omega
    · obtain rfl : q = j := by omega
      go_wp2_with fail
      go_ret
      exact ⟨by rw [HB.out]; rfl, rfl⟩

theorem bitOf_at (a : Int) (q : Nat) (h : q ≤ 31) : bitOf a q = bitN a q := by
  unfold bitOf; rw [if_neg (by omega)]; rfl

set_option maxRecDepth 100000 in
set_option maxHeartbeats 800000 in
theorem refRight_any (a n : Int) (h0 : 0 ≤ a) (h1 : a < 4294967296) (w : World) :
    Calls Try.prog 44 #[.agg #[.int .u32 a, .int .i64 n]] w fun e w' => e = .returned (.bool (decide (right a n))) ∧ Below w.heap.size w w' := by
  have hbw : Below w.heap.size w (w.alloc (.cells #[.int .u32 a, .int .i64 n] 34)) := (Below.refl _ _).alloc (Nat.le_refl _) _
  have HBW := Lib.hid hbw
  clear hbw
  by_cases hi : n < 0
  · have hb : decide (right a n) = false := decide_eq_false (fun h => by have := h.1; omega)
    have HB := Lib.hid hb
    clear hb
    go_enter Try.func44, Try.ntmps44
    go_wp2_with fail
    go_ret
    exact ⟨by rw [HB.out]; rfl, HBW.out⟩
  by_cases hi2 : 32 < n
  · have hb : decide (right a n) = false := decide_eq_false (fun h => by have := h.2.1; omega)
    have HB := Lib.hid hb
    clear hb
    go_enter Try.func44, Try.ntmps44
    go_wp2_with fail
    go_ret
    exact ⟨by rw [HB.out]; rfl, HBW.out⟩
  obtain ⟨j, rfl⟩ : ∃ j : Nat, n = j := ⟨n.toNat, by omega⟩
  have hcut := cut_iff a j (by omega)
  have HC := Lib.hid hcut
  clear hcut
  go_enter Try.func44, Try.ntmps44
  go_wp2_with fail
  go_loopw [3] (fun i wr => ∃ q : Nat, j ≤ q ∧ q ≤ 32 ∧ i = .int .i64 q ∧ Hid (∀ i, j ≤ i → i < q → bitN a i = 0) ∧ wr = w.alloc (.cells #[.int .u32 a, .int .i64 j] 34)) (fun i _ => 32 - (intOf i).toNat)
  case atStart => exact ⟨j, by omega, by omega, rfl, Lib.hid (fun i _ _ => by omega), rfl⟩
  case round =>
    obtain ⟨q, hq, hq2, rfl, HZ, rfl⟩ := hrel
    by_cases hlt : q < 32
    · go_wp2_with fail
      refine (refBit_any a q h0 h1 _).mono ?_
      rintro e w1 ⟨rfl, rfl⟩
      rw [bitOf_at a q (by omega)]
      by_cases hz : bitN a q = 0
      · have HZ2 : Hid (∀ i, j ≤ i → i < q + 1 → bitN a i = 0) := Lib.hid (fun i hi hi2 => by
          rcases Nat.lt_or_ge i q with h | h
          · exact HZ.out i hi h
          · obtain rfl : i = q := by omega
            exact hz)
        go_wp2_with fail
        go_roundw
        case rel => exact ⟨q + 1, by omega, by omega, by go_num, HZ2, trivial⟩
        case measure => simp [intOf]; omega
      · have hb : decide (right a j) = false := decide_eq_false (fun h => hz (HC.out.1 (by simpa using h.2.2) q hq hlt))
        have HB := Lib.hid hb
        clear hb
        go_wp2_with fail
        go_ret
        exact ⟨by rw [HB.out]; rfl, HBW.out⟩
    · obtain rfl : q = 32 := by omega
      have hb : decide (right a j) = true := decide_eq_true ⟨by omega, by omega, by simpa using HC.out.2 HZ.out⟩
      have HB := Lib.hid hb
      clear hb
      go_wp2_with fail
      go_ret
      exact ⟨by rw [HB.out]; rfl, HBW.out⟩
end Go.Proofs.Ytghkacciihocdaa

namespace Go.Proofs.Ytghkacciihocdaa
open Go Go.RowKit
attribute [local go_sem] Oper.semAt_some

set_option maxRecDepth 100000 in
set_option maxHeartbeats 800000 in
theorem refHas_any (x n a : Int) (x0 : 0 ≤ x) (x1 : x < 4294967296) (a0 : 0 ≤ a) (a1 : a < 4294967296) (w : World) :
    Calls Try.prog 33 #[.agg #[.int .u32 x, .int .i64 n], .int .u32 a] w fun e w' => e = .returned (.bool (decide (hasP x n a))) ∧ Below w.heap.size w w' := by
  have hbw : Below w.heap.size w (w.alloc (.cells #[.int .u32 x, .int .i64 n] 34)) := (Below.refl _ _).alloc (Nat.le_refl _) _
  have HBW := Lib.hid hbw
  clear hbw
  by_cases hr : right x n
  · have hb : decide (right x n) = true := decide_eq_true hr
    have HB := Lib.hid hb
    obtain ⟨j, rfl⟩ : ∃ j : Nat, n = j := ⟨n.toNat, by have := hr.1; omega⟩
    have hj : j ≤ 32 := by have := hr.2.1; omega
    have hts := top_same x a x0 x1 a0 a1 j hj
    have HT := Lib.hid hts
    have HR := Lib.hid hr
    clear hb hts hr
    go_enter Try.func33, Try.ntmps33
    go_wp2_with fail
    refine (refRight_any x j x0 x1 _).mono ?_
    rintro e w1 ⟨rfl, hb1⟩
    rw [HB.out]
    have hbl : Blk w1 w.heap.size 34 #[.int .u32 x, .int .i64 j] := (Blk.new w _ _).below hb1 (by simp)
    have hb2 : Below w.heap.size w w1 := HBW.out.trans (hb1.mono (by simp))
    have c0 := hbl.cell 0
    have c1 := hbl.cell 1
    simp only [List.getElem?_toArray, List.getElem?_cons_zero, List.getElem?_cons_succ] at c0 c1
    have HB2 := Lib.hid hb2
    clear hb1 hbl hb2
    go_wp2_with fail
    go_loopw [5] (fun i wr => ∃ q : Nat, q ≤ j ∧ i = .int .i64 q ∧ Hid (∀ i, i < q → bitN x i = bitN a i) ∧ wr = w1) (fun i _ => j - (intOf i).toNat)
    case atStart => exact ⟨0, by omega, rfl, Lib.hid (fun i _ => by omega), rfl⟩
    case round =>
      obtain ⟨q, hq, rfl, HZ, rfl⟩ := hrel
      by_cases hlt : q < j
      · go_wp2_with fail
        refine (refBit_any x q x0 x1 _).mono ?_
        rintro e w2 ⟨rfl, rfl⟩
        rw [bitOf_at x q (by omega)]
        go_wp2_with fail
        refine (refBit_any a q a0 a1 _).mono ?_
        rintro e w2 ⟨rfl, rfl⟩
        rw [bitOf_at a q (by omega)]
        by_cases hz : bitN x q = bitN a q
        · have HZ2 : Hid (∀ i, i < q + 1 → bitN x i = bitN a i) := Lib.hid (fun i hi => by
            rcases Nat.lt_or_ge i q with h | h
            · exact HZ.out i h
            · obtain rfl : i = q := by omega
              exact hz)
          go_wp2_with fail
          go_roundw
          case rel => exact ⟨q + 1, by omega, by go_num, HZ2, trivial⟩
          case measure => simp [intOf]; omega
        · have hb : decide (hasP x j a) = false := decide_eq_false (fun h => hz (HT.out.1 (by simpa using h.2) q hlt))
          have HF := Lib.hid hb
          clear hb
          go_wp2_with fail
          go_ret
          exact ⟨by rw [HF.out]; rfl, HB2.out⟩
      · obtain rfl : q = j := by omega
        have hb : decide (hasP x q a) = true := decide_eq_true ⟨HR.out, by simpa using HT.out.2 HZ.out⟩
        have HF := Lib.hid hb
        clear hb
        go_wp2_with fail
        go_ret
        exact ⟨by rw [HF.out]; rfl, HB2.out⟩
  · have hb : decide (right x n) = false := decide_eq_false hr
    have hb3 : decide (hasP x n a) = false := decide_eq_false (fun h => hr h.1)
    have HB := Lib.hid hb
    have HB3 := Lib.hid hb3
    clear hb hb3 hr
    go_enter Try.func33, Try.ntmps33
    go_wp2_with fail
    refine (refRight_any x n x0 x1 _).mono ?_
    rintro e w1 ⟨rfl, hb1⟩
    rw [HB.out]
    have hb2 : Below w.heap.size w w1 := HBW.out.trans (hb1.mono (by simp))
    have HB2 := Lib.hid hb2
    clear hb1 hb2
    go_wp2_with fail
    go_ret
    exact ⟨by rw [HB3.out]; rfl, HB2.out⟩

set_option maxRecDepth 100000 in
set_option maxHeartbeats 800000 in
theorem refOf_any (a : Int) (a0 : 0 ≤ a) (a1 : a < 4294967296) (L : Nat) (hL : L ≤ 32) (w : World) :
    Calls Try.prog 45 #[.int .u32 a, .int .i64 L] w fun e w' => e = .returned (.agg #[.int .u32 (cutTo a L), .int .i64 L]) ∧ Below w.heap.size w w' := by
  have c0 := cutTo_nonneg a L a0
  have c1 := cutTo_lt a L a1
  go_enter Try.func45, Try.ntmps45
  go_wp2_with fail
  go_loopw [5, 6] (fun n i wr => ∃ q : Nat, q ≤ 32 ∧ i = .int .i64 q ∧ n = .int .u32 (top (cutTo a L) q) ∧ wr = w.alloc (.cells #[.int .u32 0, .int .i64 0] 34)) (fun _ i _ => 32 - (intOf i).toNat)
  case atStart => exact ⟨0, by omega, rfl, by rw [top_zero _ c0 c1], rfl⟩
  case round =>
    obtain ⟨q, hq, rfl, rfl, rfl⟩ := hrel
    by_cases hlt : q < 32
    · have hnext := top_next (cutTo a L) q hlt
      have hbit := bit_cut a L q hL hlt
      rw [hbit] at hnext
      have t0 := top_nonneg (cutTo a L) q c0
      have t1 := top_lt (cutTo a L) (q + 1) c1 (by omega)
      have hbr := bitN_range a q
      have y1 : top (cutTo a L) q < 2147483648 := by split at hnext <;> omega
      have HN := Lib.hid hnext
      clear t1 hnext hbit c0 c1
      generalize top (cutTo a L) q = y at *
      by_cases hql : q < L
      · go_wp2_with fail
        refine (refBit_any a q a0 a1 _).mono ?_
        rintro e w2 ⟨rfl, rfl⟩
        rw [bitOf_at a q (by omega)]
        generalize hbb : bitN a q = b at *
        have HB := Lib.hid hbb
        clear hbb
        go_wp2_with fail
        go_roundw
        case rel => exact ⟨q + 1, by omega, by go_num, by rw [HN.out, if_pos hql], trivial⟩
        case measure => simp [intOf]; omega
      · go_wp2_with fail
        go_roundw
        case rel => exact ⟨q + 1, by omega, by go_num, by rw [HN.out, if_neg hql]; go_num, trivial⟩
        case measure => simp [intOf]; omega
    · obtain rfl : q = 32 := by omega
      rw [top_last]
      generalize hy : cutTo a L = y at *
      have HY := Lib.hid hy
      clear hy
      go_wp2_with fail
      refine ⟨rfl, .agg #[.int .u32 y, .int .i64 L], ?_, by rw [HY.out], (Below.refl _ _).alloc (Nat.le_refl _) _⟩
      simp [results, Try.f45, go_sem]

end Go.Proofs.Ytghkacciihocdaa

namespace Go.Proofs.Ytghkacciihocdaa
open Go Go.RowKit Go.Sort
attribute [local go_sem] Oper.semAt_some

/-- A prefix as a value. -/
abbrev pfx (x n : Int) : Value := .agg #[.int .u32 x, .int .i64 n]

theorem two_below (w : World) (a b : Obj) : Below w.heap.size w ((w.alloc a).alloc b) := ((Below.refl _ _).alloc (Nat.le_refl _) _).alloc (by simp) _

def ordF (x n y m : Int) : Int := if x = y ∧ n = m then 0 else if x < y ∨ (x = y ∧ n < m) then -1 else 1

set_option maxRecDepth 100000 in
set_option maxHeartbeats 400000 in
theorem refOrder_any (x n y m : Int) (w : World) :
    Calls Try.prog 51 #[pfx x n, pfx y m] w fun e w' => e = .returned (.int .i64 (ordF x n y m)) ∧ Below w.heap.size w w' := by
  have hcase : (x = y ∧ n = m ∧ ordF x n y m = 0) ∨ (x = y ∧ ¬ n = m ∧ n < m ∧ ordF x n y m = -1) ∨ (x = y ∧ ¬ n = m ∧ ¬ n < m ∧ ordF x n y m = 1) ∨ (¬ x = y ∧ x < y ∧ ordF x n y m = -1) ∨ (¬ x = y ∧ ¬ x < y ∧ ordF x n y m = 1) := by
    unfold ordF
    by_cases e : x = y <;> by_cases e2 : n = m <;> by_cases e3 : n < m <;> by_cases e4 : x < y <;> simp [e, e2, e3, e4] <;> omega
  rcases hcase with ⟨rfl, rfl, h⟩ | ⟨rfl, e1, e2, h⟩ | ⟨rfl, e1, e2, h⟩ | ⟨e1, e2, h⟩ | ⟨e1, e2, h⟩
  all_goals
    have HB := Lib.hid h
    clear h
    go_enter Try.func51, Try.ntmps51
    go_wp2_with fail
    go_ret
    exact ⟨by rw [HB.out]; rfl, two_below w _ _⟩

theorem bit_quiet (a : Int) (a0 : 0 ≤ a) (a1 : a < 4294967296) (q : Nat) (hq : q ≤ 31) (W : World) : ∀ d os, Calls Try.prog 59 #[.int .u32 a, .int .i64 q] (grow (redrawn W d) os) fun e w'' => e = .returned (.int .i64 (bitN a q)) ∧ ∃ p : Regrown, w'' = grow (redrawn W p.d) p.os := fun d os => by
  refine Calls.regrown_of ((refBit_any a q a0 a1 _).mono ?_)
  rintro e w' ⟨rfl, rfl⟩
  exact ⟨by rw [bitOf_at a q hq], Below.refl _ _⟩

/-- A function's own three blocks: the two prefixes that came in, and its answer. -/
def Own3 (w : World) (x n y m : Int) (W : World) : Prop := Blk W w.heap.size 34 #[.int .u32 x, .int .i64 n] ∧ Blk W (w.heap.size + 1) 34 #[.int .u32 y, .int .i64 m] ∧ Blk W (w.heap.size + 2) 34 #[.int .u32 0, .int .i64 0] ∧ Below w.heap.size w W
theorem own3_new (w : World) (x n y m : Int) : Own3 w x n y m (((w.alloc (.cells #[.int .u32 x, .int .i64 n] 34)).alloc (.cells #[.int .u32 y, .int .i64 m] 34)).alloc (.cells #[.int .u32 0, .int .i64 0] 34)) := by
  refine ⟨((Blk.new w _ _).alloc _).alloc _, ?_, ?_, (two_below w _ _).alloc (by simp; omega) _⟩
  · have := (Blk.new (w.alloc (.cells #[.int .u32 x, .int .i64 n] 34)) 34 #[.int .u32 y, .int .i64 m]).alloc (.cells #[.int .u32 0, .int .i64 0] 34)
    simpa using this
  · have := Blk.new ((w.alloc (.cells #[.int .u32 x, .int .i64 n] 34)).alloc (.cells #[.int .u32 y, .int .i64 m] 34)) 34 #[.int .u32 0, .int .i64 0]
    simpa using this
theorem Own3.below {w W W' : World} {x n y m : Int} (h : Own3 w x n y m W) (hb : Below W.heap.size W W') : Own3 w x n y m W' :=
  ⟨h.1.below hb h.1.lt, h.2.1.below hb h.2.1.lt, h.2.2.1.below hb h.2.2.1.lt, h.2.2.2.trans (hb.mono h.2.2.2.size)⟩


end Go.Proofs.Ytghkacciihocdaa
