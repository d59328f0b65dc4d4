/- Merged by tools/merge.py: C1, C2, C3, C4. -/
import Derived.Test.YtehhablobfaplaaDoorA0
import Derived.Test.YtehhablobfaplaaDoorChecked
import Derived.ProofKit
import Derived.Lib.Hide
import Derived.WalkSmall
import Derived.Handy
import Derived.Lib.QuietBelow
import Derived.WalkLawsBesides
import Derived.BigQuiet
import Derived.Deep.QuietTactic
import Derived.Deep.DeepFit
namespace Go.Proofs.YtehhablobfaplaaDoor

/-- How much one place from the highest one on weighs: 2 to the 32 - n. -/
def wgt (n : Nat) : Int := ((2 ^ (32 - n) : Nat) : Int)
theorem wgt_pos (n : Nat) : 0 < wgt n := by
  unfold wgt
  exact Int.natCast_pos.2 (Nat.pow_pos (by decide))
theorem wgt_zero : wgt 0 = 4294967296 := by decide
theorem wgt_last : wgt 32 = 1 := by decide
theorem wgt_step (n : Nat) (h : n < 32) : wgt n = 2 * wgt (n + 1) := by
  unfold wgt
  rw [show 32 - n = (32 - (n + 1)) + 1 from by omega, Nat.pow_succ]
  omega

/-- The first n bits of an address, as a number. -/
def top (a : Int) (n : Nat) : Int := a / wgt n
/-- Bit number i. -/
def bitN (a : Int) (i : Nat) : Int := top a (i + 1) % 2
def bitOf (a i : Int) : Int := if i < 0 ∨ 31 < i then 0 else bitN a i.toNat

theorem top_zero (a : Int) (h0 : 0 ≤ a) (h1 : a < 4294967296) : top a 0 = 0 := by
  unfold top; rw [wgt_zero]; omega
theorem top_last (a : Int) : top a 32 = a := by unfold top; rw [wgt_last]; simp
theorem top_half (a : Int) (n : Nat) (h : n < 32) : top a n = top a (n + 1) / 2 := by
  unfold top
  have hp := wgt_pos (n + 1)
  rw [wgt_step n h, Int.mul_comm, Int.ediv_ediv, if_neg (by omega), Int.sub_zero]
theorem top_next (a : Int) (n : Nat) (h : n < 32) : top a (n + 1) = 2 * top a n + bitN a n := by
  rw [top_half a n h]
  unfold bitN
  omega
theorem bitN_range (a : Int) (i : Nat) : 0 ≤ bitN a i ∧ bitN a i ≤ 1 := by unfold bitN; omega
theorem top_nonneg (a : Int) (n : Nat) (h : 0 ≤ a) : 0 ≤ top a n := Int.ediv_nonneg h (Int.le_of_lt (wgt_pos _))
theorem top_lt (a : Int) (n : Nat) (h1 : a < 4294967296) : ∀ (_ : n ≤ 32), top a n < 4294967296 := by
  intro h
  unfold top
  have hp := wgt_pos n
  rcases Int.lt_or_le a 0 with ha | ha
  · have : a / wgt n < 0 := Int.ediv_neg_of_neg_of_pos ha hp
    omega
  · have := Int.ediv_le_self (wgt n) ha
    omega

/-- Two addresses have the same first n bits just if each of these bits is the same. -/
theorem top_same (a b : Int) (ha0 : 0 ≤ a) (ha1 : a < 4294967296) (hb0 : 0 ≤ b) (hb1 : b < 4294967296) : ∀ (n : Nat), n ≤ 32 → (top a n = top b n ↔ ∀ i, i < n → bitN a i = bitN b i)
  | 0, _ => by rw [top_zero a ha0 ha1, top_zero b hb0 hb1]; simp
  | n + 1, h => by
    have ih := top_same a b ha0 ha1 hb0 hb1 n (by omega)
    rw [top_next a n (by omega), top_next b n (by omega)]
    have ra := bitN_range a n
    have rb := bitN_range b n
    constructor
    · intro e i hi
      have h1 : top a n = top b n := by omega
      have h2 : bitN a n = bitN b n := by omega
      rcases Nat.lt_or_ge i n with hlt | hge
      · exact (ih.1 h1) i hlt
      · obtain rfl : i = n := by omega
        exact h2
    · intro e
      have h1 := ih.2 (fun i hi => e i (by omega))
      have h2 := e n (by omega)
      omega

/-- The address of which the first n bits are kept, the others 0. -/
def cutTo (a : Int) (n : Nat) : Int := top a n * wgt n
/-- The first n bits 1, the others 0. -/
def maskOf (n : Nat) : Int := cutTo 4294967295 n

theorem wgt_le (n : Nat) : wgt n ≤ 4294967296 := by
  unfold wgt
  have : 2 ^ (32 - n) ≤ 2 ^ 32 := Nat.pow_le_pow_right (by decide) (by omega)
  have h : (2 : Nat) ^ 32 = 4294967296 := by decide
  omega

theorem cutTo_le (a : Int) (n : Nat) : cutTo a n ≤ a ∧ a < cutTo a n + wgt n := by
  unfold cutTo top
  have h1 := Int.mul_ediv_add_emod a (wgt n)
  have h2 := Int.emod_nonneg a (Int.ne_of_gt (wgt_pos n))
  have h3 := Int.emod_lt_of_pos a (wgt_pos n)
  rw [Int.mul_comm] at h1
  omega
theorem cutTo_nonneg (a : Int) (n : Nat) (h : 0 ≤ a) : 0 ≤ cutTo a n := Int.mul_nonneg (top_nonneg a n h) (Int.le_of_lt (wgt_pos n))

theorem top_mul (k : Int) (n : Nat) : top (k * wgt n) n = k := by
  unfold top
  exact Int.mul_ediv_cancel k (Int.ne_of_gt (wgt_pos n))
theorem top_cutTo (a : Int) (n : Nat) : top (cutTo a n) n = top a n := top_mul _ n

/-- What may be: so many bits, and none behind them is 1. -/
def right (a n : Int) : Prop := 0 ≤ n ∧ n ≤ 32 ∧ cutTo a n.toNat = a
instance (a n : Int) : Decidable (right a n) := inferInstanceAs (Decidable (_ ∧ _ ∧ _))

/-- None of the bits from n on is 1 just if nothing is cut. -/
theorem cut_iff (a : Int) (n : Nat) (hn : n ≤ 32) : cutTo a n = a ↔ ∀ i, n ≤ i → i < 32 → bitN a i = 0 := by
  have key : ∀ (k : Nat), k ≤ 32 - n → ((∀ i, n ≤ i → i < n + k → bitN a i = 0) ↔ top a (n + k) * wgt (n + k) = cutTo a n) := by
    intro k
    induction k with
    | zero => intro _; simp [cutTo]; omega
    | succ k ih =>
      intro hk
      have ih := ih (by omega)
      have hs := wgt_step (n + k) (by omega)
      have ht := top_next a (n + k) (by omega)
      have hb := bitN_range a (n + k)
      have hle : top a (n + k) * wgt (n + k) ≥ cutTo a n := by
        have h1 := (cutTo_le a (n + k)).2
        have h2 : cutTo a n ≤ a := (cutTo_le a n).1
        have h3 : ∃ q : Int, cutTo a n = q * wgt (n + k) := by
          refine ⟨top a n * ((2 ^ k : Nat) : Int), ?_⟩
          unfold cutTo wgt
          rw [Int.mul_assoc, ← Int.natCast_mul, ← Nat.pow_add, show k + (32 - (n + k)) = 32 - n from by omega]
        obtain ⟨q, hq⟩ := h3
        have hp := wgt_pos (n + k)
        unfold cutTo at h1
        rw [hq] at h2 ⊢
        have : q * wgt (n + k) < (top a (n + k) + 1) * wgt (n + k) := by rw [Int.add_mul]; omega
        have := Int.lt_of_mul_lt_mul_right this (Int.le_of_lt hp)
        exact Int.mul_le_mul_of_nonneg_right (by omega) (Int.le_of_lt hp)
      have hexp : top a (n + (k + 1)) * wgt (n + (k + 1)) = top a (n + k) * wgt (n + k) + bitN a (n + k) * wgt (n + (k + 1)) := by
        rw [show n + (k + 1) = n + k + 1 from by omega, ht, hs, Int.add_mul, Int.mul_assoc, Int.mul_left_comm]
      have hp := wgt_pos (n + (k + 1))
      constructor
      · intro h
        have h1 := ih.1 (fun i hi hi2 => h i hi (by omega))
        have h2 := h (n + k) (by omega) (by omega)
        rw [hexp, h1, h2]; simp
      · intro h i hi hi2
        rw [hexp] at h
        have hb0 : bitN a (n + k) = 0 := by
          rcases Int.lt_or_le 0 (bitN a (n + k)) with hpos | hneg
          · have : 0 < bitN a (n + k) * wgt (n + (k + 1)) := Int.mul_pos hpos hp
            omega
          · omega
        rw [hb0] at h
        have h1 := ih.2 (by simpa using h)
        rcases Nat.lt_or_ge i (n + k) with hlt | hge
        · exact h1 i hi hlt
        · obtain rfl : i = n + k := by omega
          exact hb0
  have := key (32 - n) (by omega)
  rw [show n + (32 - n) = 32 from by omega, top_last, wgt_last] at this
  rw [this]
  constructor <;> intro h <;> omega

theorem wgt_split (k n : Nat) (h : k ≤ n) (hn : n ≤ 32) : wgt k = wgt n * ((2 ^ (n - k) : Nat) : Int) := by
  unfold wgt
  rw [← Int.natCast_mul, ← Nat.pow_add, show 32 - n + (n - k) = 32 - k from by omega]

theorem top_top (a : Int) (k n : Nat) (h : k ≤ n) (hn : n ≤ 32) : top a k = top a n / ((2 ^ (n - k) : Nat) : Int) := by
  have hp := wgt_pos n
  unfold top
  rw [wgt_split k n h hn, Int.ediv_ediv, if_neg (by omega), Int.sub_zero]

theorem top_of_cut (a : Int) (k n : Nat) (h : k ≤ n) (hn : n ≤ 32) : top (cutTo a n) k = top a k := by
  rw [top_top _ k n h hn, top_top a k n h hn, top_cutTo]

theorem cut_cut (a : Int) (n : Nat) : cutTo (cutTo a n) n = cutTo a n := by
  unfold cutTo
  rw [top_mul]

theorem bit_cut (a : Int) (n i : Nat) (hn : n ≤ 32) (hi : i < 32) : bitN (cutTo a n) i = if i < n then bitN a i else 0 := by
  split
  · rename_i h
    unfold bitN
    rw [top_of_cut a (i + 1) n (by omega) hn]
  · exact (cut_iff _ n hn).1 (cut_cut a n) i (by omega) hi

theorem bit_all : ∀ i, i < 32 → bitN 4294967295 i = 1 := by decide
theorem bit_mask (n i : Nat) (hn : n ≤ 32) (hi : i < 32) : bitN (maskOf n) i = if i < n then 1 else 0 := by
  unfold maskOf
  rw [bit_cut _ n i hn hi, bit_all i hi]

theorem cutTo_lt (a : Int) (n : Nat) (h : a < 4294967296) : cutTo a n < 4294967296 := by have := (cutTo_le a n).1; omega
theorem maskOf_range (n : Nat) : 0 ≤ maskOf n ∧ maskOf n < 4294967296 := ⟨cutTo_nonneg _ n (by decide), cutTo_lt _ n (by decide)⟩
theorem maskOf_inj (n m : Nat) (hn : n ≤ 32) (hm : m ≤ 32) (h : maskOf n = maskOf m) : n = m := by
  rcases Nat.lt_trichotomy n m with hlt | he | hlt
  · have h1 := bit_mask n n hn (by omega)
    have h2 := bit_mask m n hm (by omega)
    rw [h, h2, if_pos hlt, if_neg (by omega)] at h1
    omega
  · exact he
  · have h1 := bit_mask n m hn (by omega)
    have h2 := bit_mask m m hm (by omega)
    rw [h, h2, if_pos hlt, if_neg (by omega)] at h1
    omega

/-- Is the address in the prefix? -/
def hasP (x n a : Int) : Prop := right x n ∧ top x n.toNat = top a n.toNat
instance (x n a : Int) : Decidable (hasP x n a) := inferInstanceAs (Decidable (_ ∧ _))
end Go.Proofs.YtehhablobfaplaaDoor

namespace Go.Proofs.YtehhablobfaplaaDoor
open Go Go.RowKit
attribute [local go_sem] Oper.semAt_some

theorem bitOf_at (a : Int) (q : Nat) (h : q ≤ 31) : bitOf a q = bitN a q := by
  unfold bitOf; rw [if_neg (by omega)]; rfl

end Go.Proofs.YtehhablobfaplaaDoor

namespace Go.Proofs.YtehhablobfaplaaDoor
open Go Go.RowKit
attribute [local go_sem] Oper.semAt_some

end Go.Proofs.YtehhablobfaplaaDoor

namespace Go.Proofs.YtehhablobfaplaaDoor
open Go Go.RowKit Go.Sort
attribute [local go_sem] Oper.semAt_some

/-- A prefix as a value. -/
abbrev pfx (x n : Int) : Value := .agg #[.int .u32 x, .int .i64 n]

theorem two_below (w : World) (a b : Obj) : Below w.heap.size w ((w.alloc a).alloc b) := ((Below.refl _ _).alloc (Nat.le_refl _) _).alloc (by simp) _

def ordF (x n y m : Int) : Int := if x = y ∧ n = m then 0 else if x < y ∨ (x = y ∧ n < m) then -1 else 1

end Go.Proofs.YtehhablobfaplaaDoor
