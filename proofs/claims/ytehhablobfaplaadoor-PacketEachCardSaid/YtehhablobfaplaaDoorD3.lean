/- Merged by tools/merge.py: D1, D2, D3. -/
import Derived.Test.YtehhablobfaplaaDoorC4
import Derived.Laws.BitsLemmas
import Derived.Laws.BitsAll
import Derived.Laws.BitsAllLaws
import Derived.Laws.ShiftsVarLaws
import Derived.Lib.BitFns
import Derived.Test.YtehhablobfaplaaDoorShelf
namespace Go.Proofs.YtehhablobfaplaaDoor
open Go Go.RowKit

theorem wrap_u32_in (n : Int) (h0 : 0 ≤ n) (h1 : n < 2 ^ 32) : IntKind.u32.wrap n = n := by
  rw [IntKind.wrap_u32]; omega

theorem maskOf_eq : ∀ n, n ≤ 32 → maskOf n = 4294967296 - wgt n := by decide

/-- The mask of a length, as Go shifts it. -/
theorem mask_shift : ∀ n : Nat, n ≤ 32 → (4294967295 * 2 ^ (32 - n) : Int) % 4294967296 = maskOf n := by decide

theorem nat_and_mask (a k : Nat) (hk : k ≤ 32) (ha : a < 2 ^ 32) : a &&& (2 ^ 32 - 2 ^ k) = a / 2 ^ k * 2 ^ k := by
  have hm : 2 ^ 32 - 2 ^ k = (2 ^ (32 - k) - 1) * 2 ^ k := by
    rw [Nat.sub_mul, ← Nat.pow_add, show 32 - k + k = 32 from by omega, Nat.one_mul]
  rw [hm]
  apply Nat.eq_of_testBit_eq
  intro i
  rw [Nat.testBit_and, Nat.testBit_mul_two_pow, Nat.testBit_mul_two_pow, Nat.testBit_div_two_pow, Nat.testBit_two_pow_sub_one]
  by_cases h : k ≤ i
  · rw [Nat.sub_add_cancel h]
    by_cases h2 : i < 32
    · simp [h]; intro _; omega
    · have : a.testBit i = false := Nat.testBit_lt_two_pow (Nat.lt_of_lt_of_le ha (Nat.pow_le_pow_right (by decide) (by omega)))
      simp [this]
  · simp [h]

theorem wgt_nat (n : Nat) : wgt n = ((2 ^ (32 - n) : Nat) : Int) := rfl

theorem and_mask (a : Int) (n : Nat) (hn : n ≤ 32) (h0 : 0 ≤ a) (h1 : a < 4294967296) : bits .and .u32 a (maskOf n) = cutTo a n := by
  obtain ⟨x, rfl⟩ := Int.eq_ofNat_of_zero_le h0
  have hx : x < 2 ^ 32 := by omega
  have hp : 2 ^ (32 - n) ≤ 2 ^ 32 := Nat.pow_le_pow_right (by decide) (by omega)
  have hpos : 0 < 2 ^ (32 - n) := Nat.pow_pos (by decide)
  have hm : maskOf n = ((2 ^ 32 - 2 ^ (32 - n) : Nat) : Int) := by
    rw [maskOf_eq n hn, wgt_nat, Int.natCast_sub hp]
    rfl
  rw [hm, (bits_nat .u32 32 (by decide) wrap_u32_in x _ hx (by omega)).1, nat_and_mask x _ (by omega) hx]
  unfold cutTo top
  rw [wgt_nat]
  simp

theorem cut_mod (a : Int) (n : Nat) : a - cutTo a n = a % wgt n := by
  unfold cutTo top
  have := Int.mul_ediv_add_emod a (wgt n)
  rw [Int.mul_comm] at this
  omega

theorem nat_andNot_mask (a k : Nat) : a &&& (2 ^ k - 1) = a - a / 2 ^ k * 2 ^ k := by
  rw [Nat.and_two_pow_sub_one_eq_mod]
  have := Nat.div_add_mod a (2 ^ k)
  rw [Nat.mul_comm] at this
  omega

theorem andNot_bits (a b : Nat) (ha : a < 2 ^ 32) (hb : b < 2 ^ 32) : bits .andNot .u32 a b = ((a &&& (2 ^ 32 - 1 - b) : Nat) : Int) := by
  have h : a &&& (2 ^ 32 - 1 - b) < 2 ^ 32 := Nat.lt_of_le_of_lt Nat.and_le_left ha
  have ha' : a % 2 ^ IntKind.u32.bits = a := Nat.mod_eq_of_lt ha
  have hb' : b % 2 ^ IntKind.u32.bits = b := Nat.mod_eq_of_lt hb
  simp only [bits, BitVec.ofInt_natCast, BitVec.toNat_and, BitVec.toNat_not, BitVec.toNat_ofNat, ha', hb']
  exact wrap_u32_in _ (Int.natCast_nonneg _) (by exact_mod_cast h)

theorem andNot_mask (a : Int) (n : Nat) (hn : n ≤ 32) (h0 : 0 ≤ a) (h1 : a < 4294967296) : bits .andNot .u32 a (maskOf n) = a - cutTo a n := by
  obtain ⟨x, rfl⟩ := Int.eq_ofNat_of_zero_le h0
  have hx : x < 2 ^ 32 := by omega
  have hp : 2 ^ (32 - n) ≤ 2 ^ 32 := Nat.pow_le_pow_right (by decide) (by omega)
  have hpos : 0 < 2 ^ (32 - n) := Nat.pow_pos (by decide)
  have hm : maskOf n = ((2 ^ 32 - 2 ^ (32 - n) : Nat) : Int) := by
    rw [maskOf_eq n hn, wgt_nat, Int.natCast_sub hp]
    rfl
  rw [hm, andNot_bits x _ hx (by omega), show 2 ^ 32 - 1 - (2 ^ 32 - 2 ^ (32 - n)) = 2 ^ (32 - n) - 1 from by omega, nat_andNot_mask x _]
  have hle : x / 2 ^ (32 - n) * 2 ^ (32 - n) ≤ x := Nat.div_mul_le_self _ _
  rw [Int.natCast_sub hle]
  unfold cutTo top
  rw [wgt_nat]
  simp

theorem and_one (x : Int) (h0 : 0 ≤ x) (h1 : x < 4294967296) : bits .and .u32 x 1 = x % 2 :=
  bits_mask .u32 32 (by decide) wrap_u32_in 1 (by decide) x h0 h1

/-- One bit more. -/
theorem cut_next (a : Int) (n : Nat) (h : n < 32) : cutTo a (n + 1) = cutTo a n + bitN a n * wgt (n + 1) := by
  unfold cutTo
  rw [top_next a n h, wgt_step n h, Int.add_mul, Int.mul_assoc, Int.mul_left_comm]

theorem or_bit (a : Int) (n : Nat) (hn : n < 32) (h0 : 0 ≤ a) (h1 : a < 4294967296) : bits .or .u32 (cutTo a n) (bitN a n * wgt (n + 1)) = cutTo a (n + 1) := by
  rw [cut_next a n hn]
  have hb := bitN_range a n
  have hs := wgt_step n hn
  have hp := wgt_pos (n + 1)
  have hw : wgt n = ((2 : Int) ^ (32 - n)) := by rw [wgt_nat]; simp
  have hle := wgt_le n
  refine bits_join .u32 32 (by decide) wrap_u32_in (32 - n) _ _ (cutTo_nonneg a n h0) ?_ (by have := cutTo_lt a n h1; omega) ?_ ?_ ?_
  · rw [← hw]; unfold cutTo; exact Int.mul_emod_left _ _
  · exact Int.mul_nonneg hb.1 (Int.le_of_lt hp)
  · rw [← hw]
    rcases (show bitN a n = 0 ∨ bitN a n = 1 by omega) with h | h <;> rw [h] <;> omega
  · rcases (show bitN a n = 0 ∨ bitN a n = 1 by omega) with h | h <;> rw [h] <;> omega

/-- Bit number i as Go shifts it down. -/
theorem bit_shift (a : Int) (i : Nat) (hi : i < 32) : a / 2 ^ (31 - i) % 2 = bitN a i := by
  unfold bitN top wgt
  rw [show 32 - (i + 1) = 31 - i from by omega]
  simp
end Go.Proofs.YtehhablobfaplaaDoor

namespace Go.Proofs.YtehhablobfaplaaDoor
open Go Go.RowKit
attribute [local go_sem] Oper.semAt_some

/-- The mask, or an error, of any number. -/
def maskA (n : Int) : Int := if 0 ≤ n ∧ n ≤ 32 then maskOf n.toNat else 0
def okA (n : Int) : Int := if 0 ≤ n ∧ n ≤ 32 then 0 else 2

/-- Check's answer. -/
def chk (x n : Int) : Int := if right x n then 0 else 2

/-- What is cut by the mask of any number. -/
def rest (x n : Int) : Int := bits .andNot .u32 x (maskA n)
theorem rest_in {x n : Int} (h : 0 ≤ n ∧ n ≤ 32) (x0 : 0 ≤ x) (x1 : x < 4294967296) : rest x n = 0 ↔ right x n := by
  unfold rest
  rw [show maskA n = maskOf n.toNat from if_pos h, andNot_mask x n.toNat (by omega) x0 x1]
  constructor
  · intro e; exact ⟨h.1, h.2, by omega⟩
  · intro e; have := e.2.2; omega

theorem ret_i64 {a b : Int} (h : a = b) : Ending.returned (.int .i64 a) = .returned (.int .i64 b) := by rw [h]
theorem wrap64_in (x : Int) (h0 : 0 ≤ x) (h1 : x < 4294967296) : wrap64 x = x := by unfold wrap64; omega

/-- Of's prefix, or nothing. -/
def ofA (a n : Int) : Int := if 0 ≤ n ∧ n ≤ 32 then cutTo a n.toNat else 0
def ofL (n : Int) : Int := if 0 ≤ n ∧ n ≤ 32 then n else 0

end Go.Proofs.YtehhablobfaplaaDoor

namespace Go.Proofs.YtehhablobfaplaaDoor
open Go Go.RowKit Go.Sort
attribute [local go_sem] Oper.semAt_some
attribute [local irreducible] wpQuiet

theorem has_cut {x n a : Int} (h : 0 ≤ n ∧ n ≤ 32) : hasP x n a ↔ cutTo a n.toNat = x := by
  constructor
  · rintro ⟨h1, h2⟩
    rw [← h1.2.2]; unfold cutTo; rw [h2]
  · intro e
    refine ⟨⟨h.1, h.2, ?_⟩, ?_⟩
    · rw [← e, cut_cut]
    · rw [← e, top_cutTo]

theorem lead_mask : ∀ n : Nat, n ≤ 32 → (32 - (Lib.bitLen (4294967295 - maskOf n).toNat : Int)) = n := by decide
theorem bitLenAux_le : ∀ (k f x : Nat), x < 2 ^ k → Lib.bitLenAux f x ≤ k
  | _, 0, _, _ => by simp [Lib.bitLenAux]
  | 0, f + 1, x, h => by
    have : x = 0 := by simpa using h
    simp [Lib.bitLenAux, this]
  | k + 1, f + 1, x, h => by
    simp only [Lib.bitLenAux]
    split
    · omega
    · have := bitLenAux_le k f (x / 2) (by rw [Nat.pow_succ] at h; omega)
      omega

theorem xor_max (m : Int) (m0 : 0 ≤ m) (m1 : m < 4294967296) : bits .xor .u32 IntKind.u32.max m = 4294967295 - m := by
  obtain ⟨x, rfl⟩ := Int.eq_ofNat_of_zero_le m0
  have hx : x < 2 ^ 32 := by omega
  have hm : (IntKind.u32.max : Int) = ((2 ^ 32 - 1 : Nat) : Int) := by decide
  have h1 : BitVec.ofNat IntKind.u32.bits (2 ^ 32 - 1) = BitVec.allOnes IntKind.u32.bits := by decide
  have hx' : x % 2 ^ IntKind.u32.bits = x := Nat.mod_eq_of_lt hx
  rw [hm]
  simp only [bits, BitVec.ofInt_natCast, h1, BitVec.allOnes_xor, BitVec.toNat_not, BitVec.toNat_ofNat, hx']
  rw [IntKind.wrap_u32]
  have : 2 ^ IntKind.u32.bits = 4294967296 := by decide
  rw [this]
  omega

end Go.Proofs.YtehhablobfaplaaDoor
