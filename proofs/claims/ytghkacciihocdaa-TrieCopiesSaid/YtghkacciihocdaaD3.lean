/- Merged by tools/merge.py: D1, D2, D3. -/
import Derived.Test.YtghkacciihocdaaC4
import Derived.Laws.BitsLemmas
import Derived.Laws.BitsAll
import Derived.Laws.BitsAllLaws
import Derived.Laws.ShiftsVarLaws
import Derived.Lib.BitFns
import Derived.Test.YtghkacciihocdaaShelf
namespace Go.Proofs.Ytghkacciihocdaa
open Go Go.RowKit

theorem wrap_u32_in (n : Int) (h0 : 0 ≤ n) (h1 : n < 2 ^ 32) : IntKind.u32.wrap n = n := by
  rw [IntKind.wrap_u32]; omega

theorem maskOf_eq : ∀ n, n ≤ 32 → maskOf n = 4294967296 - wgt n := by decide

/-- The mask of a length, as Go shifts it. -/
theorem mask_shift : ∀ n : Nat, n ≤ 32 → (4294967295 * 2 ^ (32 - n) : Int) % 4294967296 = maskOf n := by decide

theorem nat_and_mask (a k : Nat) (hk : k ≤ 32) (ha : a < 2 ^ 32) : a &&& (2 ^ 32 - 2 ^ k) = a / 2 ^ k * 2 ^ k := by
  have hm : 2 ^ 32 - 2 ^ k = (2 ^ (32 - k) - 1) * 2 ^ k := by
    rw [Nat.sub_mul, ← Nat.pow_add, show 32 - k + k = 32 from by omega, Nat.one_mul]
  rw [hm]
  apply Nat.eq_of_testBit_eq
  intro i
  rw [Nat.testBit_and, Nat.testBit_mul_two_pow, Nat.testBit_mul_two_pow, Nat.testBit_div_two_pow, Nat.testBit_two_pow_sub_one]
  by_cases h : k ≤ i
  · rw [Nat.sub_add_cancel h]
    by_cases h2 : i < 32
    · simp [h]; intro _; omega
    · have : a.testBit i = false := Nat.testBit_lt_two_pow (Nat.lt_of_lt_of_le ha (Nat.pow_le_pow_right (by decide) (by omega)))
      simp [this]
  · simp [h]

theorem wgt_nat (n : Nat) : wgt n = ((2 ^ (32 - n) : Nat) : Int) := rfl

theorem and_mask (a : Int) (n : Nat) (hn : n ≤ 32) (h0 : 0 ≤ a) (h1 : a < 4294967296) : bits .and .u32 a (maskOf n) = cutTo a n := by
  obtain ⟨x, rfl⟩ := Int.eq_ofNat_of_zero_le h0
  have hx : x < 2 ^ 32 := by omega
  have hp : 2 ^ (32 - n) ≤ 2 ^ 32 := Nat.pow_le_pow_right (by decide) (by omega)
  have hpos : 0 < 2 ^ (32 - n) := Nat.pow_pos (by decide)
  have hm : maskOf n = ((2 ^ 32 - 2 ^ (32 - n) : Nat) : Int) := by
    rw [maskOf_eq n hn, wgt_nat, Int.natCast_sub hp]
    rfl
  rw [hm, (bits_nat .u32 32 (by decide) wrap_u32_in x _ hx (by omega)).1, nat_and_mask x _ (by omega) hx]
  unfold cutTo top
  rw [wgt_nat]
  simp

theorem cut_mod (a : Int) (n : Nat) : a - cutTo a n = a % wgt n := by
  unfold cutTo top
  have := Int.mul_ediv_add_emod a (wgt n)
  rw [Int.mul_comm] at this
  omega

theorem nat_andNot_mask (a k : Nat) : a &&& (2 ^ k - 1) = a - a / 2 ^ k * 2 ^ k := by
  rw [Nat.and_two_pow_sub_one_eq_mod]
  have := Nat.div_add_mod a (2 ^ k)
  rw [Nat.mul_comm] at this
  omega

theorem andNot_bits (a b : Nat) (ha : a < 2 ^ 32) (hb : b < 2 ^ 32) : bits .andNot .u32 a b = ((a &&& (2 ^ 32 - 1 - b) : Nat) : Int) := by
  have h : a &&& (2 ^ 32 - 1 - b) < 2 ^ 32 := Nat.lt_of_le_of_lt Nat.and_le_left ha
  have ha' : a % 2 ^ IntKind.u32.bits = a := Nat.mod_eq_of_lt ha
  have hb' : b % 2 ^ IntKind.u32.bits = b := Nat.mod_eq_of_lt hb
  simp only [bits, BitVec.ofInt_natCast, BitVec.toNat_and, BitVec.toNat_not, BitVec.toNat_ofNat, ha', hb']
  exact wrap_u32_in _ (Int.natCast_nonneg _) (by exact_mod_cast h)

theorem andNot_mask (a : Int) (n : Nat) (hn : n ≤ 32) (h0 : 0 ≤ a) (h1 : a < 4294967296) : bits .andNot .u32 a (maskOf n) = a - cutTo a n := by
  obtain ⟨x, rfl⟩ := Int.eq_ofNat_of_zero_le h0
  have hx : x < 2 ^ 32 := by omega
  have hp : 2 ^ (32 - n) ≤ 2 ^ 32 := Nat.pow_le_pow_right (by decide) (by omega)
  have hpos : 0 < 2 ^ (32 - n) := Nat.pow_pos (by decide)
  have hm : maskOf n = ((2 ^ 32 - 2 ^ (32 - n) : Nat) : Int) := by
    rw [maskOf_eq n hn, wgt_nat, Int.natCast_sub hp]
    rfl
  rw [hm, andNot_bits x _ hx (by omega), show 2 ^ 32 - 1 - (2 ^ 32 - 2 ^ (32 - n)) = 2 ^ (32 - n) - 1 from by omega, nat_andNot_mask x _]
  have hle : x / 2 ^ (32 - n) * 2 ^ (32 - n) ≤ x := Nat.div_mul_le_self _ _
  rw [Int.natCast_sub hle]
  unfold cutTo top
  rw [wgt_nat]
  simp

theorem and_one (x : Int) (h0 : 0 ≤ x) (h1 : x < 4294967296) : bits .and .u32 x 1 = x % 2 :=
  bits_mask .u32 32 (by decide) wrap_u32_in 1 (by decide) x h0 h1

/-- One bit more. -/
theorem cut_next (a : Int) (n : Nat) (h : n < 32) : cutTo a (n + 1) = cutTo a n + bitN a n * wgt (n + 1) := by
  unfold cutTo
  rw [top_next a n h, wgt_step n h, Int.add_mul, Int.mul_assoc, Int.mul_left_comm]

theorem or_bit (a : Int) (n : Nat) (hn : n < 32) (h0 : 0 ≤ a) (h1 : a < 4294967296) : bits .or .u32 (cutTo a n) (bitN a n * wgt (n + 1)) = cutTo a (n + 1) := by
  rw [cut_next a n hn]
  have hb := bitN_range a n
  have hs := wgt_step n hn
  have hp := wgt_pos (n + 1)
  have hw : wgt n = ((2 : Int) ^ (32 - n)) := by rw [wgt_nat]; simp
  have hle := wgt_le n
  refine bits_join .u32 32 (by decide) wrap_u32_in (32 - n) _ _ (cutTo_nonneg a n h0) ?_ (by have := cutTo_lt a n h1; omega) ?_ ?_ ?_
  · rw [← hw]; unfold cutTo; exact Int.mul_emod_left _ _
  · exact Int.mul_nonneg hb.1 (Int.le_of_lt hp)
  · rw [← hw]
    rcases (show bitN a n = 0 ∨ bitN a n = 1 by omega) with h | h <;> rw [h] <;> omega
  · rcases (show bitN a n = 0 ∨ bitN a n = 1 by omega) with h | h <;> rw [h] <;> omega

/-- Bit number i as Go shifts it down. -/
theorem bit_shift (a : Int) (i : Nat) (hi : i < 32) : a / 2 ^ (31 - i) % 2 = bitN a i := by
  unfold bitN top wgt
  rw [show 32 - (i + 1) = 31 - i from by omega]
  simp
end Go.Proofs.Ytghkacciihocdaa

namespace Go.Proofs.Ytghkacciihocdaa
open Go Go.RowKit
attribute [local go_sem] Oper.semAt_some

/-- The mask, or an error, of any number. -/
def maskA (n : Int) : Int := if 0 ≤ n ∧ n ≤ 32 then maskOf n.toNat else 0
def okA (n : Int) : Int := if 0 ≤ n ∧ n ≤ 32 then 0 else 2

set_option maxHeartbeats 800000 in
theorem mask_any (n : Int) (w : World) :
    Calls Try.prog 80 #[.int .i64 n] w fun e w' => e = .returned (.tuple #[.int .u32 (maskA n), .int .i64 (okA n)]) ∧ w = w' := by
  by_cases h : 0 ≤ n ∧ n ≤ 32
  · have e1 : maskA n = maskOf n.toNat := if_pos h
    have e2 : okA n = 0 := if_pos h
    obtain ⟨h0, h1⟩ := h
    have hs := mask_shift n.toNat (by omega)
    have hn : (32 - n).toNat = 32 - n.toNat := by omega
    rw [e1, e2, ← hs, ← hn]
    clear e1 e2 hs hn
    have g0 : ¬ n < 0 := by omega
    have g1 : ¬ 32 < n := by omega
    go_enter Try.func80, Try.ntmps80
    go_wp2
    go_ret2
    exact ⟨rfl, rfl⟩
  · have e1 : maskA n = 0 := if_neg h
    have e2 : okA n = 2 := if_neg h
    rw [e1, e2]
    clear e1 e2
    by_cases g0 : n < 0
    · go_enter Try.func80, Try.ntmps80
      go_wp2
      go_ret2
      exact ⟨rfl, rfl⟩
    · have g1 : 32 < n := by omega
      go_enter Try.func80, Try.ntmps80
      go_wp2
      go_ret2
      exact ⟨rfl, rfl⟩

/-- Check's answer. -/
def chk (x n : Int) : Int := if right x n then 0 else 2

/-- What is cut by the mask of any number. -/
def rest (x n : Int) : Int := bits .andNot .u32 x (maskA n)
theorem rest_in {x n : Int} (h : 0 ≤ n ∧ n ≤ 32) (x0 : 0 ≤ x) (x1 : x < 4294967296) : rest x n = 0 ↔ right x n := by
  unfold rest
  rw [show maskA n = maskOf n.toNat from if_pos h, andNot_mask x n.toNat (by omega) x0 x1]
  constructor
  · intro e; exact ⟨h.1, h.2, by omega⟩
  · intro e; have := e.2.2; omega

set_option maxHeartbeats 800000 in
theorem check_any (x n : Int) (x0 : 0 ≤ x) (x1 : x < 4294967296) (w : World) :
    Calls Try.prog 66 #[pfx x n] w fun e w' => e = .returned (.int .i64 (chk x n)) ∧ Below w.heap.size w w' := by
  have HBW : Hid (Below w.heap.size w (w.alloc (.cells #[.int .u32 x, .int .i64 n] 34))) := (Below.refl _ _).alloc (Nat.le_refl _) _
  by_cases hz : rest x n = 0
  · have hc : chk x n = okA n := by
      unfold chk okA
      by_cases h : 0 ≤ n ∧ n ≤ 32
      · rw [if_pos h, if_pos ((rest_in h x0 x1).1 hz)]
      · rw [if_neg h, if_neg (fun e => h ⟨e.1, e.2.1⟩)]
    have ht : (bits .andNot .u32 x (maskA n) != 0) = false := by
      have : bits .andNot .u32 x (maskA n) = 0 := hz
      rw [this]; rfl
    have HC := Lib.hid hc
    clear hc hz
    go_enter Try.func66, Try.ntmps66
    go_wp2_with fail
    refine (mask_any n _).mono ?_
    rintro e w1 ⟨rfl, rfl⟩
    go_wp2_with fail
    go_ret
    exact ⟨by rw [HC.out]; rfl, HBW.out⟩
  · have hc : chk x n = 2 := by
      unfold chk
      by_cases h : 0 ≤ n ∧ n ≤ 32
      · rw [if_neg (fun e => hz ((rest_in h x0 x1).2 e))]
      · rw [if_neg (fun e => h ⟨e.1, e.2.1⟩)]
    have ht : (bits .andNot .u32 x (maskA n) != 0) = true := by
      have : ¬ bits .andNot .u32 x (maskA n) = 0 := hz
      simpa using this
    have HC := Lib.hid hc
    clear hc hz
    go_enter Try.func66, Try.ntmps66
    go_wp2_with fail
    refine (mask_any n _).mono ?_
    rintro e w1 ⟨rfl, rfl⟩
    go_wp2_with fail
    go_ret
    exact ⟨by rw [HC.out]; rfl, HBW.out⟩

theorem ret_i64 {a b : Int} (h : a = b) : Ending.returned (.int .i64 a) = .returned (.int .i64 b) := by rw [h]
theorem wrap64_in (x : Int) (h0 : 0 ≤ x) (h1 : x < 4294967296) : wrap64 x = x := by unfold wrap64; omega

/-- Of's prefix, or nothing. -/
def ofA (a n : Int) : Int := if 0 ≤ n ∧ n ≤ 32 then cutTo a n.toNat else 0
def ofL (n : Int) : Int := if 0 ≤ n ∧ n ≤ 32 then n else 0

set_option maxHeartbeats 800000 in
theorem of2_any (a n : Int) (a0 : 0 ≤ a) (a1 : a < 4294967296) (w : World) :
    Calls Try.prog 97 #[.int .u32 a, .int .i64 n] w fun e w' => e = .returned (.tuple #[pfx (ofA a n) (ofL n), .int .i64 (okA n)]) ∧ Below w.heap.size w w' := by
  by_cases h : 0 ≤ n ∧ n ≤ 32
  · have e1 : ofA a n = bits .and .u32 a (maskA n) := by
      unfold ofA maskA; rw [if_pos h, if_pos h, and_mask a n.toNat (by omega) a0 a1]
    have e2 : okA n = 0 := if_pos h
    have e3 : ofL n = n := if_pos h
    rw [e1, e2, e3]
    go_enter Try.func97, Try.ntmps97
    go_wp2_with fail
    refine (mask_any n _).mono ?_
    rintro e w1 ⟨rfl, rfl⟩
    have ht : (okA n != 0) = false := by rw [e2]; rfl
    clear e1 e2 e3
    go_wp2_with fail
    exact bodyPost_ret (v := .tuple #[pfx (bits .and .u32 a (maskA n)) n, .int .i64 0]) (by simp [results, Try.results97, go_sem, pfx]) rfl ⟨rfl, (Below.refl _ _).alloc (Nat.le_refl _) _⟩
  · have e1 : ofA a n = 0 := if_neg h
    have e2 : okA n = 2 := if_neg h
    have e3 : ofL n = 0 := if_neg h
    rw [e1, e2, e3]
    go_enter Try.func97, Try.ntmps97
    go_wp2_with fail
    refine (mask_any n _).mono ?_
    rintro e w1 ⟨rfl, rfl⟩
    rw [e2]
    clear e1 e2 e3
    go_wp2_with fail
    exact bodyPost_ret (v := .tuple #[pfx 0 0, .int .i64 2]) (by simp [results, Try.results97, go_sem, pfx]) rfl ⟨rfl, (Below.refl _ _).alloc (Nat.le_refl _) _⟩

set_option maxHeartbeats 800000 in
theorem bit2_any (a i : Int) (a0 : 0 ≤ a) (a1 : a < 4294967296) (w : World) :
    Calls Try.prog 89 #[.int .u32 a, .int .i64 i] w fun e w' => e = .returned (.int .i64 (bitOf a i)) ∧ w = w' := by
  by_cases h0 : i < 0
  · have hb : bitOf a i = 0 := by unfold bitOf; rw [if_pos (.inl h0)]
    rw [hb]
    clear hb
    go_enter Try.func89, Try.ntmps89
    go_wp2_with fail
    go_ret
    exact ⟨rfl, rfl⟩
  by_cases h1 : 32 ≤ i
  · have hb : bitOf a i = 0 := by unfold bitOf; rw [if_pos (.inr (by omega))]
    rw [hb]
    clear hb
    go_enter Try.func89, Try.ntmps89
    go_wp2_with fail
    go_ret
    exact ⟨rfl, rfl⟩
  have hb : bitOf a i = bitN a i.toNat := by unfold bitOf; rw [if_neg (by omega)]
  have hs := bit_shift a i.toNat (by omega)
  have hq : 0 ≤ a / 2 ^ (31 - i).toNat ∧ a / 2 ^ (31 - i).toNat < 4294967296 := by
    have hp : (0 : Int) < 2 ^ (31 - i).toNat := Int.pow_pos (by decide)
    exact ⟨Int.ediv_nonneg a0 (Int.le_of_lt hp), Int.lt_of_le_of_lt (Int.ediv_le_self _ a0) a1⟩
  have ho := and_one _ hq.1 hq.2
  rw [hb, ← hs, show 31 - i.toNat = (31 - i).toNat from by omega]
  have HO := Lib.hid ho
  clear hb hs ho
  go_enter Try.func89, Try.ntmps89
  go_wp2_with fail
  go_ret
  exact ⟨ret_i64 (by rw [HO.out]; exact wrap64_in _ (by omega) (by omega)), rfl⟩
end Go.Proofs.Ytghkacciihocdaa

namespace Go.Proofs.Ytghkacciihocdaa
open Go Go.RowKit Go.Sort
attribute [local go_sem] Oper.semAt_some
attribute [local irreducible] wpQuiet

theorem has_cut {x n a : Int} (h : 0 ≤ n ∧ n ≤ 32) : hasP x n a ↔ cutTo a n.toNat = x := by
  constructor
  · rintro ⟨h1, h2⟩
    rw [← h1.2.2]; unfold cutTo; rw [h2]
  · intro e
    refine ⟨⟨h.1, h.2, ?_⟩, ?_⟩
    · rw [← e, cut_cut]
    · rw [← e, top_cutTo]

set_option maxHeartbeats 800000 in
theorem has2_any (x n a : Int) (a0 : 0 ≤ a) (a1 : a < 4294967296) (w : World) :
    Calls Try.prog 91 #[pfx x n, .int .u32 a] w fun e w' => e = .returned (.bool (decide (hasP x n a))) ∧ Below w.heap.size w w' := by
  by_cases h : 0 ≤ n ∧ n ≤ 32
  · have e1 : ofA a n = cutTo a n.toNat := if_pos h
    have e2 : okA n = 0 := if_pos h
    have e3 : ofL n = n := if_pos h
    by_cases hc : cutTo a n.toNat = x
    · have hd : decide (hasP x n a) = true := decide_eq_true ((has_cut h).2 hc)
      rw [hd]
      clear hd
      go_enter Try.func91, Try.ntmps91
      go_wp2_with fail
      refine (of2_any a n a0 a1 _).mono ?_
      rw [e1, e2, e3, hc]
      rintro e w1 ⟨rfl, hb1⟩
      have b1 := (Blk.new w 34 #[.int .u32 x, .int .i64 n]).below hb1 (by simp)
      have c0 := b1.cell 0
      have c1 := b1.cell 1
      have hz := b1.lt
      have hbw : Below w.heap.size w w1 := ((Below.refl w.heap.size w).alloc (Nat.le_refl _) (.cells #[.int .u32 x, .int .i64 n] 34)).trans (hb1.mono (by simp))
      have HB := Lib.hid hbw
      simp only [List.getElem?_toArray, List.getElem?_cons_zero, List.getElem?_cons_succ] at c0 c1
      clear b1 hb1 hbw e1 e2 e3 hc
      go_wp2_with fail
      go_ret
      exact ⟨rfl, (HB.out.alloc HB.out.size _)⟩
    · have hd : decide (hasP x n a) = false := decide_eq_false (fun e => hc ((has_cut h).1 e))
      rw [hd]
      clear hd
      go_enter Try.func91, Try.ntmps91
      go_wp2_with fail
      refine (of2_any a n a0 a1 _).mono ?_
      rw [e1, e2, e3]
      rintro e w1 ⟨rfl, hb1⟩
      have b1 := (Blk.new w 34 #[.int .u32 x, .int .i64 n]).below hb1 (by simp)
      have c0 := b1.cell 0
      have c1 := b1.cell 1
      have hz := b1.lt
      have hbw : Below w.heap.size w w1 := ((Below.refl w.heap.size w).alloc (Nat.le_refl _) (.cells #[.int .u32 x, .int .i64 n] 34)).trans (hb1.mono (by simp))
      have HB := Lib.hid hbw
      simp only [List.getElem?_toArray, List.getElem?_cons_zero, List.getElem?_cons_succ] at c0 c1
      clear b1 hb1 hbw e1 e2 e3
      go_wp2_with fail
      go_ret
      exact ⟨rfl, (HB.out.alloc HB.out.size _)⟩
  · have e2 : okA n = 2 := if_neg h
    have hd : decide (hasP x n a) = false := decide_eq_false (fun e => h ⟨e.1.1, e.1.2.1⟩)
    rw [hd]
    clear hd
    go_enter Try.func91, Try.ntmps91
    go_wp2_with fail
    refine (of2_any a n a0 a1 _).mono ?_
    rw [e2]
    rintro e w1 ⟨rfl, hb1⟩
    have hbw : Below w.heap.size w w1 := ((Below.refl w.heap.size w).alloc (Nat.le_refl _) (.cells #[.int .u32 x, .int .i64 n] 34)).trans (hb1.mono (by simp))
    have HB := Lib.hid hbw
    clear hbw e2 hb1
    go_wp2_with fail
    go_ret
    exact ⟨rfl, (HB.out.alloc HB.out.size _)⟩

theorem lead_mask : ∀ n : Nat, n ≤ 32 → (32 - (Lib.bitLen (4294967295 - maskOf n).toNat : Int)) = n := by decide
theorem bitLenAux_le : ∀ (k f x : Nat), x < 2 ^ k → Lib.bitLenAux f x ≤ k
  | _, 0, _, _ => by simp [Lib.bitLenAux]
  | 0, f + 1, x, h => by
    have : x = 0 := by simpa using h
    simp [Lib.bitLenAux, this]
  | k + 1, f + 1, x, h => by
    simp only [Lib.bitLenAux]
    split
    · omega
    · have := bitLenAux_le k f (x / 2) (by rw [Nat.pow_succ] at h; omega)
      omega

theorem xor_max (m : Int) (m0 : 0 ≤ m) (m1 : m < 4294967296) : bits .xor .u32 IntKind.u32.max m = 4294967295 - m := by
  obtain ⟨x, rfl⟩ := Int.eq_ofNat_of_zero_le m0
  have hx : x < 2 ^ 32 := by omega
  have hm : (IntKind.u32.max : Int) = ((2 ^ 32 - 1 : Nat) : Int) := by decide
  have h1 : BitVec.ofNat IntKind.u32.bits (2 ^ 32 - 1) = BitVec.allOnes IntKind.u32.bits := by decide
  have hx' : x % 2 ^ IntKind.u32.bits = x := Nat.mod_eq_of_lt hx
  rw [hm]
  simp only [bits, BitVec.ofInt_natCast, h1, BitVec.allOnes_xor, BitVec.toNat_not, BitVec.toNat_ofNat, hx']
  rw [IntKind.wrap_u32]
  have : 2 ^ IntKind.u32.bits = 4294967296 := by decide
  rw [this]
  omega

end Go.Proofs.Ytghkacciihocdaa
