/- Contracts of layer 2's program: Has, Len, compare, Order. -/
import Derived.Test.YtfbfdjcdjogefaaDoorD2
import Derived.Test.YtfbfdjcdjogefaaDoorShelf
namespace Go.Proofs.YtfbfdjcdjogefaaDoor
open Go Go.RowKit Go.Sort
attribute [local go_sem] Oper.semAt_some
attribute [local irreducible] wpQuiet

theorem has_cut {x n a : Int} (h : 0 ≤ n ∧ n ≤ 32) : hasP x n a ↔ cutTo a n.toNat = x := by
  constructor
  · rintro ⟨h1, h2⟩
    rw [← h1.2.2]; unfold cutTo; rw [h2]
  · intro e
    refine ⟨⟨h.1, h.2, ?_⟩, ?_⟩
    · rw [← e, cut_cut]
    · rw [← e, top_cutTo]

theorem lead_mask : ∀ n : Nat, n ≤ 32 → (32 - (Lib.bitLen (4294967295 - maskOf n).toNat : Int)) = n := by decide
theorem bitLenAux_le : ∀ (k f x : Nat), x < 2 ^ k → Lib.bitLenAux f x ≤ k
  | _, 0, _, _ => by simp [Lib.bitLenAux]
  | 0, f + 1, x, h => by
    have : x = 0 := by simpa using h
    simp [Lib.bitLenAux, this]
  | k + 1, f + 1, x, h => by
    simp only [Lib.bitLenAux]
    split
    · omega
    · have := bitLenAux_le k f (x / 2) (by rw [Nat.pow_succ] at h; omega)
      omega

theorem xor_max (m : Int) (m0 : 0 ≤ m) (m1 : m < 4294967296) : bits .xor .u32 IntKind.u32.max m = 4294967295 - m := by
  obtain ⟨x, rfl⟩ := Int.eq_ofNat_of_zero_le m0
  have hx : x < 2 ^ 32 := by omega
  have hm : (IntKind.u32.max : Int) = ((2 ^ 32 - 1 : Nat) : Int) := by decide
  have h1 : BitVec.ofNat IntKind.u32.bits (2 ^ 32 - 1) = BitVec.allOnes IntKind.u32.bits := by decide
  have hx' : x % 2 ^ IntKind.u32.bits = x := Nat.mod_eq_of_lt hx
  rw [hm]
  simp only [bits, BitVec.ofInt_natCast, h1, BitVec.allOnes_xor, BitVec.toNat_not, BitVec.toNat_ofNat, hx']
  rw [IntKind.wrap_u32]
  have : 2 ^ IntKind.u32.bits = 4294967296 := by decide
  rw [this]
  omega

set_option maxHeartbeats 800000 in
theorem len2_any (m : Int) (m0 : 0 ≤ m) (m1 : m < 4294967296) (w : World) :
    Calls Tryd.prog 36 #[.int .u32 m] w fun e w' => ((∃ k : Nat, k ≤ 32 ∧ maskOf k = m ∧ e = .returned (.tuple #[.int .i64 k, .int .i64 0])) ∨ ((∀ k, k ≤ 32 → maskOf k ≠ m) ∧ e = .returned (.tuple #[.int .i64 0, .int .i64 120]))) ∧ w = w' := by
  obtain ⟨q, hq⟩ : ∃ q : Nat, q = Lib.bitLen (4294967295 - m).toNat := ⟨_, rfl⟩
  have hle : q ≤ 32 := by rw [hq]; exact bitLenAux_le 32 64 _ (by omega)
  have hx := xor_max m m0 m1
  have HX := Lib.hid hx
  have hr : okA (32 - q) = 0 := if_pos (by omega)
  have hm : maskA (32 - q) = maskOf (32 - q) := by unfold maskA; rw [if_pos (by omega)]; congr 1; omega
  by_cases he : maskOf (32 - q) = m
  · have HE := Lib.hid he
    have HM := Lib.hid hm
    have HR := Lib.hid hr
    have HQ := Lib.hid hq
    clear he hm hr hx hq
    go_enter Tryd.func36, Tryd.ntmps36
    go_wp2_with fail
    rw [HX.out]
    refine (Tryd.bits_LeadingZeros32 (4294967295 - m) _ (by omega) (by omega)).mono ?_
    rintro e w1 ⟨rfl, rfl⟩
    rw [← HQ.out]
    go_wp2_with fail
    refine (mask_any _ _).mono ?_
    rintro e w1 ⟨rfl, rfl⟩
    rw [HM.out, HE.out]
    go_wp2_with fail
    go_ret2
    exact ⟨.inl ⟨32 - q, by omega, HE.out, by rw [Int.natCast_sub hle]; rfl⟩, rfl⟩
  · have hn : ∀ k, k ≤ 32 → maskOf k ≠ m := fun k hk e => he (by
      have h1 := lead_mask k hk
      rw [e, ← hq] at h1
      rw [show 32 - q = k from by omega]
      exact e)
    have HN := Lib.hid hn
    have hb : (maskOf (32 - q) != m) = true := by simpa using he
    have HM := Lib.hid hm
    have HQ := Lib.hid hq
    clear he hm hr hx hq hn
    go_enter Tryd.func36, Tryd.ntmps36
    go_wp2_with fail
    rw [HX.out]
    refine (Tryd.bits_LeadingZeros32 (4294967295 - m) _ (by omega) (by omega)).mono ?_
    rintro e w1 ⟨rfl, rfl⟩
    rw [← HQ.out]
    go_wp2_with fail
    refine (mask_any _ _).mono ?_
    rintro e w1 ⟨rfl, rfl⟩
    rw [HM.out]
    go_wp2_with fail
    go_ret2
    exact ⟨.inr ⟨HN.out, rfl⟩, rfl⟩
end Go.Proofs.YtfbfdjcdjogefaaDoor
