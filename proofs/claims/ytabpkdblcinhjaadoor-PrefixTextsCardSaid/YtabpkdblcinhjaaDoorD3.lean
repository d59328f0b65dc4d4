/- Contracts of layer 2's program: Has, Len, compare, Order. -/
import Derived.Test.YtabpkdblcinhjaaDoorD2
import Derived.Test.YtabpkdblcinhjaaDoorShelf
namespace Go.Proofs.YtabpkdblcinhjaaDoor
open Go Go.RowKit Go.Sort
attribute [local go_sem] Oper.semAt_some
attribute [local irreducible] wpQuiet

theorem has_cut {x n a : Int} (h : 0 ≤ n ∧ n ≤ 32) : hasP x n a ↔ cutTo a n.toNat = x := by
  constructor
  · rintro ⟨h1, h2⟩
    rw [← h1.2.2]; unfold cutTo; rw [h2]
  · intro e
    refine ⟨⟨h.1, h.2, ?_⟩, ?_⟩
    · rw [← e, cut_cut]
    · rw [← e, top_cutTo]

set_option maxHeartbeats 800000 in
theorem has2_any (x n a : Int) (a0 : 0 ≤ a) (a1 : a < 4294967296) (w : World) :
    Calls Tryd.prog 17 #[pfx x n, .int .u32 a] w fun e w' => e = .returned (.bool (decide (hasP x n a))) ∧ Below w.heap.size w w' := by
  by_cases h : 0 ≤ n ∧ n ≤ 32
  · have e1 : ofA a n = cutTo a n.toNat := if_pos h
    have e2 : okA n = 0 := if_pos h
    have e3 : ofL n = n := if_pos h
    by_cases hc : cutTo a n.toNat = x
    · have hd : decide (hasP x n a) = true := decide_eq_true ((has_cut h).2 hc)
      rw [hd]
      clear hd
      go_enter Tryd.func17, Tryd.ntmps17
      go_wp2_with fail
      refine (of2_any a n a0 a1 _).mono ?_
      rw [e1, e2, e3, hc]
      rintro e w1 ⟨rfl, hb1⟩
      have b1 := (Blk.new w 25 #[.int .u32 x, .int .i64 n]).below hb1 (by simp)
      have c0 := b1.cell 0
      have c1 := b1.cell 1
      have hz := b1.lt
      have hbw : Below w.heap.size w w1 := ((Below.refl w.heap.size w).alloc (Nat.le_refl _) (.cells #[.int .u32 x, .int .i64 n] 25)).trans (hb1.mono (by simp))
      have HB := Lib.hid hbw
      simp only [List.getElem?_toArray, List.getElem?_cons_zero, List.getElem?_cons_succ] at c0 c1
      clear b1 hb1 hbw e1 e2 e3 hc
      go_wp2_with fail
      go_ret
      exact ⟨rfl, (HB.out.alloc HB.out.size _)⟩
    · have hd : decide (hasP x n a) = false := decide_eq_false (fun e => hc ((has_cut h).1 e))
      rw [hd]
      clear hd
      go_enter Tryd.func17, Tryd.ntmps17
      go_wp2_with fail
      refine (of2_any a n a0 a1 _).mono ?_
      rw [e1, e2, e3]
      rintro e w1 ⟨rfl, hb1⟩
      have b1 := (Blk.new w 25 #[.int .u32 x, .int .i64 n]).below hb1 (by simp)
      have c0 := b1.cell 0
      have c1 := b1.cell 1
      have hz := b1.lt
      have hbw : Below w.heap.size w w1 := ((Below.refl w.heap.size w).alloc (Nat.le_refl _) (.cells #[.int .u32 x, .int .i64 n] 25)).trans (hb1.mono (by simp))
      have HB := Lib.hid hbw
      simp only [List.getElem?_toArray, List.getElem?_cons_zero, List.getElem?_cons_succ] at c0 c1
      clear b1 hb1 hbw e1 e2 e3
      go_wp2_with fail
      go_ret
      exact ⟨rfl, (HB.out.alloc HB.out.size _)⟩
  · have e2 : okA n = 2 := if_neg h
    have hd : decide (hasP x n a) = false := decide_eq_false (fun e => h ⟨e.1.1, e.1.2.1⟩)
    rw [hd]
    clear hd
    go_enter Tryd.func17, Tryd.ntmps17
    go_wp2_with fail
    refine (of2_any a n a0 a1 _).mono ?_
    rw [e2]
    rintro e w1 ⟨rfl, hb1⟩
    have hbw : Below w.heap.size w w1 := ((Below.refl w.heap.size w).alloc (Nat.le_refl _) (.cells #[.int .u32 x, .int .i64 n] 25)).trans (hb1.mono (by simp))
    have HB := Lib.hid hbw
    clear hbw e2 hb1
    go_wp2_with fail
    go_ret
    exact ⟨rfl, (HB.out.alloc HB.out.size _)⟩

theorem lead_mask : ∀ n : Nat, n ≤ 32 → (32 - (Lib.bitLen (4294967295 - maskOf n).toNat : Int)) = n := by decide
theorem bitLenAux_le : ∀ (k f x : Nat), x < 2 ^ k → Lib.bitLenAux f x ≤ k
  | _, 0, _, _ => by simp [Lib.bitLenAux]
  | 0, f + 1, x, h => by
    have : x = 0 := by simpa using h
    simp [Lib.bitLenAux, this]
  | k + 1, f + 1, x, h => by
    simp only [Lib.bitLenAux]
    split
    · omega
    · have := bitLenAux_le k f (x / 2) (by rw [Nat.pow_succ] at h; omega)
      omega

theorem xor_max (m : Int) (m0 : 0 ≤ m) (m1 : m < 4294967296) : bits .xor .u32 IntKind.u32.max m = 4294967295 - m := by
  obtain ⟨x, rfl⟩ := Int.eq_ofNat_of_zero_le m0
  have hx : x < 2 ^ 32 := by omega
  have hm : (IntKind.u32.max : Int) = ((2 ^ 32 - 1 : Nat) : Int) := by decide
  have h1 : BitVec.ofNat IntKind.u32.bits (2 ^ 32 - 1) = BitVec.allOnes IntKind.u32.bits := by decide
  have hx' : x % 2 ^ IntKind.u32.bits = x := Nat.mod_eq_of_lt hx
  rw [hm]
  simp only [bits, BitVec.ofInt_natCast, h1, BitVec.allOnes_xor, BitVec.toNat_not, BitVec.toNat_ofNat, hx']
  rw [IntKind.wrap_u32]
  have : 2 ^ IntKind.u32.bits = 4294967296 := by decide
  rw [this]
  omega

set_option maxHeartbeats 800000 in
theorem len2_any (m : Int) (m0 : 0 ≤ m) (m1 : m < 4294967296) (w : World) :
    Calls Tryd.prog 13 #[.int .u32 m] w fun e w' => ((∃ k : Nat, k ≤ 32 ∧ maskOf k = m ∧ e = .returned (.tuple #[.int .i64 k, .int .i64 0])) ∨ ((∀ k, k ≤ 32 → maskOf k ≠ m) ∧ e = .returned (.tuple #[.int .i64 0, .int .i64 120]))) ∧ w = w' := by
  obtain ⟨q, hq⟩ : ∃ q : Nat, q = Lib.bitLen (4294967295 - m).toNat := ⟨_, rfl⟩
  have hle : q ≤ 32 := by rw [hq]; exact bitLenAux_le 32 64 _ (by omega)
  have hx := xor_max m m0 m1
  have HX := Lib.hid hx
  have hr : okA (32 - q) = 0 := if_pos (by omega)
  have hm : maskA (32 - q) = maskOf (32 - q) := by unfold maskA; rw [if_pos (by omega)]; congr 1; omega
  by_cases he : maskOf (32 - q) = m
  · have HE := Lib.hid he
    have HM := Lib.hid hm
    have HR := Lib.hid hr
    have HQ := Lib.hid hq
    clear he hm hr hx hq
    go_enter Tryd.func13, Tryd.ntmps13
    go_wp2_with fail
    rw [HX.out]
    refine (Tryd.bits_LeadingZeros32 (4294967295 - m) _ (by omega) (by omega)).mono ?_
    rintro e w1 ⟨rfl, rfl⟩
    rw [← HQ.out]
    go_wp2_with fail
    refine (mask_any _ _).mono ?_
    rintro e w1 ⟨rfl, rfl⟩
    rw [HM.out, HE.out]
    go_wp2_with fail
    go_ret2
    exact ⟨.inl ⟨32 - q, by omega, HE.out, by rw [Int.natCast_sub hle]; rfl⟩, rfl⟩
  · have hn : ∀ k, k ≤ 32 → maskOf k ≠ m := fun k hk e => he (by
      have h1 := lead_mask k hk
      rw [e, ← hq] at h1
      rw [show 32 - q = k from by omega]
      exact e)
    have HN := Lib.hid hn
    have hb : (maskOf (32 - q) != m) = true := by simpa using he
    have HM := Lib.hid hm
    have HQ := Lib.hid hq
    clear he hm hr hx hq hn
    go_enter Tryd.func13, Tryd.ntmps13
    go_wp2_with fail
    rw [HX.out]
    refine (Tryd.bits_LeadingZeros32 (4294967295 - m) _ (by omega) (by omega)).mono ?_
    rintro e w1 ⟨rfl, rfl⟩
    rw [← HQ.out]
    go_wp2_with fail
    refine (mask_any _ _).mono ?_
    rintro e w1 ⟨rfl, rfl⟩
    rw [HM.out]
    go_wp2_with fail
    go_ret2
    exact ⟨.inr ⟨HN.out, rfl⟩, rfl⟩
end Go.Proofs.YtabpkdblcinhjaaDoor
