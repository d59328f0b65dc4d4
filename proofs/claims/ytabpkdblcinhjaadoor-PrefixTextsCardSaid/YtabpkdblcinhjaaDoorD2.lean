/- Contracts of layer 2's program: Mask, Check, Of, Has, Bit. -/
import Derived.Test.YtabpkdblcinhjaaDoorD1
import Derived.Test.YtabpkdblcinhjaaDoorC4
namespace Go.Proofs.YtabpkdblcinhjaaDoor
open Go Go.RowKit
attribute [local go_sem] Oper.semAt_some

set_option maxHeartbeats 400000 in
theorem num02_any (n : Int) (w : World) :
    Calls Tryd.prog 8 #[.int .i64 n] w fun e w' => e = .returned (.int .i64 n) ∧ w = w' := by
  go_enter Tryd.func8, Tryd.ntmps8
  go_wp2
  go_ret
  exact ⟨rfl, rfl⟩

set_option maxHeartbeats 400000 in
theorem of02_any (x n : Int) (w : World) :
    Calls Tryd.prog 15 #[.int .u32 x, .int .i64 n] w fun e w' => e = .returned (pfx x n) ∧ Below w.heap.size w w' := by
  go_enter Tryd.func15, Tryd.ntmps15
  go_wp2
  exact bodyPost_ret (v := pfx x n) (by simp [results, Tryd.results15, go_sem, pfx]) rfl ⟨rfl, (Below.refl _ _).alloc (Nat.le_refl _) _⟩

/-- The mask, or an error, of any number. -/
def maskA (n : Int) : Int := if 0 ≤ n ∧ n ≤ 32 then maskOf n.toNat else 0
def okA (n : Int) : Int := if 0 ≤ n ∧ n ≤ 32 then 0 else 2

set_option maxHeartbeats 800000 in
theorem mask_any (n : Int) (w : World) :
    Calls Tryd.prog 12 #[.int .i64 n] w fun e w' => e = .returned (.tuple #[.int .u32 (maskA n), .int .i64 (okA n)]) ∧ w = w' := by
  by_cases h : 0 ≤ n ∧ n ≤ 32
  · have e1 : maskA n = maskOf n.toNat := if_pos h
    have e2 : okA n = 0 := if_pos h
    obtain ⟨h0, h1⟩ := h
    have hs := mask_shift n.toNat (by omega)
    have hn : (32 - n).toNat = 32 - n.toNat := by omega
    rw [e1, e2, ← hs, ← hn]
    clear e1 e2 hs hn
    have g0 : ¬ n < 0 := by omega
    have g1 : ¬ 32 < n := by omega
    go_enter Tryd.func12, Tryd.ntmps12
    go_wp2
    go_ret2
    exact ⟨rfl, rfl⟩
  · have e1 : maskA n = 0 := if_neg h
    have e2 : okA n = 2 := if_neg h
    rw [e1, e2]
    clear e1 e2
    by_cases g0 : n < 0
    · go_enter Tryd.func12, Tryd.ntmps12
      go_wp2
      go_ret2
      exact ⟨rfl, rfl⟩
    · have g1 : 32 < n := by omega
      go_enter Tryd.func12, Tryd.ntmps12
      go_wp2
      go_ret2
      exact ⟨rfl, rfl⟩

/-- Check's answer. -/
def chk (x n : Int) : Int := if right x n then 0 else 2

/-- What is cut by the mask of any number. -/
def rest (x n : Int) : Int := bits .andNot .u32 x (maskA n)
theorem rest_in {x n : Int} (h : 0 ≤ n ∧ n ≤ 32) (x0 : 0 ≤ x) (x1 : x < 4294967296) : rest x n = 0 ↔ right x n := by
  unfold rest
  rw [show maskA n = maskOf n.toNat from if_pos h, andNot_mask x n.toNat (by omega) x0 x1]
  constructor
  · intro e; exact ⟨h.1, h.2, by omega⟩
  · intro e; have := e.2.2; omega

set_option maxHeartbeats 800000 in
theorem check_any (x n : Int) (x0 : 0 ≤ x) (x1 : x < 4294967296) (w : World) :
    Calls Tryd.prog 18 #[pfx x n] w fun e w' => e = .returned (.int .i64 (chk x n)) ∧ Below w.heap.size w w' := by
  have HBW : Hid (Below w.heap.size w (w.alloc (.cells #[.int .u32 x, .int .i64 n] 25))) := (Below.refl _ _).alloc (Nat.le_refl _) _
  by_cases hz : rest x n = 0
  · have hc : chk x n = okA n := by
      unfold chk okA
      by_cases h : 0 ≤ n ∧ n ≤ 32
      · rw [if_pos h, if_pos ((rest_in h x0 x1).1 hz)]
      · rw [if_neg h, if_neg (fun e => h ⟨e.1, e.2.1⟩)]
    have ht : (bits .andNot .u32 x (maskA n) != 0) = false := by
      have : bits .andNot .u32 x (maskA n) = 0 := hz
      rw [this]; rfl
    have HC := Lib.hid hc
    clear hc hz
    go_enter Tryd.func18, Tryd.ntmps18
    go_wp2_with fail
    refine (mask_any n _).mono ?_
    rintro e w1 ⟨rfl, rfl⟩
    go_wp2_with fail
    go_ret
    exact ⟨by rw [HC.out]; rfl, HBW.out⟩
  · have hc : chk x n = 2 := by
      unfold chk
      by_cases h : 0 ≤ n ∧ n ≤ 32
      · rw [if_neg (fun e => hz ((rest_in h x0 x1).2 e))]
      · rw [if_neg (fun e => h ⟨e.1, e.2.1⟩)]
    have ht : (bits .andNot .u32 x (maskA n) != 0) = true := by
      have : ¬ bits .andNot .u32 x (maskA n) = 0 := hz
      simpa using this
    have HC := Lib.hid hc
    clear hc hz
    go_enter Tryd.func18, Tryd.ntmps18
    go_wp2_with fail
    refine (mask_any n _).mono ?_
    rintro e w1 ⟨rfl, rfl⟩
    go_wp2_with fail
    go_ret
    exact ⟨by rw [HC.out]; rfl, HBW.out⟩

theorem ret_i64 {a b : Int} (h : a = b) : Ending.returned (.int .i64 a) = .returned (.int .i64 b) := by rw [h]
theorem wrap64_in (x : Int) (h0 : 0 ≤ x) (h1 : x < 4294967296) : wrap64 x = x := by unfold wrap64; omega

/-- Of's prefix, or nothing. -/
def ofA (a n : Int) : Int := if 0 ≤ n ∧ n ≤ 32 then cutTo a n.toNat else 0
def ofL (n : Int) : Int := if 0 ≤ n ∧ n ≤ 32 then n else 0

set_option maxHeartbeats 800000 in
theorem of2_any (a n : Int) (a0 : 0 ≤ a) (a1 : a < 4294967296) (w : World) :
    Calls Tryd.prog 11 #[.int .u32 a, .int .i64 n] w fun e w' => e = .returned (.tuple #[pfx (ofA a n) (ofL n), .int .i64 (okA n)]) ∧ Below w.heap.size w w' := by
  by_cases h : 0 ≤ n ∧ n ≤ 32
  · have e1 : ofA a n = bits .and .u32 a (maskA n) := by
      unfold ofA maskA; rw [if_pos h, if_pos h, and_mask a n.toNat (by omega) a0 a1]
    have e2 : okA n = 0 := if_pos h
    have e3 : ofL n = n := if_pos h
    rw [e1, e2, e3]
    go_enter Tryd.func11, Tryd.ntmps11
    go_wp2_with fail
    refine (mask_any n _).mono ?_
    rintro e w1 ⟨rfl, rfl⟩
    have ht : (okA n != 0) = false := by rw [e2]; rfl
    clear e1 e2 e3
    go_wp2_with fail
    exact bodyPost_ret (v := .tuple #[pfx (bits .and .u32 a (maskA n)) n, .int .i64 0]) (by simp [results, Tryd.results11, go_sem, pfx]) rfl ⟨rfl, (Below.refl _ _).alloc (Nat.le_refl _) _⟩
  · have e1 : ofA a n = 0 := if_neg h
    have e2 : okA n = 2 := if_neg h
    have e3 : ofL n = 0 := if_neg h
    rw [e1, e2, e3]
    go_enter Tryd.func11, Tryd.ntmps11
    go_wp2_with fail
    refine (mask_any n _).mono ?_
    rintro e w1 ⟨rfl, rfl⟩
    rw [e2]
    clear e1 e2 e3
    go_wp2_with fail
    exact bodyPost_ret (v := .tuple #[pfx 0 0, .int .i64 2]) (by simp [results, Tryd.results11, go_sem, pfx]) rfl ⟨rfl, (Below.refl _ _).alloc (Nat.le_refl _) _⟩

set_option maxHeartbeats 800000 in
theorem bit2_any (a i : Int) (a0 : 0 ≤ a) (a1 : a < 4294967296) (w : World) :
    Calls Tryd.prog 45 #[.int .u32 a, .int .i64 i] w fun e w' => e = .returned (.int .i64 (bitOf a i)) ∧ w = w' := by
  by_cases h0 : i < 0
  · have hb : bitOf a i = 0 := by unfold bitOf; rw [if_pos (.inl h0)]
    rw [hb]
    clear hb
    go_enter Tryd.func45, Tryd.ntmps45
    go_wp2_with fail
    go_ret
    exact ⟨rfl, rfl⟩
  by_cases h1 : 32 ≤ i
  · have hb : bitOf a i = 0 := by unfold bitOf; rw [if_pos (.inr (by omega))]
    rw [hb]
    clear hb
    go_enter Tryd.func45, Tryd.ntmps45
    go_wp2_with fail
    go_ret
    exact ⟨rfl, rfl⟩
  have hb : bitOf a i = bitN a i.toNat := by unfold bitOf; rw [if_neg (by omega)]
  have hs := bit_shift a i.toNat (by omega)
  have hq : 0 ≤ a / 2 ^ (31 - i).toNat ∧ a / 2 ^ (31 - i).toNat < 4294967296 := by
    have hp : (0 : Int) < 2 ^ (31 - i).toNat := Int.pow_pos (by decide)
    exact ⟨Int.ediv_nonneg a0 (Int.le_of_lt hp), Int.lt_of_le_of_lt (Int.ediv_le_self _ a0) a1⟩
  have ho := and_one _ hq.1 hq.2
  rw [hb, ← hs, show 31 - i.toNat = (31 - i).toNat from by omega]
  have HO := Lib.hid ho
  clear hb hs ho
  go_enter Tryd.func45, Tryd.ntmps45
  go_wp2_with fail
  go_ret
  exact ⟨ret_i64 (by rw [HO.out]; exact wrap64_in _ (by omega) (by omega)), rfl⟩
end Go.Proofs.YtabpkdblcinhjaaDoor
