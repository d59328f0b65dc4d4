/- Contracts of layer 2's program: Mask, Check, Of, Has, Bit. -/
import Derived.Test.YtfbfdjcdjogefaaDoorD1
import Derived.Test.YtfbfdjcdjogefaaDoorC4
namespace Go.Proofs.YtfbfdjcdjogefaaDoor
open Go Go.RowKit
attribute [local go_sem] Oper.semAt_some

/-- The mask, or an error, of any number. -/
def maskA (n : Int) : Int := if 0 ≤ n ∧ n ≤ 32 then maskOf n.toNat else 0
def okA (n : Int) : Int := if 0 ≤ n ∧ n ≤ 32 then 0 else 2

set_option maxHeartbeats 800000 in
theorem mask_any (n : Int) (w : World) :
    Calls Tryd.prog 42 #[.int .i64 n] w fun e w' => e = .returned (.tuple #[.int .u32 (maskA n), .int .i64 (okA n)]) ∧ w = w' := by
  by_cases h : 0 ≤ n ∧ n ≤ 32
  · have e1 : maskA n = maskOf n.toNat := if_pos h
    have e2 : okA n = 0 := if_pos h
    obtain ⟨h0, h1⟩ := h
    have hs := mask_shift n.toNat (by omega)
    have hn : (32 - n).toNat = 32 - n.toNat := by omega
    rw [e1, e2, ← hs, ← hn]
    clear e1 e2 hs hn
    have g0 : ¬ n < 0 := by omega
    have g1 : ¬ 32 < n := by omega
    go_enter Tryd.func42, Tryd.ntmps42
    go_wp2
    go_ret2
    exact ⟨rfl, rfl⟩
  · have e1 : maskA n = 0 := if_neg h
    have e2 : okA n = 2 := if_neg h
    rw [e1, e2]
    clear e1 e2
    by_cases g0 : n < 0
    · go_enter Tryd.func42, Tryd.ntmps42
      go_wp2
      go_ret2
      exact ⟨rfl, rfl⟩
    · have g1 : 32 < n := by omega
      go_enter Tryd.func42, Tryd.ntmps42
      go_wp2
      go_ret2
      exact ⟨rfl, rfl⟩

/-- Check's answer. -/
def chk (x n : Int) : Int := if right x n then 0 else 2

/-- What is cut by the mask of any number. -/
def rest (x n : Int) : Int := bits .andNot .u32 x (maskA n)
theorem rest_in {x n : Int} (h : 0 ≤ n ∧ n ≤ 32) (x0 : 0 ≤ x) (x1 : x < 4294967296) : rest x n = 0 ↔ right x n := by
  unfold rest
  rw [show maskA n = maskOf n.toNat from if_pos h, andNot_mask x n.toNat (by omega) x0 x1]
  constructor
  · intro e; exact ⟨h.1, h.2, by omega⟩
  · intro e; have := e.2.2; omega

theorem ret_i64 {a b : Int} (h : a = b) : Ending.returned (.int .i64 a) = .returned (.int .i64 b) := by rw [h]
theorem wrap64_in (x : Int) (h0 : 0 ≤ x) (h1 : x < 4294967296) : wrap64 x = x := by unfold wrap64; omega

/-- Of's prefix, or nothing. -/
def ofA (a n : Int) : Int := if 0 ≤ n ∧ n ≤ 32 then cutTo a n.toNat else 0
def ofL (n : Int) : Int := if 0 ≤ n ∧ n ≤ 32 then n else 0

end Go.Proofs.YtfbfdjcdjogefaaDoor
