/- Contracts of layer 2's program: grow. -/
import Derived.Test.YtabpkdblcinhjaaDoorD5
import Derived.StillTailTactics
namespace Go.Proofs.YtabpkdblcinhjaaDoor
open Go Go.RowKit Go.Sort
attribute [local go_sem] Oper.semAt_some

/-- A prefix under way, in memory. -/
def walkObj (x n : Int) (k : Nat) : Array Value := #[.int .u32 (cutTo x k), .int .i64 k, .int .u32 x, .int .i64 n]

theorem bit_up (b : Int) (k : Nat) (hk : k < 32) (hb : 0 ≤ b ∧ b ≤ 1) : b * 2 ^ (31 - k) % 4294967296 = b * wgt (k + 1) := by
  have h1 : wgt (k + 1) = ((2 : Int) ^ (31 - k)) := by rw [wgt_nat, show 32 - (k + 1) = 31 - k from by omega]; simp
  have h2 := wgt_step k hk
  have h3 := wgt_le k
  have h4 := wgt_pos (k + 1)
  rw [← h1]
  rcases (show b = 0 ∨ b = 1 by omega) with rfl | rfl
  · simp
  · rw [Int.one_mul]; omega

set_option maxRecDepth 100000 in
set_option maxHeartbeats 1600000 in
theorem grow_any (g : Nat) (x n : Int) (k : Nat) (hk : k < 32) (x0 : 0 ≤ x) (x1 : x < 4294967296) (w : World) (hB : Blk w g 81 (walkObj x n k)) :
    Calls Tryd.prog 39 #[.pointer (some ⟨g, 0, none⟩)] w fun e w' => (∃ v, e = .returned v) ∧ Blk w' g 81 (walkObj x n (k + 1)) ∧ w.grownBy w' (some g) := by
  have c0 := hB.cell 0
  have c1 := hB.cell 1
  have c2 := hB.cell 2
  have f0 := hB.frozen 0
  have f1 := hB.frozen 1
  simp only [walkObj, List.getElem?_toArray, List.getElem?_cons_zero, List.getElem?_cons_succ] at c0 c1 c2
  have HB := Lib.hid hB
  clear hB
  go_enter Tryd.func39, Tryd.ntmps39
  go_wp2_with fail
  have hB1 := HB.out.set_ 1 (.int .i64 ((k : Int) + 1))
  have hg1 : w.grownBy (w.setCell ⟨g, 1, none⟩ (.int .i64 ((k : Int) + 1))) (some g) := grown_set w g 1 _
  generalize w.setCell ⟨g, 1, none⟩ (.int .i64 ((k : Int) + 1)) = W at *
  simp only [walkObj] at hB1
  have e1 : (#[Value.int .u32 (cutTo x k), .int .i64 k, .int .u32 x, .int .i64 n] : Array Value).setIfInBounds 1 (.int .i64 ((k : Int) + 1)) = #[Value.int .u32 (cutTo x k), .int .i64 ((k : Int) + 1), .int .u32 x, .int .i64 n] := by rfl
  rw [e1] at hB1
  have d0 := hB1.cell 0
  have d1 := hB1.cell 1
  have d2 := hB1.cell 2
  have z0 := hB1.frozen 0
  have hlt := hB1.lt
  simp only [List.getElem?_toArray, List.getElem?_cons_zero, List.getElem?_cons_succ] at d0 d1 d2
  have hbit : bitOf x ((k : Int) + 1 - 1) = bitN x k := by rw [show (k : Int) + 1 - 1 = k from by omega]; exact bitOf_at x k (by omega)
  have hr := bitN_range x k
  have hup := bit_up (bitN x k) k hk hr
  have hor := or_bit x k hk x0 x1
  have hsh : (32 - ((k : Int) + 1)).toNat = 31 - k := by omega
  have hwk : walkObj x n (k + 1) = #[Value.int .u32 (cutTo x (k + 1)), .int .i64 ((k : Int) + 1), .int .u32 x, .int .i64 n] := rfl
  have HB1 := Lib.hid hB1
  have HG1 := Lib.hid hg1
  have HUP := Lib.hid hup
  have HOR := Lib.hid hor
  have HSH := Lib.hid hsh
  have HWK := Lib.hid hwk
  generalize cutTo x k = ck at *
  generalize cutTo x (k + 1) = ck1 at *
  have j0 : 1 ≤ (k : Int) + 1 := by omega
  have j1 : (k : Int) + 1 ≤ 32 := by omega
  generalize (k : Int) + 1 = j at *
  have w1 : IntKind.i64.wrap (j - 1) = j - 1 := by rw [IntKind.wrap_i64]; omega
  have w2 : IntKind.i64.wrap (32 - j) = 32 - j := by rw [IntKind.wrap_i64]; omega
  have w3 : IntKind.u32.wrap (bitN x k) = bitN x k := by rw [IntKind.wrap_u32]; omega
  have hbt := fun w => bit2_any x (j - 1) x0 x1 w
  rw [hbit] at hbt
  generalize bitN x k = b at *
  have HBT := Lib.hid hbt
  clear hbt hbit hup hor hsh hwk hB1 hg1 c0 c1 c2 f0 f1 e1
  have HBT2 : ∀ W : World, Calls Tryd.prog 45 #[.int .u32 x, .int .i64 (j - 1)] W fun e w'' => e = .returned (.int .i64 b) ∧ w'' = W := fun W => (HBT.out W).mono fun _ _ ⟨he, hw⟩ => ⟨he, hw.symm⟩
  have HBT3 := Lib.hid HBT2
  clear HBT2
  refine wp_region_still_tail 29 (by kernel_rfl) (by kernel_rfl) ?_
  simp only [List.take_succ_cons, List.take_zero, List.drop_succ_cons, List.drop_zero]
  repeat (first | still_step | still_call (HBT3.out _))
  refine wpStill_nil ?_
  change wpList _ _ _ _ _ W.drew
  have hv : bits .or .u32 ck (b * 2 ^ (32 - j).toNat % 4294967296) = ck1 := by rw [HSH.out, HUP.out, HOR.out]
  have HV := Lib.hid hv
  clear hv d1 d2 w1 w2 w3
  go_wp2_with fail
  rw [HV.out]
  have hset := (HB1.out.set_ 0 (.int .u32 ck1)).drew
  have hgr : w.grownBy (W.setCell ⟨g, 0, none⟩ (.int .u32 ck1)).drew (some g) := (HG1.out.trans (grown_set W g 0 _)).trans (grown_drew _ _)
  rw [HWK.out]
  go_end0
  exact ⟨⟨_, rfl⟩, hset, hgr⟩
end Go.Proofs.YtabpkdblcinhjaaDoor
