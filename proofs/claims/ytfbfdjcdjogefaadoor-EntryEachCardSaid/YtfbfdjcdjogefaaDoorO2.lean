/- Contracts of layer 3's reference: right, Put. -/
import Derived.Test.YtfbfdjcdjogefaaDoorO1
import Derived.Test.YtfbfdjcdjogefaaDoorChecked
import Derived.WalkKit
import Derived.WalkLawsBesides
import Derived.BigQuiet
import Derived.Deep.QuietTactic
import Derived.Deep.DeepFit
import Derived.ProofKit
import Derived.Lib.Hide
import Derived.WalkSmall
import Derived.Handy
namespace Go.Proofs.YtfbfdjcdjogefaaDoor
open Go Go.RowKit
attribute [local go_sem] Oper.semAt_some

theorem right3_any (k : Int) (w : World) :
    Calls Tryd.prog 51 #[.int .i64 k] w fun e w' => e = .returned (.bool (decide (W3 k))) ∧ w' = w := by
  by_cases h1 : k = 1
  · subst h1
    go_enter Tryd.func51, Tryd.ntmps51
    go_wp2_with fail
    go_ret
    exact ⟨rfl, rfl⟩
  · by_cases h2 : k = 2
    · subst h2
      go_enter Tryd.func51, Tryd.ntmps51
      go_wp2_with fail
      go_ret
      exact ⟨rfl, rfl⟩
    · have hd : decide (W3 k) = decide (k = 4) := decide_eq_decide.2 ⟨fun h => by rcases h with h | h | h <;> first | contradiction | exact h, fun h => .inr (.inr h)⟩
      rw [hd]
      go_enter Tryd.func51, Tryd.ntmps51
      go_wp2_with fail
      go_ret
      exact ⟨by
        show Ending.returned (Value.bool (k == 1 || k == 2 || k == 4)) = _
        congr 2
        rw [Bool.eq_iff_iff]
        simp [h1, h2], rfl⟩

theorem infoU8 : (Tryd.prog.info? 5).map (fun i => (i.zero, i.size, i.bytes)) = some (some (.int .u8 0), 1, 1) := by kernel_rfl

set_option maxRecDepth 100000 in
/-- make([]byte, n). -/
theorem make_bytes (m : Nat) (hm : m ≤ 100000) (W : World) :
    (Instr.makeSlice 26 (.int .i64 (m : Int)) (.int .i64 (m : Int))).run Tryd.prog W = .ok (.slice (some ⟨W.heap.size, 0, none⟩) m m) (W.alloc (.cells (List.replicate m (Value.int .u8 0)).toArray 5)) := by
  obtain ⟨i0, hi, hz0, hz1, hz2⟩ := info_parts infoU8
  have h := run_make (P := Tryd.prog) W 26 5 i0 (.int .u8 0) Tryd.underlying26 hi hz0 .i64 .i64 (m : Int) (m : Int) (by omega) (by omega) (by rw [hz2]; omega) (by omega)
  rw [h, hz1]
  congr 3
  apply Array.ext
  · simp [madeCells]
  · intro i h1 h2
    simp [madeCells, Value.cells, Nat.mod_one]

theorem refPut_arg (n k : Int) (h : ¬ W3 k) (w : World) :
    Calls Tryd.prog 53 #[.int .u32 n, .int .i64 k] w fun e w' => e = .returned (.tuple #[.slice none 0 0, .int .i64 2]) ∧ w' = w := by
  have hr : ∀ W, Calls Tryd.prog 51 #[.int .i64 k] W fun e w' => e = .returned (.bool false) ∧ w' = W := fun W => by
    have := right3_any k W
    rwa [decide_eq_false h] at this
  have HR := Lib.hid hr
  clear hr h
  go_enter Tryd.func53, Tryd.ntmps53
  go_wp2_with fail
  refine (HR.out _).mono ?_
  rintro e w' ⟨rfl, rfl⟩
  go_wp2_with fail
  exact bodyPost_ret (v := .tuple #[.slice none 0 0, .int .i64 2]) (by simp [results, Tryd.results53, go_sem]) rfl ⟨rfl, rfl⟩

set_option maxRecDepth 100000 in
set_option maxHeartbeats 1600000 in
theorem refPut_any (n : Int) (h0 : 0 ≤ n) (h1 : n < 4294967296) (k : Nat) (hk : k = 1 ∨ k = 2 ∨ k = 4) (w : World) :
    Calls Tryd.prog 53 #[.int .u32 n, .int .i64 k] w fun e w' => (if n / 256 ^ k > 0 then e = .returned (.tuple #[.slice none 0 0, .int .i64 4]) else e = .returned (.tuple #[.slice (some ⟨w.heap.size, 0, none⟩) k k, .int .i64 0]) ∧ Blk w' w.heap.size 5 ((be k n).map (Value.int .u8)).toArray) ∧ Below w.heap.size w w' := by
  have hr : ∀ W, Calls Tryd.prog 51 #[.int .i64 k] W fun e w' => e = .returned (.bool true) ∧ w' = W := fun W => by
    have := right3_any k W
    rwa [decide_eq_true (show W3 (k : Int) by rcases hk with rfl | rfl | rfl <;> simp [W3])] at this
  have hmk := fun W => make_bytes k (by omega) W
  have HR := Lib.hid hr
  have HK := Lib.hid hk
  have H0 := Lib.hid h0
  have H1 := Lib.hid h1
  have hk4 : 1 ≤ k ∧ k ≤ 4 := by omega
  clear hr h0 h1 hk
  go_enter Tryd.func53, Tryd.ntmps53
  go_wp2_with fail
  refine (HR.out _).mono ?_
  rintro e w' ⟨rfl, rfl⟩
  go_wp2_with fail
  have bN := Blk.new w' 5 (List.replicate k (Value.int .u8 0)).toArray
  have HB0 : Below w'.heap.size w' (w'.alloc (.cells (List.replicate k (Value.int .u8 0)).toArray 5)) := (Below.refl w'.heap.size w').alloc (Nat.le_refl _) _
  rw [← List.toArray_replicate]
  generalize hv : w'.alloc (.cells (List.replicate k (Value.int .u8 0)).toArray 5) = v1 at *
  clear hv HR hmk
  have HB0 := Lib.hid HB0
  have HN0 := Lib.hid bN
  clear bN
  go_loopw [0, 7] (fun a i wr => ∃ j : Nat, j ≤ k ∧ a = .int .u32 (n / 256 ^ j) ∧ i = .int .i64 ((k : Int) - 1 - j) ∧ Hid (Blk wr w'.heap.size 5 (List.replicate (k - j) (Value.int .u8 0) ++ (be j n).map (Value.int .u8)).toArray) ∧ Hid (Below w'.heap.size w' wr)) (fun _ i _ => ((intOf i) + 1).toNat)
  case atStart => exact ⟨0, by omega, by simp, by simp, by have := HN0.out; simp only [be, List.map_nil, List.append_nil, Nat.sub_zero]; exact this, HB0⟩
  case round =>
    obtain ⟨j, hj, rfl, rfl, HBK, HBL⟩ := hrel
    clear HN0 HB0
    have hnn : 0 ≤ n / 256 ^ j := Int.ediv_nonneg H0.out (Int.pow_nonneg (by decide))
    have hnb : n / 256 ^ j < 4294967296 := Int.lt_of_le_of_lt (Int.ediv_le_self _ H0.out) H1.out
    have hst := div_step n j
    generalize hm : n / 256 ^ j = m at *
    by_cases hlt : j < k
    · have c0 : wr.cell? ⟨w'.heap.size, k - 1 - j, none⟩ = some (Value.int .u8 0) := by
        rw [HBK.out.cell, List.getElem?_toArray, List.getElem?_append_left (by simp; omega), List.getElem?_replicate]
        rw [if_pos (by omega)]
      have f0 := HBK.out.frozen (k - 1 - j)
      have e0 : ((k : Int) - 1 - j).toNat = k - 1 - j := by omega
      have p0 : (0 : Int) ≤ (k : Int) - 1 - j := by omega
      have p1 : (k : Int) - 1 - j < k := by omega
      go_wp2_with fail
      refine ⟨⟨j + 1, by omega, by rw [hst], by congr 1; omega, ?_, ?_⟩, ?_⟩
      · show Blk _ _ _ _
        have := HBK.out.set_ (k - 1 - j) (.int .u8 (m % 256))
        rw [show k - j = (k - 1 - j) + 1 by omega, List.setIfInBounds_toArray, rep_set] at this
        rw [show k - (j + 1) = k - 1 - j by omega, be, hm]
        exact this
      · show Below _ _ _
        exact HBL.out.setCell (Nat.le_refl _) _
      · simp only [intOf]; omega
    · have hjk : j = k := by omega
      subst hjk
      have p0 : ¬ (j : Int) ≤ (j : Int) - 1 := by omega
      by_cases hz : m > 0
      · go_wp2_with fail
        exact bodyPost_ret (v := .tuple #[.slice none 0 0, .int .i64 4]) (by simp [results, Tryd.results53, go_sem]) rfl ⟨rfl, HBL.out⟩
      · go_wp2_with fail
        exact bodyPost_ret (v := .tuple #[.slice (some ⟨w'.heap.size, 0, none⟩) j j, .int .i64 0]) (by simp [results, Tryd.results53, go_sem]) rfl ⟨⟨rfl, by have := HBK.out; simpa using this⟩, HBL.out⟩
end Go.Proofs.YtfbfdjcdjogefaaDoor
