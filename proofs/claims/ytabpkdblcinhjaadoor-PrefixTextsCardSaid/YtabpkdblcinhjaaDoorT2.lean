/- Contracts of layer 2: Text, and the reference's Text and Parse, over a world in which the library's table lies. -/
import Derived.Test.YtabpkdblcinhjaaDoorT1
import Derived.Test.YtabpkdblcinhjaaDoorK4
import Derived.Test.YtabpkdblcinhjaaDoorB2
namespace Go.Proofs.YtabpkdblcinhjaaDoor
open Go Go.RowKit Go.Sort
attribute [local go_sem] Oper.semAt_some
attribute [local irreducible] wpQuiet

theorem ptxt_bytes (x : Int) (n : Nat) : (ByteArray.mk (txt x).toArray) ++ ⟨#[47]⟩ ++ sb n = ⟨(ptxt x n).toArray⟩ := by
  apply ByteArray.ext
  simp [sb, ptxt, ByteArray.data_append]

set_option maxRecDepth 100000 in
set_option maxHeartbeats 1600000 in
theorem text2_any (x : Int) (n : Nat) (x0 : 0 ≤ x) (x1 : x < 4294967296) (hr : right x n) (w : World) (hF : Fit w) :
    Calls Tryd.prog 5 #[pfx x n] w fun e w' => e = .returned (.tuple #[.string ⟨(ptxt x n).toArray⟩, .int .i64 0]) ∧ Below w.heap.size w w' := by
  have hn : n ≤ 32 := by have := hr.2.1; omega
  have HC : Hid (chk x n = 0) := if_pos hr
  have HF := Lib.hid hF
  have HT := Lib.hid (ptxt_bytes x n)
  have l0 := txt_len x x0 x1
  have l1 := itoa_len n (by omega) (by omega)
  clear hr hF
  go_enter Tryd.func5, Tryd.ntmps5
  go_wp2_with fail
  refine (check_any x n x0 x1 _).mono ?_
  rw [HC.out]
  rintro e w1 ⟨rfl, hb⟩
  have hbw : Below w.heap.size w w1 := ((Below.refl w.heap.size w).alloc (Nat.le_refl _) (.cells #[.int .u32 x, .int .i64 n] 25)).trans (hb.mono (by simp))
  have b1 := (Blk.new w 25 #[.int .u32 x, .int .i64 n]).below hb (by simp)
  have HB := Lib.hid hbw
  clear hb hbw
  go_wp2_with fail
  have c0 := b1.cell 0
  have c1 := b1.cell 1
  simp only [List.getElem?_toArray, List.getElem?_cons_zero, List.getElem?_cons_succ] at c0 c1
  have k0 := cell_regrown c0
  have k1 := cell_regrown c1
  have hFW := HF.out.below HB.out
  have cT : ∀ d os, Calls Tryd.prog 19 #[.int .u32 x] (grow (redrawn w1 d) os) fun e w'' => e = .returned (.string ⟨(txt x).toArray⟩) ∧ ∃ p : Regrown, w'' = grow (redrawn w1 p.d) p.os := fun d os => Calls.regrown_of (text_any x x0 x1 _ (hFW.below (below_regrown w1 d os)))
  have cI : ∀ d os, Calls Tryd.prog 20 #[.int .i64 n] (grow (redrawn w1 d) os) fun e w'' => e = .returned (.string (sb n)) ∧ ∃ p : Regrown, w'' = grow (redrawn w1 p.d) p.os := fun d os => Calls.regrown_of (itoa_any n (by omega) (by omega) _ (hFW.below (below_regrown w1 d os)))
  have m0 : (ByteArray.mk (txt x).toArray).size ≤ 15 := by show (txt x).toArray.size ≤ 15; simpa using l0
  have m1 : (sb n).size ≤ 3 := l1
  have HT2 := HT.out
  generalize (ByteArray.mk (txt x).toArray) = s0 at *
  generalize sb (n : Int) = s1 at *
  have HT3 := Lib.hid HT2
  have n1 : ¬ 9223372036854775807 < s0.size + 1 := by omega
  have n2 : ¬ 9223372036854775807 < s0.size + 1 + s1.size := by omega
  clear c0 c1 b1 hFW HT HT2 l0 l1
  refine wp_region_quiet_below (by kernel_rfl) (by kernel_rfl) ?_
  repeat (quiet_step (first | (with_reducible exact cT _ _) | (with_reducible exact cI _ _)))
  refine wpQuiet_nil ?_
  intro wq hwq
  obtain ⟨⟨dq, osq⟩, rfl⟩ := hwq
  have HB4 := Lib.hid (HB.out.trans ((below_regrown w1 dq osq).mono HB.out.size))
  generalize grow (redrawn w1 dq) osq = w4 at *
  clear k0 k1 cT cI
  go_wp2_with fail
  go_ret2
  exact ⟨by rw [← HT3.out]; rfl, HB4.out⟩

set_option maxRecDepth 100000 in
set_option maxHeartbeats 1600000 in
theorem text2_no (x n : Int) (x0 : 0 ≤ x) (x1 : x < 4294967296) (hr : ¬ right x n) (w : World) :
    Calls Tryd.prog 5 #[pfx x n] w fun e w' => e = .returned (.tuple #[.string ⟨#[]⟩, .int .i64 2]) ∧ Below w.heap.size w w' := by
  have HC : Hid (chk x n = 2) := if_neg hr
  clear hr
  go_enter Tryd.func5, Tryd.ntmps5
  go_wp2_with fail
  refine (check_any x n x0 x1 _).mono ?_
  rw [HC.out]
  rintro e w1 ⟨rfl, hb⟩
  have hbw : Below w.heap.size w w1 := ((Below.refl w.heap.size w).alloc (Nat.le_refl _) (.cells #[.int .u32 x, .int .i64 n] 25)).trans (hb.mono (by simp))
  have HB := Lib.hid hbw
  clear hb hbw
  go_wp2_with fail
  go_ret2
  exact ⟨rfl, HB.out⟩

set_option maxRecDepth 100000 in
set_option maxHeartbeats 1600000 in
theorem refText2_any (x : Int) (n : Nat) (x0 : 0 ≤ x) (x1 : x < 4294967296) (hn : n ≤ 32) (w : World) (hF : Fit w) :
    Calls Tryd.prog 10 #[pfx x n] w fun e w' => e = .returned (.string ⟨(ptxt x n).toArray⟩) ∧ Below w.heap.size w w' := by
  have HF := Lib.hid hF
  have HT := Lib.hid (ptxt_bytes x n)
  have l0 := txt_len x x0 x1
  have l1 := itoa_len n (by omega) (by omega)
  clear hF
  go_enter Tryd.func10, Tryd.ntmps10
  go_wp2_with fail
  have hbw : Below w.heap.size w (w.alloc (.cells #[.int .u32 x, .int .i64 n] 25)) := (Below.refl w.heap.size w).alloc (Nat.le_refl _) _
  have b1 := Blk.new w 25 #[.int .u32 x, .int .i64 n]
  have HB := Lib.hid hbw
  generalize (w.alloc (.cells #[.int .u32 x, .int .i64 n] 25)) = w1 at *
  have c0 := b1.cell 0
  have c1 := b1.cell 1
  simp only [List.getElem?_toArray, List.getElem?_cons_zero, List.getElem?_cons_succ] at c0 c1
  have k0 := cell_regrown c0
  have k1 := cell_regrown c1
  have hFW := HF.out.below HB.out
  have cT : ∀ d os, Calls Tryd.prog 24 #[.int .u32 x] (grow (redrawn w1 d) os) fun e w'' => e = .returned (.string ⟨(txt x).toArray⟩) ∧ ∃ p : Regrown, w'' = grow (redrawn w1 p.d) p.os := fun d os => Calls.regrown_of (refText_any x x0 x1 _ (hFW.below (below_regrown w1 d os)))
  have cI : ∀ d os, Calls Tryd.prog 20 #[.int .i64 n] (grow (redrawn w1 d) os) fun e w'' => e = .returned (.string (sb n)) ∧ ∃ p : Regrown, w'' = grow (redrawn w1 p.d) p.os := fun d os => Calls.regrown_of (itoa_any n (by omega) (by omega) _ (hFW.below (below_regrown w1 d os)))
  have m0 : (ByteArray.mk (txt x).toArray).size ≤ 15 := by show (txt x).toArray.size ≤ 15; simpa using l0
  have m1 : (sb n).size ≤ 3 := l1
  have HT2 := HT.out
  generalize (ByteArray.mk (txt x).toArray) = s0 at *
  generalize sb (n : Int) = s1 at *
  have HT3 := Lib.hid HT2
  have n1 : ¬ 9223372036854775807 < s0.size + 1 := by omega
  have n2 : ¬ 9223372036854775807 < s0.size + 1 + s1.size := by omega
  clear c0 c1 b1 hFW HT HT2 l0 l1 hbw
  refine wp_region_quiet_below (by kernel_rfl) (by kernel_rfl) ?_
  repeat (quiet_step (first | (with_reducible exact cT _ _) | (with_reducible exact cI _ _)))
  refine wpQuiet_nil ?_
  intro wq hwq
  obtain ⟨⟨dq, osq⟩, rfl⟩ := hwq
  have HB4 := Lib.hid (HB.out.trans ((below_regrown w1 dq osq).mono HB.out.size))
  generalize grow (redrawn w1 dq) osq = w4 at *
  clear k0 k1 cT cI
  go_wp2_with fail
  go_ret
  exact ⟨by rw [← HT3.out]; rfl, HB4.out⟩
end Go.Proofs.YtabpkdblcinhjaaDoor
