/- Layer 6's program: may, stands, holds, beneath. -/
import Derived.Test.YtghkacciihocdaaI1
import Derived.Test.YtghkacciihocdaaH3
namespace Go.Proofs.Ytghkacciihocdaa
open Go Go.RowKit Go.Sort
attribute [local go_sem] Oper.semAt_some
attribute [local irreducible] wpQuiet
namespace T6

theorem box_below (w : World) (o : Obj) : Below w.heap.size w (w.alloc o) := (Below.refl _ _).alloc (Nat.le_refl _) _
theorem may0_any (x n : Int) (w : World) : Calls Try.prog 41 #[.pointer none, pfx x n] w fun e w' => e = .returned (.int .i64 1) ∧ Below w.heap.size w w' := by
  have HB := Lib.hid (box_below w (.cells #[.int .u32 x, .int .i64 n] 34))
  go_enter Try.func41, Try.ntmps41
  go_wp2_with fail
  refine (isNone0_any _).mono ?_
  rintro e w1 ⟨rfl, rfl⟩
  go_wp2_with fail
  go_ret
  exact ⟨rfl, HB.out⟩
theorem may_any (x n : Int) (x0 : 0 ≤ x) (x1 : x < 4294967296) (w : World) (g : Nat) (v1 v2 : Value) (h : Blk w g 73 #[.bool true, v1, v2]) :
    Calls Try.prog 41 #[.pointer (some ⟨g, 0, none⟩), pfx x n] w fun e w' => e = .returned (.int .i64 (chk x n)) ∧ Below w.heap.size w w' := by
  have HB := Lib.hid (box_below w (.cells #[.int .u32 x, .int .i64 n] 34))
  have HH := Lib.hid (h.below (box_below w (.cells #[.int .u32 x, .int .i64 n] 34)) h.lt)
  have b2 := Blk.new w 34 #[.int .u32 x, .int .i64 n]
  have d0 := b2.cell 0
  have d1 := b2.cell 1
  simp only [List.getElem?_toArray, List.getElem?_cons_zero, List.getElem?_cons_succ] at d0 d1
  clear h b2
  go_enter Try.func41, Try.ntmps41
  go_wp2_with fail
  refine (isNone_any _ g _ _ HH.out).mono ?_
  rintro e w1 ⟨rfl, rfl⟩
  go_wp2_with fail
  refine (check_any x n x0 x1 _).mono ?_
  rintro e w1 ⟨rfl, hb⟩
  have HB2 := Lib.hid (HB.out.trans (hb.mono HB.out.size))
  clear hb
  go_wp2_with fail
  go_ret
  exact ⟨rfl, HB2.out⟩
/-- How a node stands to a prefix. -/
def standK (k p : Key) : Int := if k = p then 1 else if p <+: k then 2 else if k <+: p then 3 else 4
theorem cellN {w : World} {b : Nat} {k : Key} {h : Bool} {v : Int} {l r : Tr} (hb : Blk w b 81 (cellsN k h v l r)) : w.cell? ⟨b, 0, none⟩ = some (.int .u32 (kx k)) ∧ w.cell? ⟨b, 1, none⟩ = some (.int .i64 (kn k)) ∧ w.cell? ⟨b, 2, none⟩ = some (.bool h) ∧ w.cell? ⟨b, 3, none⟩ = some (.int .i64 v) ∧ w.cell? ⟨b, 4, none⟩ = some (.pointer (ptr l)) ∧ w.cell? ⟨b, 5, none⟩ = some (.pointer (ptr r)) :=
  ⟨hb.cell 0, hb.cell 1, hb.cell 2, hb.cell 3, hb.cell 4, hb.cell 5⟩
set_option maxRecDepth 100000 in
set_option maxHeartbeats 1600000 in
theorem stands6_any (k p : Key) (hk : k.length ≤ 32) (hp : p.length ≤ 32) (h : Bool) (v : Int) (l r : Tr) (b : Nat) (w : World) (hb : Blk w b 81 (cellsN k h v l r)) :
    Calls Try.prog 78 #[.pointer (some ⟨b, 0, none⟩), pfx (kx p) (kn p)] w fun e w' => e = .returned (.int .i64 (standK k p)) ∧ Below w.heap.size w w' := by
  have HB := Lib.hid (box_below w (.cells #[.int .u32 (kx p), .int .i64 (kn p)] 34))
  have b2 := Blk.new w 34 #[.int .u32 (kx p), .int .i64 (kn p)]
  have d0 := b2.cell 0
  have d1 := b2.cell 1
  simp only [List.getElem?_toArray, List.getElem?_cons_zero, List.getElem?_cons_succ] at d0 d1
  have hb' := hb.below HB.out hb.lt
  obtain ⟨c0, c1, _⟩ := cellN hb'
  have rk := kx_range hk
  have rp := kx_range hp
  have hS : standE (kx k) (kn k) (kx p) (kn p) = .returned (.tuple #[.int .i64 (standK k p), .int .i64 0]) := by
    unfold standE; rw [if_pos ⟨kp_right hk, kp_right hp⟩, stand_pre hk hp]; rfl
  have HC := Lib.hid (fun W => stands_any (kx k) (kn k) (kx p) (kn p) rk.1 rk.2 rp.1 rp.2 W)
  rw [hS] at HC
  have hl := hb.lt
  generalize standK k p = s at *
  generalize kx k = x at *
  generalize kn k = n at *
  generalize kx p = y at *
  generalize kn p = m at *
  clear hb hb' b2 hS rk rp
  go_enter Try.func78, Try.ntmps78
  go_wp2_with fail
  generalize (w.alloc (.cells #[.int .u32 y, .int .i64 m] 34)) = W at *
  have k00 := cell_regrown c0
  have k01 := cell_regrown c1
  have k10 := cell_regrown d0
  have k11 := cell_regrown d1
  have cS : ∀ d os, Calls Try.prog 88 #[pfx x n, pfx y m] (grow (redrawn W d) os) fun e w'' => e = .returned (.tuple #[.int .i64 s, .int .i64 0]) ∧ ∃ p : Regrown, w'' = grow (redrawn W p.d) p.os := fun d os => Calls.regrown_of (HC.out _)
  clear c0 c1 d0 d1
  refine wp_region_quiet_below (by kernel_rfl) (by kernel_rfl) ?_
  repeat (quiet_step (with_reducible exact cS _ _))
  refine wpQuiet_nil ?_
  intro w3 hw3
  obtain ⟨⟨dq, osq⟩, rfl⟩ := hw3
  have HB4 := Lib.hid (HB.out.trans ((below_regrown W dq osq).mono HB.out.size))
  generalize grow (redrawn W dq) osq = w4 at *
  clear k00 k01 k10 k11 cS
  go_wp2_with fail
  go_ret
  exact ⟨rfl, HB4.out⟩
theorem holds6_any (k p : Key) (hk : k.length ≤ 32) (hp : p.length ≤ 32) (h : Bool) (v : Int) (l r : Tr) (b : Nat) (w : World) (hb : Blk w b 81 (cellsN k h v l r)) :
    Calls Try.prog 61 #[.pointer (some ⟨b, 0, none⟩), pfx (kx p) (kn p)] w fun e w' => e = .returned (.bool (decide (k <+: p))) ∧ Below w.heap.size w w' := by
  have HB := Lib.hid (box_below w (.cells #[.int .u32 (kx p), .int .i64 (kn p)] 34))
  have b2 := Blk.new w 34 #[.int .u32 (kx p), .int .i64 (kn p)]
  have d0 := b2.cell 0
  have d1 := b2.cell 1
  simp only [List.getElem?_toArray, List.getElem?_cons_zero, List.getElem?_cons_succ] at d0 d1
  have HBB := Lib.hid (hb.below HB.out hb.lt)
  have hs : (standK k p = 1 ∧ decide (k <+: p) = true) ∨ (¬ standK k p = 1 ∧ standK k p = 3 ∧ decide (k <+: p) = true) ∨ (¬ standK k p = 1 ∧ ¬ standK k p = 3 ∧ decide (k <+: p) = false) := by
    unfold standK
    by_cases h1 : k = p
    · subst h1; left; exact ⟨if_pos rfl, by simp⟩
    · rw [if_neg h1]
      by_cases h2 : p <+: k
      · rw [if_pos h2]
        right; right
        refine ⟨by decide, by decide, decide_eq_false fun h3 => h1 (List.IsPrefix.eq_of_length_le h3 h2.length_le)⟩
      · rw [if_neg h2]
        by_cases h3 : k <+: p
        · rw [if_pos h3]; right; left; exact ⟨by decide, rfl, decide_eq_true h3⟩
        · rw [if_neg h3]; right; right; exact ⟨by decide, by decide, decide_eq_false h3⟩
  have HC := Lib.hid (fun W hW => stands6_any k p hk hp h v l r b W hW)
  generalize standK k p = s at *
  generalize kx p = y at *
  generalize kn p = m at *
  generalize decide (k <+: p) = q at *
  clear hb b2
  rcases hs with ⟨rfl, rfl⟩ | ⟨h1, rfl, rfl⟩ | ⟨h1, h2, rfl⟩
  all_goals
    try have e1 : (s == 1) = false := by simpa using h1
    try have e2 : (s == 3) = false := by simpa using h2
    go_enter Try.func61, Try.ntmps61
    go_wp2_with fail
    refine (HC.out _ HBB.out).mono ?_
    rintro e w1 ⟨rfl, hb⟩
    have HB2 := Lib.hid (HB.out.trans (hb.mono HB.out.size))
    clear hb
    go_wp2_with fail
    go_ret
    exact ⟨rfl, HB2.out⟩
end T6
end Go.Proofs.Ytghkacciihocdaa
