/- Layer 6's program: beneath, needed. -/
import Derived.Test.YtghkacciihocdaaI2
namespace Go.Proofs.Ytghkacciihocdaa
open Go Go.RowKit Go.Sort
attribute [local go_sem] Oper.semAt_some
attribute [local irreducible] wpQuiet
namespace T6

/-- The place of the node on a side. -/
def side (x : Bool) : Nat := if x then 5 else 4
theorem bit_quiet6 (y n r : Int) (HC : Hid (∀ W, Calls Try.prog 89 #[.int .u32 y, .int .i64 n] W fun e w' => e = .returned (.int .i64 r) ∧ W = w')) (W : World) : ∀ d os, Calls Try.prog 89 #[.int .u32 y, .int .i64 n] (grow (redrawn W d) os) fun e w'' => e = .returned (.int .i64 r) ∧ ∃ p : Regrown, w'' = grow (redrawn W p.d) p.os := fun _ _ =>
  Calls.regrown_of ((HC.out _).mono fun _ _ ⟨he, hw⟩ => ⟨he, by rw [hw]; exact Below.refl _ _⟩)
set_option maxRecDepth 100000 in
set_option maxHeartbeats 1600000 in
theorem beneath6_any (k p : Key) (x : Bool) (hp : p.length ≤ 32) (hkp : k ++ [x] <+: p) (h : Bool) (v : Int) (l r : Tr) (b : Nat) (w : World) (hb : Blk w b 81 (cellsN k h v l r)) :
    Calls Try.prog 79 #[.pointer (some ⟨b, 0, none⟩), pfx (kx p) (kn p)] w fun e w' => e = .returned (.pointer (some ⟨b, side x, none⟩)) ∧ Below w.heap.size w w' := by
  have HB := Lib.hid (box_below w (.cells #[.int .u32 (kx p), .int .i64 (kn p)] 34))
  have b2 := Blk.new w 34 #[.int .u32 (kx p), .int .i64 (kn p)]
  have d0 := b2.cell 0
  have d1 := b2.cell 1
  simp only [List.getElem?_toArray, List.getElem?_cons_zero, List.getElem?_cons_succ] at d0 d1
  have hb' := hb.below HB.out hb.lt
  obtain ⟨c0, c1, _⟩ := cellN hb'
  have rp := kx_range hp
  have HC := Lib.hid (fun W => bit2_any (kx p) (kn k) rp.1 rp.2 W)
  rw [bit_next hp hkp] at HC
  have hl := hb.lt
  generalize kx k = x0 at *
  generalize kn k = n at *
  generalize kx p = y at *
  generalize kn p = m at *
  clear hb hb' b2 rp
  cases x
  all_goals
    simp only [side, if_true, if_false, Bool.false_eq_true] at HC ⊢
    go_enter Try.func79, Try.ntmps79
    go_wp2_with fail
    generalize (w.alloc (.cells #[.int .u32 y, .int .i64 m] 34)) = W at *
    have k00 := cell_regrown c0
    have k01 := cell_regrown c1
    have k10 := cell_regrown d0
    have k11 := cell_regrown d1
    have cS := bit_quiet6 _ _ _ HC W
    clear c0 c1 d0 d1
    refine wp_region_quiet_below (by kernel_rfl) (by kernel_rfl) ?_
    repeat (quiet_step (with_reducible exact cS _ _))
    refine wpQuiet_nil ?_
    intro w3 hw3
    obtain ⟨⟨dq, osq⟩, rfl⟩ := hw3
    have HB4 := Lib.hid (HB.out.trans ((below_regrown W dq osq).mono HB.out.size))
    generalize grow (redrawn W dq) osq = w4 at *
    clear k00 k01 k10 k11 cS
    go_wp2_with fail
    go_ret
    exact ⟨rfl, HB4.out⟩

/-- The first of two that is there. -/
def orP (a c : Option Addr) : Option Addr := if a = none then c else a
set_option maxHeartbeats 1600000 in
theorem or6_any (b : Nat) (a c : Option Addr) (cap : Nat) (w : World) (c0 : w.cell? ⟨b, 4, none⟩ = some (.pointer a)) (c1 : w.cell? ⟨b, 5, none⟩ = some (.pointer c)) :
    Calls Try.prog 87 #[.slice (some ⟨b, 4, none⟩) 2 cap] w fun e w' => e = .returned (.pointer (orP a c)) ∧ w = w' := by
  rcases a with _ | a
  · rcases c with _ | c
    all_goals
      go_enter Try.func87, Try.ntmps87
      go_wp2_with fail
      refine wp_loop_rounds 3 ?_
      repeat (rw [rounds_succ]; go_wp2_with fail)
      go_ret
      exact ⟨rfl, rfl⟩
  · go_enter Try.func87, Try.ntmps87
    go_wp2_with fail
    refine wp_loop_rounds 3 ?_
    repeat (rw [rounds_succ]; go_wp2_with fail)
    go_ret
    exact ⟨rfl, rfl⟩
/-- What stands in a node's place: itself, if it is needed, else what is beneath. -/
def Tr.needed : Tr → Tr
  | .nil => .nil
  | .node b k h v l r => if h = true ∨ (ptr l ≠ none ∧ ptr r ≠ none) then .node b k h v l r else if ptr l = none then r else l
theorem ptr_nil {t : Tr} : ptr t = none ↔ t = .nil := by cases t <;> simp [ptr]
theorem ptr_needed (b : Nat) (k : Key) (h : Bool) (v : Int) (l r : Tr) : ptr (Tr.node b k h v l r).needed = if h = true ∨ (ptr l ≠ none ∧ ptr r ≠ none) then some ⟨b, 0, none⟩ else orP (ptr l) (ptr r) := by
  show ptr (if h = true ∨ (ptr l ≠ none ∧ ptr r ≠ none) then Tr.node b k h v l r else if ptr l = none then r else l) = _
  unfold orP
  split
  · rfl
  · split <;> rfl
set_option maxRecDepth 100000 in
set_option maxHeartbeats 1600000 in
theorem needed6_any (k : Key) (h : Bool) (v : Int) (l r : Tr) (b : Nat) (w : World) (hb : Blk w b 81 (cellsN k h v l r)) :
    Calls Try.prog 73 #[.pointer (some ⟨b, 0, none⟩)] w fun e w' => e = .returned (.pointer (ptr (Tr.node b k h v l r).needed)) ∧ w = w' := by
  rw [ptr_needed]
  obtain ⟨c0, c1, c2, c3, c4, c5⟩ := cellN hb
  have HO := Lib.hid (fun cap => or6_any b (ptr l) (ptr r) cap w c4 c5)
  have hlt := hb.lt
  clear hb c0 c1 c3
  generalize ptr l = a at *
  generalize ptr r = c at *
  have fin : ∀ (q : Option Addr), (if h = true ∨ (a ≠ none ∧ c ≠ none) then some (⟨b, 0, none⟩ : Addr) else orP a c) = q → Calls Try.prog 73 #[.pointer (some ⟨b, 0, none⟩)] w (fun e w' => e = .returned (.pointer q) ∧ w = w') → Calls Try.prog 73 #[.pointer (some ⟨b, 0, none⟩)] w fun e w' => e = .returned (.pointer (if h = true ∨ (a ≠ none ∧ c ≠ none) then some ⟨b, 0, none⟩ else orP a c)) ∧ w = w' := fun q hq hc => by rw [hq]; exact hc
  cases h
  · rcases a with _ | a
    · refine fin (orP none c) (by simp) ?_
      clear fin
      go_enter Try.func73, Try.ntmps73
      go_wp2_with fail
      refine (HO.out _).mono ?_
      rintro e w1 ⟨rfl, rfl⟩
      go_wp2_with fail
      go_ret
      exact ⟨rfl, rfl⟩
    · rcases c with _ | c
      · refine fin (orP (some a) none) (by simp) ?_
        clear fin
        go_enter Try.func73, Try.ntmps73
        go_wp2_with fail
        refine (HO.out _).mono ?_
        rintro e w1 ⟨rfl, rfl⟩
        go_wp2_with fail
        go_ret
        exact ⟨rfl, rfl⟩
      · refine fin (some ⟨b, 0, none⟩) (by simp) ?_
        clear fin
        go_enter Try.func73, Try.ntmps73
        go_wp2_with fail
        go_ret
        exact ⟨rfl, rfl⟩
  · refine fin (some ⟨b, 0, none⟩) (by simp) ?_
    clear fin
    go_enter Try.func73, Try.ntmps73
    go_wp2_with fail
    go_ret
    exact ⟨rfl, rfl⟩
end T6
end Go.Proofs.Ytghkacciihocdaa
