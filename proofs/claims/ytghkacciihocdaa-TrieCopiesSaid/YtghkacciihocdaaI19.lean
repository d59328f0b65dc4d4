/- Layer 6's program: count, depth; what fold makes of them. -/
import Derived.Test.YtghkacciihocdaaI18
import Derived.Test.YtghkacciihocdaaShelf
namespace Go.Proofs.Ytghkacciihocdaa
open Go Go.RowKit Go.Shelf Go.Sort
attribute [local go_sem] Oper.semAt_some
namespace T6

/-- A node's value. -/
abbrev nodeV (k : Key) (h : Bool) (v : Int) (l r : Tr) : Value := .agg #[.int .u32 (kx k), .int .i64 (kn k), .bool h, .int .i64 v, .pointer (ptr l), .pointer (ptr r)]
theorem count_any (c0 c1 c2 c3 c4 c5 : Value) (s : Nat) (x0 x1 : Int) (hx0 : 0 ≤ x0) (hx1 : 0 ≤ x1) (hs : x0 + x1 ≤ 100000) (w : World) (hb : Blk w s 3 #[.int .i64 x0, .int .i64 x1]) :
    Calls Try.prog 55 #[.agg #[c0, c1, c2, c3, c4, c5], .slice (some ⟨s, 0, none⟩) 2 2] w fun e w' => e = .returned (.int .i64 (1 + x0 + x1)) ∧ Below w.heap.size w w' := by
  have HB := Lib.hid (box_below w (.cells #[c0, c1, c2, c3, c4, c5] 81))
  have hb' := hb.below HB.out hb.lt
  have d0 := hb'.cell 0
  have d1 := hb'.cell 1
  simp only [List.getElem?_toArray, List.getElem?_cons_zero, List.getElem?_cons_succ] at d0 d1
  have hw1 : IntKind.i64.wrap (1 + x0) = 1 + x0 := by rw [IntKind.wrap_i64]; omega
  have hw2 : IntKind.i64.wrap (1 + x0 + x1) = 1 + x0 + x1 := by rw [IntKind.wrap_i64]; omega
  clear hb hb'
  go_enter Try.func55, Try.ntmps55
  go_wp2_with fail
  refine wp_loop_rounds 3 ?_
  repeat (rw [rounds_succ]; go_wp2_with fail)
  go_ret
  exact ⟨rfl, HB.out⟩
theorem depth6_any (c0 c1 c2 c3 c4 c5 : Value) (s : Nat) (x0 x1 : Int) (hx0 : 0 ≤ x0) (hx1 : 0 ≤ x1) (hs : x0 ≤ 100000 ∧ x1 ≤ 100000) (w : World) (hb : Blk w s 3 #[.int .i64 x0, .int .i64 x1]) :
    Calls Try.prog 56 #[.agg #[c0, c1, c2, c3, c4, c5], .slice (some ⟨s, 0, none⟩) 2 2] w fun e w' => e = .returned (.int .i64 (1 + max x0 x1)) ∧ Below w.heap.size w w' := by
  have HB := Lib.hid (box_below w (.cells #[c0, c1, c2, c3, c4, c5] 81))
  have hb' := hb.below HB.out hb.lt
  have hm : Lib.maxOf ([x0, x1].take 2) = max x0 x1 := by simp [Lib.maxOf, Int.max_def]
  have HM := Lib.hid (Try.slices_Max_int s 0 2 2 [x0, x1] _ (by decide) (by simp) (by decide) (fun j hj => by
    have e : (⟨s, 0 + j, none⟩ : Addr) = ⟨s, j, none⟩ := by rw [Nat.zero_add]
    rw [e, hb'.cell]
    match j, hj with
    | 0, _ => rfl
    | 1, _ => rfl
    | j + 2, hj => (simp at hj; omega)))
  rw [hm] at HM
  have hm0 : 0 ≤ max x0 x1 := by omega
  have hm1 : max x0 x1 ≤ 100000 := by omega
  generalize max x0 x1 = mx at *
  have hw1 : IntKind.i64.wrap (1 + mx) = 1 + mx := by rw [IntKind.wrap_i64]; omega
  clear hb hb' hm
  go_enter Try.func56, Try.ntmps56
  go_wp2_with fail
  refine HM.out.mono ?_
  rintro e w1 ⟨rfl, rfl⟩
  go_wp2_with fail
  go_ret
  exact ⟨rfl, HB.out⟩
theorem depth_keys (t : Tr) : t.depth ≤ t.keys.length := by
  induction t with
  | nil => simp [Tr.depth]
  | node b k h v l r ihl ihr =>
    have hd : (Tr.node b k h v l r).depth = 1 + max l.depth r.depth := rfl
    simp only [Tr.keys, List.length_cons, List.length_append]
    omega
end T6
end Go.Proofs.Ytghkacciihocdaa
