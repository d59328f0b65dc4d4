/- Layer 6's program: where a tree lies; New, isNone, first, Len, set. -/
import Derived.Test.YtghkacciihocdaaA0
import Derived.Test.YtghkacciihocdaaU1
import Derived.Test.YtghkacciihocdaaF2
namespace Go.Proofs.Ytghkacciihocdaa
open Go Go.RowKit
attribute [local go_sem] Oper.semAt_some
namespace T6

/-- Where a tree's first node lies. -/
def ptr : Tr → Option Addr
  | .nil => none
  | .node b _ _ _ _ _ => some ⟨b, 0, none⟩
def cellsN (k : Key) (h : Bool) (v : Int) (l r : Tr) : Array Value := #[.int .u32 (kx k), .int .i64 (kn k), .bool h, .int .i64 v, .pointer (ptr l), .pointer (ptr r)]
/-- The tree's nodes lie in memory. -/
def Lies (w : World) : Tr → Prop
  | .nil => True
  | .node b k h v l r => Blk w b 81 (cellsN k h v l r) ∧ Lies w l ∧ Lies w r
theorem Lies.lt {w : World} : ∀ {t : Tr}, Lies w t → ∀ b ∈ t.blks, b < w.heap.size
  | .nil, _, b, hb => by simp [Tr.blks] at hb
  | .node c k h v l r, ⟨h1, h2, h3⟩, b, hb => by
    simp only [Tr.blks, List.mem_cons, List.mem_append] at hb
    rcases hb with rfl | hb | hb
    · exact h1.lt
    · exact Lies.lt h2 b hb
    · exact Lies.lt h3 b hb
theorem Lies.keep {w w' : World} : ∀ {t : Tr}, Lies w t → (∀ b ∈ t.blks, w'.heap[b]? = w.heap[b]?) → Lies w' t
  | .nil, _, _ => trivial
  | .node c k h v l r, ⟨h1, h2, h3⟩, hk => by
    refine ⟨(hk c (by simp [Tr.blks])).trans h1, Lies.keep h2 fun b hb => hk b (by simp [Tr.blks, hb]), Lies.keep h3 fun b hb => hk b (by simp [Tr.blks, hb])⟩
theorem Lies.below {w w' : World} {t : Tr} (h : Lies w t) (hb : Below w.heap.size w w') : Lies w' t := h.keep fun b hbb => hb.block b (h.lt b hbb)

theorem Lies.drew {w : World} {t : Tr} (h : Lies w t) : Lies w.drew t := h.keep fun _ _ => rfl
/-- A trie: its own block, its tree. -/
structure Trie (w : World) (g : Nat) (t : Tr) : Prop where
  own : Blk w g 73 #[.bool true, .pointer (ptr t), .int .i64 t.rows.length]
  lies : Lies w t
  wf : t.WF
  nd : (g :: t.blks).Nodup
theorem Trie.below {w w' : World} {g : Nat} {t : Tr} (h : Trie w g t) (hb : Below w.heap.size w w') : Trie w' g t := ⟨h.own.below hb h.own.lt, h.lies.below hb, h.wf, h.nd⟩

theorem new6_any (w : World) : Calls Try.prog 10 #[] w fun e w' => e = .returned (.pointer (some ⟨w.heap.size, 0, none⟩)) ∧ w' = w.alloc (.cells #[.bool true, .pointer none, .int .i64 0] 73) := by
  go_enter Try.func10, Try.ntmps10
  go_wp2_with fail
  go_ret
  exact ⟨rfl, rfl⟩
theorem isNone0_any (w : World) : Calls Try.prog 53 #[.pointer none] w fun e w' => e = .returned (.bool true) ∧ w = w' := by
  go_enter Try.func53, Try.ntmps53
  go_wp2_with fail
  go_ret
  exact ⟨rfl, rfl⟩
theorem isNone_any (w : World) (g : Nat) (v1 v2 : Value) (h : Blk w g 73 #[.bool true, v1, v2]) : Calls Try.prog 53 #[.pointer (some ⟨g, 0, none⟩)] w fun e w' => e = .returned (.bool false) ∧ w = w' := by
  have c0 := h.cell 0
  simp only [List.getElem?_toArray, List.getElem?_cons_zero] at c0
  clear h
  go_enter Try.func53, Try.ntmps53
  go_wp2_with fail
  go_ret
  exact ⟨rfl, rfl⟩
theorem first0_any (w : World) : Calls Try.prog 47 #[.pointer none] w fun e w' => e = .returned (.pointer none) ∧ w = w' := by
  go_enter Try.func47, Try.ntmps47
  go_wp2_with fail
  refine (isNone0_any _).mono ?_
  rintro e w1 ⟨rfl, rfl⟩
  go_wp2_with fail
  go_ret
  exact ⟨rfl, rfl⟩
theorem first_any (w : World) (g : Nat) (p : Option Addr) (v2 : Value) (h : Blk w g 73 #[.bool true, .pointer p, v2]) : Calls Try.prog 47 #[.pointer (some ⟨g, 0, none⟩)] w fun e w' => e = .returned (.pointer p) ∧ w = w' := by
  have c1 := h.cell 1
  simp only [List.getElem?_toArray, List.getElem?_cons_zero, List.getElem?_cons_succ] at c1
  have HH := Lib.hid h
  clear h
  go_enter Try.func47, Try.ntmps47
  go_wp2_with fail
  refine (isNone_any _ g _ _ HH.out).mono ?_
  rintro e w1 ⟨rfl, rfl⟩
  go_wp2_with fail
  go_ret
  exact ⟨rfl, rfl⟩
theorem len0_any (w : World) : Calls Try.prog 26 #[.pointer none] w fun e w' => e = .returned (.int .i64 0) ∧ w = w' := by
  go_enter Try.func26, Try.ntmps26
  go_wp2_with fail
  refine (isNone0_any _).mono ?_
  rintro e w1 ⟨rfl, rfl⟩
  go_wp2_with fail
  go_ret
  exact ⟨rfl, rfl⟩
theorem len6_any (w : World) (g : Nat) (v1 : Value) (n : Int) (h : Blk w g 73 #[.bool true, v1, .int .i64 n]) : Calls Try.prog 26 #[.pointer (some ⟨g, 0, none⟩)] w fun e w' => e = .returned (.int .i64 n) ∧ w = w' := by
  have c1 := h.cell 2
  simp only [List.getElem?_toArray, List.getElem?_cons_zero, List.getElem?_cons_succ] at c1
  have HH := Lib.hid h
  clear h
  go_enter Try.func26, Try.ntmps26
  go_wp2_with fail
  refine (isNone_any _ g _ _ HH.out).mono ?_
  rintro e w1 ⟨rfl, rfl⟩
  go_wp2_with fail
  go_ret
  exact ⟨rfl, rfl⟩
/-- A node is given a value. -/
theorem set6_any (w : World) (b : Nat) (cs : Array Value) (v : Int) (hs : cs.size = 6) (h : Blk w b 81 cs) : Calls Try.prog 43 #[.pointer (some ⟨b, 0, none⟩), .int .i64 v] w fun e w' => (∃ u, e = .returned u) ∧ w' = (w.setCell ⟨b, 2, none⟩ (.bool true)).setCell ⟨b, 3, none⟩ (.int .i64 v) := by
  obtain ⟨cl, rfl⟩ : ∃ cl : List Value, cs = cl.toArray := ⟨cs.toList, by simp⟩
  match cl, hs with
  | [u0, u1, u2, u3, u4, u5], _ =>
  have c2 := h.cell 2
  have c3 := (h.set_ 2 (.bool true)).cell 3
  have f2 := h.frozen 2
  have f3 := (h.set_ 2 (.bool true)).frozen 3
  simp only [List.getElem?_toArray, List.getElem?_cons_zero, List.getElem?_cons_succ, List.setIfInBounds_toArray, List.set_cons_zero, List.set_cons_succ] at c2 c3
  clear h
  go_enter Try.func43, Try.ntmps43
  go_wp2_with fail
  go_end0
  exact ⟨⟨_, rfl⟩, rfl⟩
end T6
end Go.Proofs.Ytghkacciihocdaa
