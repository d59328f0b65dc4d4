/- Contracts of the reference of layer 2: Order; a function with two prefixes and an answer in memory. -/
import Derived.Test.YtfbfdjcdjogefaaDoorC3
import Derived.Lib.QuietBelow
import Derived.WalkLawsBesides
import Derived.BigQuiet
import Derived.Deep.QuietTactic
import Derived.Deep.DeepFit
namespace Go.Proofs.YtfbfdjcdjogefaaDoor
open Go Go.RowKit Go.Sort
attribute [local go_sem] Oper.semAt_some

/-- A prefix as a value. -/
abbrev pfx (x n : Int) : Value := .agg #[.int .u32 x, .int .i64 n]

theorem two_below (w : World) (a b : Obj) : Below w.heap.size w ((w.alloc a).alloc b) := ((Below.refl _ _).alloc (Nat.le_refl _) _).alloc (by simp) _

def ordF (x n y m : Int) : Int := if x = y ∧ n = m then 0 else if x < y ∨ (x = y ∧ n < m) then -1 else 1

theorem bit_quiet (a : Int) (a0 : 0 ≤ a) (a1 : a < 4294967296) (q : Nat) (hq : q ≤ 31) (W : World) : ∀ d os, Calls Tryd.prog 65 #[.int .u32 a, .int .i64 q] (grow (redrawn W d) os) fun e w'' => e = .returned (.int .i64 (bitN a q)) ∧ ∃ p : Regrown, w'' = grow (redrawn W p.d) p.os := fun d os => by
  refine Calls.regrown_of ((refBit_any a q a0 a1 _).mono ?_)
  rintro e w' ⟨rfl, rfl⟩
  exact ⟨by rw [bitOf_at a q hq], Below.refl _ _⟩

/-- A function's own three blocks: the two prefixes that came in, and its answer. -/
def Own3 (w : World) (x n y m : Int) (W : World) : Prop := Blk W w.heap.size 41 #[.int .u32 x, .int .i64 n] ∧ Blk W (w.heap.size + 1) 41 #[.int .u32 y, .int .i64 m] ∧ Blk W (w.heap.size + 2) 41 #[.int .u32 0, .int .i64 0] ∧ Below w.heap.size w W
theorem own3_new (w : World) (x n y m : Int) : Own3 w x n y m (((w.alloc (.cells #[.int .u32 x, .int .i64 n] 41)).alloc (.cells #[.int .u32 y, .int .i64 m] 41)).alloc (.cells #[.int .u32 0, .int .i64 0] 41)) := by
  refine ⟨((Blk.new w _ _).alloc _).alloc _, ?_, ?_, (two_below w _ _).alloc (by simp; omega) _⟩
  · have := (Blk.new (w.alloc (.cells #[.int .u32 x, .int .i64 n] 41)) 41 #[.int .u32 y, .int .i64 m]).alloc (.cells #[.int .u32 0, .int .i64 0] 41)
    simpa using this
  · have := Blk.new ((w.alloc (.cells #[.int .u32 x, .int .i64 n] 41)).alloc (.cells #[.int .u32 y, .int .i64 m] 41)) 41 #[.int .u32 0, .int .i64 0]
    simpa using this
theorem Own3.below {w W W' : World} {x n y m : Int} (h : Own3 w x n y m W) (hb : Below W.heap.size W W') : Own3 w x n y m W' :=
  ⟨h.1.below hb h.1.lt, h.2.1.below hb h.2.1.lt, h.2.2.1.below hb h.2.2.1.lt, h.2.2.2.trans (hb.mono h.2.2.2.size)⟩


end Go.Proofs.YtfbfdjcdjogefaaDoor
