/- Layer 4's program: All, Prefix, Of, Name. -/
import Derived.Test.YtehhablobfaplaaDoorW3
import Derived.Test.YtehhablobfaplaaDoorW2
import Derived.Defers
import Derived.Recover
namespace Go.Proofs.YtehhablobfaplaaDoor
open Go Go.RowKit
attribute [local go_sem] Oper.semAt_some

theorem blks2 (w : World) (tA tB : TypeId) (A B : Array Value) {w1 : World} (hb : Below ((w.alloc (.cells A tA)).alloc (.cells B tB)).heap.size ((w.alloc (.cells A tA)).alloc (.cells B tB)) w1) :
    Blk w1 w.heap.size tA A ∧ Blk w1 (w.heap.size + 1) tB B ∧ Below w.heap.size w w1 := by
  refine ⟨((Blk.new w _ _).alloc _).below hb (by simp; omega), ?_, (two_below w _ _).trans (hb.mono (by simp; omega))⟩
  have := Blk.new (w.alloc (.cells A tA)) tB B
  simpa using this.below hb this.lt
theorem blks3 (w : World) (tA tB tC : TypeId) (A B C : Array Value) {w1 : World} (hb : Below (((w.alloc (.cells A tA)).alloc (.cells B tB)).alloc (.cells C tC)).heap.size (((w.alloc (.cells A tA)).alloc (.cells B tB)).alloc (.cells C tC)) w1) :
    Blk w1 w.heap.size tA A ∧ Blk w1 (w.heap.size + 1) tB B ∧ Blk w1 (w.heap.size + 1 + 1) tC C ∧ Below w.heap.size w w1 := by
  have h1 := ((two_below w (.cells A tA) (.cells B tB)).alloc (by simp; omega) (.cells C tC))
  refine ⟨(((Blk.new w _ _).alloc _).alloc _).below hb (by simp; omega), ?_, ?_, h1.trans (hb.mono (by simp; omega))⟩
  · have := (Blk.new (w.alloc (.cells A tA)) tB B).alloc (.cells C tC)
    simpa using this.below hb this.lt
  · have := Blk.new ((w.alloc (.cells A tA)).alloc (.cells B tB)) tC C
    simpa using this.below hb this.lt

set_option maxRecDepth 100000 in
theorem all4_any (w : World) :
    Calls Tryd.prog 30 #[] w fun en w' => en = .returned (entV allE) ∧ Below w.heap.size w w' := by
  go_enter Tryd.func30, Tryd.ntmps30
  go_wp2_with fail
  refine ⟨rfl, entV allE, ?_, rfl, (Below.refl _ _).alloc (Nat.le_refl _) _⟩
  simp [results, Tryd.f30, go_sem, allE]

/-- Of's entry is good just if its prefix may be told. -/
theorem why_one {x metric : Int} {j : Nat} (hj : j ≤ 32) (m0 : 1 ≤ metric) (m1 : metric ≤ 16) : whyE (oneE x j metric) = 0 ↔ goodP x j := by
  constructor
  · intro h
    obtain ⟨-, ⟨i, i32, hi, hm, hg⟩, -⟩ := whyE_zero.1 h
    have : maskOf i = maskOf j := by simpa [oneE] using hm
    rw [maskOf_inj _ _ i32 hj this] at hg
    exact hg
  · intro h
    exact (pre_one h m0 m1).1

theorem oneE_ok {x metric : Int} {j : Nat} (x0 : 0 ≤ x) (x1 : x < 4294967296) (m0 : 1 ≤ metric) (m1 : metric ≤ 16) : (oneE x j metric).Ok := by
  have := maskOf_range j
  refine ⟨x0, x1, ?_, ?_, by simp [oneE], by simp [oneE], by simp [oneE]; omega, by simp [oneE]; omega⟩
  · simp only [oneE, Int.toNat_natCast]; omega
  · simp only [oneE, Int.toNat_natCast]; omega

end Go.Proofs.YtehhablobfaplaaDoor
