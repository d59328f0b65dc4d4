/- How calls of a reader that came in are opened. -/
import Derived.Test.YthpmfeijnphdbaaDoorP20
import Derived.Test.YthpmfeijnphdbaaDoorN4
import Derived.Deep.SlicePairs
namespace Go.Proofs.YthpmfeijnphdbaaDoor
open Go Go.RowKit Go.ChangeShapes Go.WideShapes Go.ChangeAt

set_option maxRecDepth 100000 in
theorem open_acts {H : Type} {enc : TypeId × Value → H} {w : World} {base b0 : Nat} {sp : Nat → Bool} {held : Bool} {r : Reach} {v : Value} {d : DataW H} {p : List MemPlace}
    (hv : Value.okWide Tryd.prog w r b0 37 v) (h : DataW.Trod enc Tryd.prog w base sp held 37 v d p) :
    ∃ (a : Option Addr) (l : List (Int × Int)) (c : Nat), v = .slice a l.length c ∧ l.length ≤ c ∧ ActS w a l := by
  obtain ⟨a0, len, cap, rfl⟩ := okWide_slice Tryd.underlying37 hv
  obtain ⟨fuel, hf⟩ := h
  rcases Go.Deep.open_slice_pairs Tryd.underlying37 Tryd.underlying43 (by kernel_rfl) rfl rfl (by kernel_rfl) (by kernel_rfl) hf with ⟨hcs, _⟩ | ⟨a, len', cap', m, n, V0, V1, D0, D1, P0, P1, hcs, _, hl, _, hm, _, hi⟩
  · simp [Value.cells] at hcs
    obtain ⟨rfl, rfl, rfl⟩ := hcs
    exact ⟨none, [], 0, rfl, Nat.le_refl _, fun h => absurd h (by simp)⟩
  · simp [Value.cells] at hcs
    obtain ⟨rfl, rfl, rfl⟩ := hcs
    have hlm : len ≤ m := by rw [hm]; split <;> omega
    have hint : ∀ i, i < len → V0 i = .int .i64 (intOf (V0 i)) ∧ V1 i = .int .i64 (intOf (V1 i)) := fun i hil => by
      obtain ⟨_, _, t0, t1⟩ := hi i (by omega)
      obtain ⟨z0, e0, _, _⟩ := DataW.trod_int Tryd.underlying3 t0
      obtain ⟨z1, e1, _, _⟩ := DataW.trod_int Tryd.underlying3 t1
      simp at e0 e1
      rw [e0, e1]
      exact ⟨rfl, rfl⟩
    have hll : ((List.range len).map fun i => (intOf (V0 i), intOf (V1 i))).length = len := by simp
    refine ⟨some a, (List.range len).map fun i => (intOf (V0 i), intOf (V1 i)), cap, by rw [hll], by omega, fun h0 => ?_⟩
    rw [hll] at h0
    obtain ⟨c0, _, _, _⟩ := hi 0 (by omega)
    obtain ⟨b, o, spot⟩ := a
    have hspot : spot = none := by simpa [Addr.add] using World.cell?_spot c0
    subst hspot
    refine ⟨b, o, rfl, ?_, fun i hil => ?_⟩
    · have := World.block_lt_of_cell? _ _ c0
      rwa [Addr.add_lit] at this
    · have hil' : i < len := by rw [hll] at hil; exact hil
      obtain ⟨k0, k1, _, _⟩ := hi i (by omega)
      obtain ⟨e0, e1⟩ := hint i hil'
      rw [Addr.add_lit, e0] at k0
      rw [Addr.add_lit, e1] at k1
      refine ⟨?_, ?_⟩
      · rw [k0]; simp
      · rw [show o + i * 2 + 1 = o + (i * 2 + 1) by omega, k1]; simp
end Go.Proofs.YthpmfeijnphdbaaDoor
