/- How entries, and a datagram, that came in are opened. -/
import Derived.Test.YtehhablobfaplaaDoorP20
import Derived.Test.YtehhablobfaplaaDoorP26a
import Derived.Test.YtehhablobfaplaaDoorX2
import Derived.Deep.Slices
namespace Go.Proofs.YtehhablobfaplaaDoor
open Go Go.RowKit Go.ChangeShapes Go.WideShapes Go.ChangeAt

theorem cellsC : Tryd.prog.cellsOf 22 = 1 := by kernel_rfl
theorem cellsD : Tryd.prog.cellsOf 25 = 2 := by kernel_rfl
theorem cellsSE : Tryd.prog.cellsOf 23 = 1 := by kernel_rfl
set_option maxRecDepth 100000 in
/-- Six cells that are an entry. -/
theorem trod_entry {H : Type} {enc : TypeId × Value → H} {w : World} {base fuel : Nat} {sp : Nat → Bool} {held : Bool} {cs : List Value} {x : DataW H × List MemPlace}
    (h : DataW.trod enc Tryd.prog w base sp held fuel 55 cs = some x) : ∃ e : Ent, e.Ok ∧ cs = (sixA e).toList := by
  obtain ⟨xs, n, _, _, hcl, hlen, hfs⟩ := DataW.trod_struct Tryd.underlying55 h
  rw [cellsE] at hcl
  match cs, hcl, xs, hlen with
  | [c0, c1, c2, c3, c4, c5], _, [y0, y1, y2, y3, y4, y5], _ =>
    have h0 := hfs 0 _ rfl
    have h1 := hfs 1 _ rfl
    have h2 := hfs 2 _ rfl
    have h3 := hfs 3 _ rfl
    have h4 := hfs 4 _ rfl
    have h5 := hfs 5 _ rfl
    simp [cellsI, cellsA, cellsU] at h0 h1 h2 h3 h4 h5
    obtain ⟨f, e0, _, w0⟩ := DataW.trod_int Tryd.underlying3 h0
    obtain ⟨t, e1, _, w1⟩ := DataW.trod_int Tryd.underlying3 h1
    obtain ⟨a, e2, _, w2⟩ := DataW.trod_int Tryd.underlying53 h2
    obtain ⟨m, e3, _, w3⟩ := DataW.trod_int Tryd.underlying53 h3
    obtain ⟨q, e4, _, w4⟩ := DataW.trod_int Tryd.underlying53 h4
    obtain ⟨k, e5, _, w5⟩ := DataW.trod_int Tryd.underlying52 h5
    simp at e0 e1 e2 e3 e4 e5
    subst e0 e1 e2 e3 e4 e5
    have b2 := wf0_u32 w2
    have b3 := wf0_u32 w3
    have b4 := wf0_u32 w4
    have b5 := wf0_u32 w5
    exact ⟨⟨f, t, a, m, q, k⟩, ⟨b2.1, b2.2, b3.1, b3.2, b4.1, b4.2, b5.1, b5.2⟩, rfl⟩

set_option maxRecDepth 100000 in
/-- A slice of entries that came in. -/
theorem trod_entries {H : Type} {enc : TypeId × Value → H} {w : World} {base fuel : Nat} {sp : Nat → Bool} {held : Bool} {v : Value} {x : DataW H × List MemPlace}
    (h : DataW.trod enc Tryd.prog w base sp held fuel 23 [v] = some x) : ∃ (a : Option Addr) (l : List Ent) (c : Nat), v = .slice a l.length c ∧ l.length ≤ c ∧ OkL l ∧ EntS w a l := by
  rcases Go.Deep.open_slice Tryd.underlying23 h with ⟨hcs, _⟩ | ⟨a, len, cap, m, n, D, Pl, hcs, _, hl, _, hm, _, hi⟩
  · simp at hcs
    subst hcs
    exact ⟨none, [], 0, rfl, Nat.le_refl _, fun e he => by simp at he, fun h => absurd h (by simp)⟩
  · simp at hcs
    subst hcs
    have hlm : len ≤ m := by rw [hm]; split <;> omega
    have each : ∀ i, i < len → ∃ e : Ent, e.Ok ∧ ∀ r, r < 6 → w.cell? ((a.add (i * 6)).add r) = (sixA e)[r]? := fun i hil => by
      obtain ⟨cs', hc, ht⟩ := hi i (by omega)
      obtain ⟨e, ho, he⟩ := trod_entry ht
      rw [cellsE] at hc
      obtain ⟨_, _, hat⟩ := World.cells?_some hc
      refine ⟨e, ho, fun r hr => ?_⟩
      rw [hat r hr, he]
      simp
    obtain ⟨f, hf⟩ : ∃ f : Nat → Ent, ∀ i, i < len → (f i).Ok ∧ ∀ r, r < 6 → w.cell? ((a.add (i * 6)).add r) = (sixA (f i))[r]? := by
      refine ⟨fun i => if h : i < len then (each i h).choose else ⟨0, 0, 0, 0, 0, 0⟩, fun i h => ?_⟩
      dsimp only
      rw [dif_pos h]
      exact (each i h).choose_spec
    have hll : ((List.range len).map f).length = len := by simp
    refine ⟨some a, (List.range len).map f, cap, by rw [hll], by omega, fun e he => ?_, fun h0 => ?_⟩
    · obtain ⟨i, hi2, rfl⟩ := List.mem_map.1 he
      exact (hf i (by simpa using hi2)).1
    · rw [hll] at h0
      have c0 := (hf 0 h0).2 0 (by omega)
      obtain ⟨b, o, spot⟩ := a
      have hsix : (sixA (f 0))[0]? = some (.int .i64 (f 0).f) := rfl
      rw [hsix] at c0
      have hspot : spot = none := by simpa [Addr.add] using World.cell?_spot c0
      subst hspot
      rw [Addr.add_lit, Addr.add_lit] at c0
      refine ⟨b, o, rfl, World.block_lt_of_cell? _ _ c0, fun j hj r hr => ?_⟩
      rw [hll] at hj
      have := (hf j hj).2 r hr
      rw [Addr.add_lit, Addr.add_lit] at this
      rw [this]
      simp

set_option maxRecDepth 100000 in
theorem open_entries {H : Type} {enc : TypeId × Value → H} {w : World} {base b0 : Nat} {sp : Nat → Bool} {held : Bool} {r : Reach} {v : Value} {d : DataW H} {p : List MemPlace}
    (hv : Value.okWide Tryd.prog w r b0 23 v) (h : DataW.Trod enc Tryd.prog w base sp held 23 v d p) :
    ∃ (a : Option Addr) (l : List Ent) (c : Nat), v = .slice a l.length c ∧ l.length ≤ c ∧ OkL l ∧ EntS w a l := by
  obtain ⟨a0, len, cap, rfl⟩ := okWide_slice Tryd.underlying23 hv
  obtain ⟨fuel, hf⟩ := h
  exact trod_entries (v := .slice a0 len cap) (by simpa [Value.cells] using hf)
set_option maxRecDepth 100000 in
/-- A datagram that came in. -/
theorem open_datagram {H : Type} {enc : TypeId × Value → H} {w : World} {base b0 : Nat} {sp : Nat → Bool} {held : Bool} {r : Reach} {v : Value} {d : DataW H} {p : List MemPlace}
    (hv : Value.okWide Tryd.prog w r b0 25 v) (h : DataW.Trod enc Tryd.prog w base sp held 25 v d p) :
    ∃ (c : Int) (a : Option Addr) (l : List Ent) (k : Nat), v = datV c a l.length k ∧ -9223372036854775808 ≤ c ∧ c ≤ 9223372036854775807 ∧ l.length ≤ k ∧ OkL l ∧ EntS w a l := by
  obtain ⟨v0, v1, y0, y1, n, rfl, _, _, h0, h1⟩ := Joins.open_agg2 Tryd.underlying25 (by kernel_rfl) cellsD hv h
  obtain ⟨c, e0, _, w0⟩ := DataW.trod_int Tryd.underlying22 h0
  simp at e0
  subst e0
  obtain ⟨a, l, k, rfl, hk, ho, hE⟩ := trod_entries h1
  have b0 := bounds_i64 w0
  exact ⟨c, a, l, k, rfl, b0.1, b0.2, hk, ho, hE⟩
end Go.Proofs.YtehhablobfaplaaDoor
