/- How an entry that came in is opened. -/
import Derived.Test.YtehhablobfaplaaDoorP20
import Derived.Test.YtehhablobfaplaaDoorW2
namespace Go.Proofs.YtehhablobfaplaaDoor
open Go Go.RowKit Go.ChangeShapes Go.WideShapes Go.ChangeAt

theorem array6 {α : Type} {cs : Array α} (h : cs.size = 6) : ∃ c0 c1 c2 c3 c4 c5, cs = #[c0, c1, c2, c3, c4, c5] := by
  obtain ⟨l⟩ := cs
  match l, h with
  | [c0, c1, c2, c3, c4, c5], _ => exact ⟨c0, c1, c2, c3, c4, c5, rfl⟩
theorem cellsE : Tryd.prog.cellsOf 55 = 6 := by kernel_rfl
theorem cellsI : Tryd.prog.cellsOf 3 = 1 := by kernel_rfl
theorem cellsA : Tryd.prog.cellsOf 53 = 1 := by kernel_rfl
theorem cellsU : Tryd.prog.cellsOf 52 = 1 := by kernel_rfl
set_option maxRecDepth 100000 in
/-- An entry that came in. -/
theorem open_entry {H : Type} {enc : TypeId × Value → H} {w : World} {base b0 : Nat} {sp : Nat → Bool} {held : Bool} {r : Reach} {v : Value} {d : DataW H} {p : List MemPlace}
    (hv : Value.okWide Tryd.prog w r b0 55 v) (h : DataW.Trod enc Tryd.prog w base sp held 55 v d p) :
    ∃ e : Ent, v = entV e ∧ e.Ok ∧ -9223372036854775808 ≤ e.f ∧ e.f ≤ 9223372036854775807 ∧ -9223372036854775808 ≤ e.t ∧ e.t ≤ 9223372036854775807 := by
  obtain ⟨cs, rfl, hsz⟩ := okWide_struct Tryd.underlying55 hv
  obtain ⟨c0, c1, c2, c3, c4, c5, rfl⟩ := array6 (hsz.trans cellsE)
  obtain ⟨fuel, hf⟩ := h
  obtain ⟨xs, n, _, _, _, hlen, hfs⟩ := DataW.trod_struct Tryd.underlying55 hf
  match xs, hlen with
  | [y0, y1, y2, y3, y4, y5], _ =>
    have h0 := hfs 0 _ rfl
    have h1 := hfs 1 _ rfl
    have h2 := hfs 2 _ rfl
    have h3 := hfs 3 _ rfl
    have h4 := hfs 4 _ rfl
    have h5 := hfs 5 _ rfl
    simp [Value.cells, cellsI, cellsA, cellsU] at h0 h1 h2 h3 h4 h5
    obtain ⟨f, e0, _, w0⟩ := DataW.trod_int Tryd.underlying3 h0
    obtain ⟨t, e1, _, w1⟩ := DataW.trod_int Tryd.underlying3 h1
    obtain ⟨a, e2, _, w2⟩ := DataW.trod_int Tryd.underlying53 h2
    obtain ⟨m, e3, _, w3⟩ := DataW.trod_int Tryd.underlying53 h3
    obtain ⟨q, e4, _, w4⟩ := DataW.trod_int Tryd.underlying53 h4
    obtain ⟨k, e5, _, w5⟩ := DataW.trod_int Tryd.underlying52 h5
    simp at e0 e1 e2 e3 e4 e5
    subst e0 e1 e2 e3 e4 e5
    have b0 := bounds_i64 w0
    have b1 := bounds_i64 w1
    have b2 := wf0_u32 w2
    have b3 := wf0_u32 w3
    have b4 := wf0_u32 w4
    have b5 := wf0_u32 w5
    exact ⟨⟨f, t, a, m, q, k⟩, rfl, ⟨b2.1, b2.2, b3.1, b3.2, b4.1, b4.2, b5.1, b5.2⟩, b0.1, b0.2, b1.1, b1.2⟩
end Go.Proofs.YtehhablobfaplaaDoor
