/- How a call that came in is opened; TrieNone of layer 6 answers true for every call, address and number; each argument reads behind as it read before. -/
import Derived.Test.YtilokbhpelkemaaP00
import Derived.Test.YtilokbhpelkemaaI33
namespace Go.Proofs.Ytilokbhpelkemaa
open Go Go.RowKit Go.ChangeShapes Go.WideShapes Go.ChangeAt
namespace T6
theorem array4a {α : Type} {cs : Array α} (h : cs.size = 4) : ∃ c0 c1 c2 c3, cs = #[c0, c1, c2, c3] := by
  obtain ⟨l⟩ := cs
  match l, h with
  | [c0, c1, c2, c3], _ => exact ⟨c0, c1, c2, c3, rfl⟩
theorem cellsAct : Try.prog.cellsOf 36 = 4 := by kernel_rfl
theorem cellsPfx6 : Try.prog.cellsOf 34 = 2 := by kernel_rfl
theorem cellsI6 : Try.prog.cellsOf 3 = 1 := by kernel_rfl
theorem cellsA6 : Try.prog.cellsOf 32 = 1 := by kernel_rfl
set_option maxRecDepth 100000 in
/-- A call that came in. -/
theorem open_act {H : Type} {enc : TypeId × Value → H} {w : World} {base b0 : Nat} {sp : Nat → Bool} {held : Bool} {r : Reach} {v : Value} {d : DataW H} {p : List MemPlace}
    (hv : Value.okWide Try.prog w r b0 36 v) (h : DataW.Trod enc Try.prog w base sp held 36 v d p) :
    ∃ c x n u : Int, v = .agg #[.int .i64 c, .int .u32 x, .int .i64 n, .int .i64 u] ∧ 0 ≤ x ∧ x < 4294967296 ∧ (-9223372036854775808 ≤ n ∧ n ≤ 9223372036854775807) ∧ -9223372036854775808 ≤ u ∧ u ≤ 9223372036854775807 := by
  obtain ⟨cs, rfl, hsz⟩ := okWide_struct Try.underlying36 hv
  obtain ⟨c0, c1, c2, c3, rfl⟩ := array4a (hsz.trans cellsAct)
  obtain ⟨fuel, hf⟩ := h
  obtain ⟨xs, n, _, _, _, hlen, hfs⟩ := DataW.trod_struct Try.underlying36 hf
  match xs, hlen with
  | [y0, y1, y2], _ =>
    have h0 := hfs 0 _ rfl
    have h1 := hfs 1 _ rfl
    have h2 := hfs 2 _ rfl
    simp [Value.cells, cellsI6, cellsPfx6] at h0 h1 h2
    obtain ⟨e1, e2⟩ := y1
    obtain ⟨ys, m, _, _, _, hlen2, hgs⟩ := DataW.trod_struct Try.underlying34 h1
    match ys, hlen2 with
    | [z0, z1], _ =>
      have g0 := hgs 0 _ rfl
      have g1 := hgs 1 _ rfl
      simp [cellsI6, cellsA6] at g0 g1
      obtain ⟨f, e0, _, w0⟩ := DataW.trod_int Try.underlying3 h0
      obtain ⟨x, e1, _, w1⟩ := DataW.trod_int Try.underlying32 g0
      obtain ⟨k, e2, _, w2⟩ := DataW.trod_int Try.underlying3 g1
      obtain ⟨u, e3, _, w3⟩ := DataW.trod_int Try.underlying3 h2
      simp at e0 e1 e2 e3
      subst e0 e1 e2 e3
      have b1 := wf0_u32 w1
      have b2 := bounds_i64 w2
      have b3 := bounds_i64 w3
      exact ⟨f, x, k, u, rfl, b1.1, b1.2, b2, b3⟩
end T6

set_option maxRecDepth 100000 in
theorem trieNone_lifted (os : Os) (started : os.Started) (H : Type) (enc : TypeId × Value → H) :
    ReturnsInHanded {} Try.checked os 6 .any (Rows.trieNoneSpec.pre6 enc Try.prog Try.f6 [] false)
      (Rows.trieNoneSpec.post enc Try.prog Try.f6 false true false false) := by
  refine law_lifted0 (C := Try.checked) own0 started (by kernel_rfl) Try.func6 laidOut0 rfl (by kernel_rfl) (by kernel_rfl) Try.underlying4 (by kernel_rfl)
    (fun ds hds => by
      match ds, hds with
      | [_, _, _], _ => rfl)
    (ChangeSpec.witness6 (enc := enc) (C := Try.checked) false ⟨#[], #[.agg #[.int .i64 0, .int .u32 0, .int .i64 0, .int .i64 0], .int .u32 0, .int .i64 0], []⟩ 8 (by kernel_rfl) (by kernel_rfl) (by kernel_rfl) (by kernel_rfl)) ?_
  intro W base args ds p hval hA _ _
  rw [Try.params6] at hA hval
  obtain ⟨v0, r0, d0, _, p0, _, e0, _, _, h0, hA⟩ := trodAll_cons hA
  obtain ⟨v1, r1, d1, _, p1, _, e1, _, _, h1, hA⟩ := trodAll_cons hA
  obtain ⟨v2, r2, d2, _, p2, _, e2, _, _, h2, hA⟩ := trodAll_cons hA
  obtain ⟨e3, _, _⟩ := trodAll_nil hA
  subst e3 e2 e1
  obtain ⟨args⟩ := args
  simp only at e0
  subst e0
  obtain ⟨c, x, l, u, rfl, x0, x1, _, _⟩ := T6.open_act (hval 0 36 v0 rfl rfl) h0
  obtain ⟨a, rfl, _, _, wa⟩ := open_int Try.underlying32 (hval 1 32 v1 rfl rfl) h1
  obtain ⟨n, rfl, _, _, _⟩ := open_int Try.underlying3 (hval 2 3 v2 rfl rfl) h2
  exact T6.law06_none c x l u a n x0 x1 (wf0_u32 wa).1 (wf0_u32 wa).2 W

theorem trieNone_holds : Rows.TrieNoneSaid :=
  OpenClaim.holds_of_wide 6 Try.f6 rfl rfl rfl rfl rfl rfl rfl ⟨rfl, rfl, rfl, rfl, rfl⟩ rfl rfl rfl rfl rfl (by kernel_rfl) Try.func6 (by kernel_rfl)
    (of_decide_eq_true (by kernel_rfl)) (by unfold Func.isWrapper; first | (rw [if_pos (by decide +kernel)]; kernel_rfl) | (rw [if_neg (by decide +kernel)]; exact ⟨rfl, rfl⟩))
    (fun os started H enc _ => trieNone_lifted os started H enc)
#print axioms trieNone_holds
end Go.Proofs.Ytilokbhpelkemaa
