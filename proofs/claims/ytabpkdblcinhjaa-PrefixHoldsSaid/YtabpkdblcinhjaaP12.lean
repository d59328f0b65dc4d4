/- PrefixHolds of layer 2 answers true for every three prefixes and every address; each argument reads behind as it read before. -/
import Derived.Test.YtabpkdblcinhjaaP00
import Derived.Test.YtabpkdblcinhjaaQ5
namespace Go.Proofs.Ytabpkdblcinhjaa
open Go Go.RowKit Go.ChangeShapes Go.WideShapes Go.ChangeAt

set_option maxRecDepth 100000 in
theorem prefixHolds_lifted (os : Os) (started : os.Started) (H : Type) (enc : TypeId × Value → H) :
    ReturnsInHanded {} Try.checked os 6 .any (Rows.prefixHoldsSpec.pre6 enc Try.prog Try.f6 [] false)
      (Rows.prefixHoldsSpec.post enc Try.prog Try.f6 false true false false) := by
  refine law_lifted0 (C := Try.checked) own0 started (by kernel_rfl) Try.func6 laidOut0 rfl (by kernel_rfl) (by kernel_rfl) Try.underlying4 (by kernel_rfl)
    (fun ds hds => by
      match ds, hds with
      | [_, _, _, _], _ => rfl)
    (ChangeSpec.witness6 (enc := enc) (C := Try.checked) false ⟨#[], #[.agg #[.int .u32 0, .int .i64 0], .agg #[.int .u32 0, .int .i64 0], .agg #[.int .u32 0, .int .i64 0], .int .u32 0], []⟩ 8 (by kernel_rfl) (by kernel_rfl) (by kernel_rfl) (by kernel_rfl)) ?_
  intro W base args ds p hval hA _ _
  rw [Try.params6] at hA hval
  obtain ⟨v0, r0, d0, _, p0, _, e0, _, _, h0, hA⟩ := trodAll_cons hA
  obtain ⟨v1, r1, d1, _, p1, _, e1, _, _, h1, hA⟩ := trodAll_cons hA
  obtain ⟨v2, r2, d2, _, p2, _, e2, _, _, h2, hA⟩ := trodAll_cons hA
  obtain ⟨v3, r3, d3, _, p3, _, e3, _, _, h3, hA⟩ := trodAll_cons hA
  obtain ⟨e4, _, _⟩ := trodAll_nil hA
  subst e4 e3 e2 e1
  obtain ⟨args⟩ := args
  simp only at e0
  subst e0
  obtain ⟨x, n, rfl, x0, x1, _, _⟩ := open_prefix (hval 0 25 v0 rfl rfl) h0
  obtain ⟨y, m, rfl, y0, y1, _, _⟩ := open_prefix (hval 1 25 v1 rfl rfl) h1
  obtain ⟨z, k, rfl, z0, z1, _, _⟩ := open_prefix (hval 2 25 v2 rfl rfl) h2
  obtain ⟨a, rfl, _, _, wa⟩ := open_int Try.underlying23 (hval 3 23 v3 rfl rfl) h3
  exact law02_holds x n y m z k a x0 x1 y0 y1 z0 z1 (wf0_u32 wa).1 (wf0_u32 wa).2 W

theorem prefixHolds_holds : Rows.PrefixHoldsSaid :=
  OpenClaim.holds_of_wide 6 Try.f6 rfl rfl rfl rfl rfl rfl rfl ⟨rfl, rfl, rfl, rfl, rfl⟩ rfl rfl rfl rfl rfl (by kernel_rfl) Try.func6 (by kernel_rfl)
    (of_decide_eq_true (by kernel_rfl)) (by unfold Func.isWrapper; first | (rw [if_pos (by decide +kernel)]; kernel_rfl) | (rw [if_neg (by decide +kernel)]; exact ⟨rfl, rfl⟩))
    (fun os started H enc _ => prefixHolds_lifted os started H enc)
#print axioms prefixHolds_holds
end Go.Proofs.Ytabpkdblcinhjaa
