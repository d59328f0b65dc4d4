/- PrefixStands of layer 2 answers true for every two prefixes; each argument reads behind as it read before. -/
import Derived.Test.YtabpkdblcinhjaaP00
import Derived.Test.YtabpkdblcinhjaaQ6
namespace Go.Proofs.Ytabpkdblcinhjaa
open Go Go.RowKit Go.ChangeShapes Go.WideShapes Go.ChangeAt

set_option maxRecDepth 100000 in
theorem prefixStands_lifted (os : Os) (started : os.Started) (H : Type) (enc : TypeId × Value → H) :
    ReturnsInHanded {} Try.checked os 4 .any (Rows.prefixStandsSpec.pre6 enc Try.prog Try.f4 [] false)
      (Rows.prefixStandsSpec.post enc Try.prog Try.f4 false true false false) := by
  refine law_lifted0 (C := Try.checked) own0 started (by kernel_rfl) Try.func4 laidOut0 rfl (by kernel_rfl) (by kernel_rfl) Try.underlying4 (by kernel_rfl)
    (fun ds hds => by
      match ds, hds with
      | [_, _], _ => rfl)
    (ChangeSpec.witness6 (enc := enc) (C := Try.checked) false ⟨#[], #[.agg #[.int .u32 0, .int .i64 0], .agg #[.int .u32 0, .int .i64 0]], []⟩ 8 (by kernel_rfl) (by kernel_rfl) (by kernel_rfl) (by kernel_rfl)) ?_
  intro W base args ds p hval hA _ _
  rw [Try.params4] at hA hval
  obtain ⟨v0, r0, d0, _, p0, _, e0, _, _, h0, hA⟩ := trodAll_cons hA
  obtain ⟨v1, r1, d1, _, p1, _, e1, _, _, h1, hA⟩ := trodAll_cons hA
  obtain ⟨e2, _, _⟩ := trodAll_nil hA
  subst e2 e1
  obtain ⟨args⟩ := args
  simp only at e0
  subst e0
  obtain ⟨x, n, rfl, x0, x1, _, _⟩ := open_prefix (hval 0 25 v0 rfl rfl) h0
  obtain ⟨y, m, rfl, y0, y1, _, _⟩ := open_prefix (hval 1 25 v1 rfl rfl) h1
  exact law02_stands x n y m x0 x1 y0 y1 W

theorem prefixStands_holds : Rows.PrefixStandsSaid :=
  OpenClaim.holds_of_wide 4 Try.f4 rfl rfl rfl rfl rfl rfl rfl ⟨rfl, rfl, rfl, rfl, rfl⟩ rfl rfl rfl rfl rfl (by kernel_rfl) Try.func4 (by kernel_rfl)
    (of_decide_eq_true (by kernel_rfl)) (by unfold Func.isWrapper; first | (rw [if_pos (by decide +kernel)]; kernel_rfl) | (rw [if_neg (by decide +kernel)]; exact ⟨rfl, rfl⟩))
    (fun os started H enc _ => prefixStands_lifted os started H enc)
#print axioms prefixStands_holds
end Go.Proofs.Ytabpkdblcinhjaa
