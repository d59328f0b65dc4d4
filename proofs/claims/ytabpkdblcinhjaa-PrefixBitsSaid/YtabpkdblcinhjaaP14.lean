/- PrefixBits of layer 2 answers true for every prefix, every address and every number; each argument reads behind as it read before. -/
import Derived.Test.YtabpkdblcinhjaaP00
import Derived.Test.YtabpkdblcinhjaaQ7
namespace Go.Proofs.Ytabpkdblcinhjaa
open Go Go.RowKit Go.ChangeShapes Go.WideShapes Go.ChangeAt

set_option maxRecDepth 100000 in
theorem prefixBits_lifted (os : Os) (started : os.Started) (H : Type) (enc : TypeId × Value → H) :
    ReturnsInHanded {} Try.checked os 3 .any (Rows.prefixBitsSpec.pre6 enc Try.prog Try.f3 [] false)
      (Rows.prefixBitsSpec.post enc Try.prog Try.f3 false true false false) := by
  refine law_lifted0 (C := Try.checked) own0 started (by kernel_rfl) Try.func3 laidOut0 rfl (by kernel_rfl) (by kernel_rfl) Try.underlying4 (by kernel_rfl)
    (fun ds hds => by
      match ds, hds with
      | [_, _, _], _ => rfl)
    (ChangeSpec.witness6 (enc := enc) (C := Try.checked) false ⟨#[], #[.agg #[.int .u32 0, .int .i64 0], .int .u32 0, .int .i64 0], []⟩ 8 (by kernel_rfl) (by kernel_rfl) (by kernel_rfl) (by kernel_rfl)) ?_
  intro W base args ds p hval hA _ _
  rw [Try.params3] at hA hval
  obtain ⟨v0, r0, d0, _, p0, _, e0, _, _, h0, hA⟩ := trodAll_cons hA
  obtain ⟨v1, r1, d1, _, p1, _, e1, _, _, h1, hA⟩ := trodAll_cons hA
  obtain ⟨v2, r2, d2, _, p2, _, e2, _, _, h2, hA⟩ := trodAll_cons hA
  obtain ⟨e3, _, _⟩ := trodAll_nil hA
  subst e3 e2 e1
  obtain ⟨args⟩ := args
  simp only at e0
  subst e0
  obtain ⟨x, l, rfl, x0, x1, _, _⟩ := open_prefix (hval 0 25 v0 rfl rfl) h0
  obtain ⟨a, rfl, _, _, wa⟩ := open_int Try.underlying23 (hval 1 23 v1 rfl rfl) h1
  obtain ⟨n, rfl, _, _, _⟩ := open_int Try.underlying3 (hval 2 3 v2 rfl rfl) h2
  exact law02_bits x l a n x0 x1 (wf0_u32 wa).1 (wf0_u32 wa).2 W

theorem prefixBits_holds : Rows.PrefixBitsSaid :=
  OpenClaim.holds_of_wide 3 Try.f3 rfl rfl rfl rfl rfl rfl rfl ⟨rfl, rfl, rfl, rfl, rfl⟩ rfl rfl rfl rfl rfl (by kernel_rfl) Try.func3 (by kernel_rfl)
    (of_decide_eq_true (by kernel_rfl)) (by unfold Func.isWrapper; first | (rw [if_pos (by decide +kernel)]; kernel_rfl) | (rw [if_neg (by decide +kernel)]; exact ⟨rfl, rfl⟩))
    (fun os started H enc _ => prefixBits_lifted os started H enc)
#print axioms prefixBits_holds
end Go.Proofs.Ytabpkdblcinhjaa
