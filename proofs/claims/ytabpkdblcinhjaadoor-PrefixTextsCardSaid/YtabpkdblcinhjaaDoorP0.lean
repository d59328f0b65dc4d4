/- What the rows of layer 1 ask of their condition, and how their arguments are opened. -/
import Derived.Test.YtabpkdblcinhjaaDoorLift
import Derived.Test.YtabpkdblcinhjaaDoorA3
import Derived.Test.YtabpkdblcinhjaaDoorRows
import Derived.Stop.LaidErr
import Derived.Shelf.Vars
namespace Go.Proofs.YtabpkdblcinhjaaDoor
open Go Go.RowKit Go.ChangeShapes Go.WideShapes Go.ChangeAt

theorem own : ownKnob Tryd.prog.godebug = none := by kernel_rfl
theorem laidOut : laidOutB Tryd.prog = true := by kernel_rfl
theorem gPowT : (Tryd.prog.globals[0]?).map (·.type) = some 116 := by kernel_rfl

def laid3 : List (String × DataW Unit) := [("math/bits.deBruijn32tab", Rows.laid_math_bits_deBruijn32tab), ("math/bits.deBruijn64tab", Rows.laid_math_bits_deBruijn64tab), ("internal/strconv.uint64pow10", Rows.laid_internal_strconv_uint64pow10)]

theorem laid_fit {W : World} (hsh : W.ShapedOpen Tryd.prog) (hL : laidMetH Tryd.prog laid3 W) : Fit W := by
  rw [MakeChecks.laidMetH_plain _ _ _ (by kernel_rfl)] at hL
  refine ⟨?_, Go.Proofs.cell_of_shapedOpen_int (zero := #[.int .i64 0]) (t := 3) hsh (of_decide_eq_true (by kernel_rfl)) (by kernel_rfl) rfl (by kernel_rfl) (by kernel_rfl) Tryd.underlying3⟩
  exact Lib.tabIs_of_head gPow gPowT Tryd.underlying116 Tryd.underlying99 (by kernel_rfl) (by kernel_rfl) (rest := []) (laidMet.tail (laidMet.tail hL))

theorem door_met (os : Os) (args : Array Value) : laidMetH Tryd.prog laid3 ((World.doorLaid Tryd.prog 400 os).forCall (fun _ _ => 0) ⟨#[], args, []⟩).memory :=
  laidMetH_of_parts3 (fuel := 8) (laidMet_of_run' 8 (by kernel_rfl) (by kernel_rfl)) (by kernel_rfl) (by kernel_rfl)

theorem wf_u32 {a : Int} (h : (Lit.int .u32 a).wf = true) : 0 ≤ a ∧ a < 4294967296 := by
  have := bounds_u32 h
  omega

theorem open_arr4 {H : Type} {enc : TypeId × Value → H} {P : Program} {w : World} {base b0 : Nat} {sp : Nat → Bool} {held : Bool} {r : Reach} {t e : TypeId} {k : IntKind} {v : Value} {d : DataW H} {p : List MemPlace}
    (ht : P.underlying t = some (.array 4 e)) (he : P.underlying e = some (.int k)) (hce : P.cellsOf e = 1) (hct : P.cellsOf t = 4) (hv : Value.okWide P w r b0 t v) (h : DataW.Trod enc P w base sp held t v d p) :
    ∃ a0 a1 a2 a3 : Int, v = .agg #[.int k a0, .int k a1, .int k a2, .int k a3] ∧ (Lit.int k a0).wf = true ∧ (Lit.int k a1).wf = true ∧ (Lit.int k a2).wf = true ∧ (Lit.int k a3).wf = true := by
  simp only [Value.okWide, ht] at hv
  obtain ⟨cs, rfl, h2, _⟩ := hv
  rw [hct] at h2
  obtain ⟨fuel, hf⟩ := h
  obtain ⟨xs, m, rfl, _, _, hn, hel⟩ := DataW.trod_array ht hf
  rw [hce] at hel
  obtain ⟨l⟩ := cs
  match l, h2 with
  | [c0, c1, c2, c3], _ =>
    have get : ∀ i (hi : i < 4) (c : Value), [c0, c1, c2, c3][i]? = some c → ∃ a : Int, c = .int k a ∧ (Lit.int k a).wf = true := fun i hi c hc => by
      have h1 := hel i hi
      have h3 : xs[i]? = some (xs[i]'(by omega)) := List.getElem?_eq_getElem _
      rw [h3, Nat.mul_one] at h1
      obtain ⟨z, e1, _, wz⟩ := DataW.trod_int he h1
      have e2 : (List.take 1 (List.drop i [c0, c1, c2, c3]))[0]? = some c := by
        rw [List.getElem?_take, if_pos (by omega), List.getElem?_drop]; simpa using hc
      have e3 : List.take 1 (List.drop i [c0, c1, c2, c3]) = [Value.int k z] := e1
      rw [e3] at e2
      exact ⟨z, (by simpa using e2.symm), wz⟩
    obtain ⟨a0, rfl, w0⟩ := get 0 (by omega) c0 rfl
    obtain ⟨a1, rfl, w1⟩ := get 1 (by omega) c1 rfl
    obtain ⟨a2, rfl, w2⟩ := get 2 (by omega) c2 rfl
    obtain ⟨a3, rfl, w3⟩ := get 3 (by omega) c3 rfl
    exact ⟨a0, a1, a2, a3, rfl, w0, w1, w2, w3⟩

theorem wf_u8 {a : Int} (h : (Lit.int .u8 a).wf = true) : 0 ≤ a ∧ a < 256 := by
  have := bounds_u8 h
  omega
end Go.Proofs.YtabpkdblcinhjaaDoor
