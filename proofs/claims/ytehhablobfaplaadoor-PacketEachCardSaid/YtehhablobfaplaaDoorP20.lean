/- How the arguments of layer 3's rows are opened, and what the rows list. -/
import Derived.Test.YtehhablobfaplaaDoorP00
import Derived.Stop.LaidErr
import Derived.Shelf.Vars
import Derived.Test.YtehhablobfaplaaDoorO9
namespace Go.Proofs.YtehhablobfaplaaDoor
open Go Go.RowKit Go.ChangeShapes Go.WideShapes Go.ChangeAt

theorem wf0_u8 {a : Int} (h : (Lit.int .u8 a).wf = true) : 0 ≤ a ∧ a < 256 := by
  have := bounds_u8 h
  omega
set_option maxRecDepth 100000 in
/-- Bytes that came in. -/
theorem open_bytes {H : Type} {enc : TypeId × Value → H} {w : World} {base b0 : Nat} {sp : Nat → Bool} {held : Bool} {r : Reach} {v : Value} {d : DataW H} {p : List MemPlace}
    (hv : Value.okWide Tryd.prog w r b0 27 v) (h : DataW.Trod enc Tryd.prog w base sp held 27 v d p) :
    ∃ (a : Option Addr) (xs : List Int) (c : Nat), v = .slice a xs.length c ∧ xs.length ≤ c ∧ IsBytes xs ∧ ByS w a xs := by
  obtain ⟨a0, len, cap, rfl⟩ := okWide_slice Tryd.underlying27 hv
  obtain ⟨fuel, hf⟩ := h
  rcases open_ints Tryd.underlying27 Tryd.underlying5 (by kernel_rfl) hf with ⟨hcs, _⟩ | ⟨a, len', cap', zs, hcs, _, hl, _, hz, _, hcell, hwz⟩
  · simp [Value.cells] at hcs
    obtain ⟨rfl, rfl, rfl⟩ := hcs
    exact ⟨none, [], 0, rfl, Nat.le_refl _, (fun x hx => by cases hx), ByS.nil _ _⟩
  · simp [Value.cells] at hcs
    obtain ⟨rfl, rfl, rfl⟩ := hcs
    have hzl : len ≤ zs.length := by rw [hz]; split <;> omega
    have hlen : (zs.take len).length = len := by rw [List.length_take]; omega
    refine ⟨some a, zs.take len, cap, by rw [hlen], by omega, fun x hx => wf0_u8 (hwz x (List.mem_of_mem_take hx)), fun h0 => ?_⟩
    rw [hlen] at h0
    obtain ⟨b, o, rfl, hc⟩ := ints_at hcell (by omega)
    refine ⟨b, o, rfl, World.block_lt_of_cell? _ _ (hc 0 (by omega)), fun i hi => ?_⟩
    have hi' : i < len := by rw [hlen] at hi; exact hi
    rw [hc i (by omega)]
    simp [List.getElem?_eq_getElem (show i < zs.length by omega)]
/-- Two's numbers. -/
theorem wf0_i64 {a : Int} (h : (Lit.int .i64 a).wf = true) : -9223372036854775808 ≤ a ∧ a < 9223372036854775808 := by
  have := bounds_i64 h
  omega

/-- What the rows of layer 3 list. -/
def laidW : List (String × DataW Unit) := [("waywarden/octet.widths", Rows.laid_waywarden_octet_widths)]
theorem gWidT : (Tryd.prog.globals[0]?).map (·.type) = some 114 := by kernel_rfl
theorem laid_fit3 {W : World} (hL : laidMetH Tryd.prog laidW W) : Fit3 W := by
  rw [MakeChecks.laidMetH_plain _ _ _ (by kernel_rfl)] at hL
  exact ⟨Lib.tabIs_of_head gWid gWidT Tryd.underlying114 Tryd.underlying3 (by kernel_rfl) (by kernel_rfl) (rest := []) hL⟩
theorem door_metW (os : Os) (args : Array Value) : laidMetH Tryd.prog laidW ((World.doorLaid Tryd.prog 400 os).forCall (fun _ _ => 0) ⟨#[], args, []⟩).memory :=
  laidMetH_of_parts3 (fuel := 8) (laidMet_of_run' 8 (by kernel_rfl) (by kernel_rfl)) (by kernel_rfl) (by kernel_rfl)
end Go.Proofs.YtehhablobfaplaaDoor
