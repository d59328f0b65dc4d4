/- works of law 4 (laid by tools/gen/w9.py). -/
import Derived.Test.YtehhablobfaplaaDoorW8
import Derived.Test.YtehhablobfaplaaDoorU2
namespace Go.Proofs.YtehhablobfaplaaDoor
open Go Go.RowKit Go.Sort
attribute [local go_sem] Oper.semAt_some
attribute [local irreducible] wpQuiet

theorem okE {f t a m n k : Int} (h : 0 ≤ a ∧ a < 4294967296 ∧ 0 ≤ m ∧ m < 4294967296 ∧ 0 ≤ n ∧ n < 4294967296 ∧ 0 ≤ k ∧ k < 4294967296) : (⟨f, t, a, m, n, k⟩ : Ent).Ok := by
  obtain ⟨h1, h2, h3, h4, h5, h6, h7, h8⟩ := h
  exact ⟨h1, h2, h3, h4, h5, h6, h7, h8⟩
theorem bytesRow (w : World) (hf : Fit3 w) : Calls Tryd.prog 26 #[.agg #[.int .i64 2, .int .i64 0, .int .u32 167837696, .int .u32 4294901760, .int .u32 0, .int .u32 3]] w fun e w' => (∃ p c, e = .returned (.tuple #[.slice p 20 c, .int .i64 0]) ∧ ByS w' p [0, 2, 0, 0, 10, 1, 0, 0, 255, 255, 0, 0, 0, 0, 0, 0, 0, 0, 0, 3]) ∧ Below w.heap.size w w' := by
  refine (bytes4_any ⟨2, 0, 167837696, 4294901760, 0, 3⟩ (okE (by decide)) w hf).mono ?_
  rintro e w' ⟨h, hb⟩
  rw [if_pos (by decide)] at h
  obtain ⟨v, rfl, ho⟩ := h
  have e1 : bytesE ⟨2, 0, 167837696, 4294901760, 0, 3⟩ = [0, 2, 0, 0, 10, 1, 0, 0, 255, 255, 0, 0, 0, 0, 0, 0, 0, 0, 0, 3] := by decide +kernel
  rw [e1] at ho
  obtain ⟨p, c, rfl, _, hy, _⟩ := OwnB.byS ho
  exact ⟨⟨p, c, rfl, hy⟩, hb⟩
theorem convRow {w : World} {p : Option Addr} (h : ByS w p [0, 2, 0, 0, 10, 1, 0, 0, 255, 255, 0, 0, 0, 0, 0, 0, 0, 0, 0, 3]) (c : Nat) : (convert 27 9 (.slice p 20 c)).run Tryd.prog w = .ok (.string { data := #[0, 2, 0, 0, 10, 1, 0, 0, 255, 255, 0, 0, 0, 0, 0, 0, 0, 0, 0, 3] }) w := conv_bytes h c

theorem all4Row (w : World) : Calls Tryd.prog 30 #[] w fun e w' => e = .returned (.agg #[.int .i64 0, .int .i64 0, .int .u32 0, .int .u32 0, .int .u32 0, .int .u32 16]) ∧ Below w.heap.size w w' := all4_any w

end Go.Proofs.YtehhablobfaplaaDoor
