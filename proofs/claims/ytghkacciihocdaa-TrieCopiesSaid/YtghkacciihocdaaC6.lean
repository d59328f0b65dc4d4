/- Contracts of the reference of layer 2: Same. -/
import Derived.Test.YtghkacciihocdaaC5
namespace Go.Proofs.Ytghkacciihocdaa
open Go Go.RowKit Go.Sort
attribute [local go_sem] Oper.semAt_some
attribute [local irreducible] wpQuiet

/-- Prefixes that lie one behind the other. -/
def Pfxs (w : World) (A : Option Addr) (l : List (Int × Int)) : Prop := 0 < l.length → ∃ b o, A = some ⟨b, o, none⟩ ∧ b < w.heap.size ∧
  ∀ j (hj : j < l.length), w.cell? ⟨b, o + j * 2, none⟩ = some (.int .u32 (l[j]'hj).1) ∧ w.cell? ⟨b, o + j * 2 + 1, none⟩ = some (.int .i64 (l[j]'hj).2)
theorem Pfxs.below {w w' : World} {A : Option Addr} {l : List (Int × Int)} (h : Pfxs w A l) (hb : Below w.heap.size w w') : Pfxs w' A l := fun hn => by
  obtain ⟨b, o, e, hlt, hc⟩ := h hn
  exact ⟨b, o, e, by have := hb.size; omega, fun j hj => ⟨(hb.cell (p := ⟨b, o + j * 2, none⟩) hlt).trans (hc j hj).1, (hb.cell (p := ⟨b, o + j * 2 + 1, none⟩) hlt).trans (hc j hj).2⟩⟩

theorem same_iff (l r : List (Int × Int)) (h : l.length = r.length) : l = r ↔ ∀ j (hl : j < l.length) (hr : j < r.length), l[j]'hl = r[j]'hr :=
  ⟨fun e j _ _ => by subst e; rfl, fun e => List.ext_getElem h (fun j h1 h2 => e j h1 h2)⟩

end Go.Proofs.Ytghkacciihocdaa
