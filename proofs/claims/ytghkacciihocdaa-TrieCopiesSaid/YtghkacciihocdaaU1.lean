/- Merged by tools/merge.py: U0, U1. -/
import Derived.WalkKit
import Derived.Below
import Derived.RegionTactic
import Derived.Deep.RegionHeld3
namespace Go.Proofs.Ytghkacciihocdaa
open Go

/-- The part at a path: 0: the left one, the body, the then-branch; else the right one, the else-branch. -/
def codeAt : List Nat → Code → Code
  | [], c => c
  | 0 :: p, .seq a _ => codeAt p a
  | _ :: p, .seq _ b => codeAt p b
  | 0 :: p, .cond _ a _ => codeAt p a
  | _ :: p, .cond _ _ b => codeAt p b
  | _ :: p, .block _ c => codeAt p c
  | _ :: p, .loop c => codeAt p c
  | _ :: p, .scope c => codeAt p c
  | 0 :: p, .rangeFunc _ _ a _ => codeAt p a
  | _ :: p, .rangeFunc _ _ _ b => codeAt p b
  | _, _ => .skip
noncomputable def codeIn (f : Func) (p : List Nat) : Code := codeAt p (f.body.getD .skip)
end Go.Proofs.Ytghkacciihocdaa

namespace Go.Proofs.Ytghkacciihocdaa
open Go Go.RowKit

theorem below_call {w V w' : World} (h : Below w.heap.size w V) (k : Below V.heap.size V w') : Below w.heap.size w w' := h.trans (k.mono h.size)
theorem below_drew (w : World) : Below w.heap.size w w.drew := ⟨rfl, rfl, rfl, Nat.le_refl _, fun _ _ => rfl⟩

/-- What is held may be said stronger from here on. -/
theorem wpAnyH_mono {P : Program} {md : Region.Mode} {ops : Array Oper} {Q : Exit → Act → World → Prop} {S S' : World → Prop} (h : ∀ w, S' w → S w) :
    ∀ (fuel : Nat) (listed : Array Bool) (a : Act) (w : World), wpAnyH P md ops Q S' fuel listed a w → wpAnyH P md ops Q S fuel listed a w
  | 0, _, _, _, h0 => h0
  | fuel + 1, _, _, _, h0 => ⟨h0.1, fun i hi => wpOp_mono (fun a' w' h' => ⟨h _ h'.1, wpAnyH_mono h fuel _ a' w' h'.2⟩) (h0.2 i hi)⟩

/-- One operation alone may come up: it is carried out. -/
theorem ready_call {P : Program} {md : Region.Mode} {ops : Array Oper} {Q : Exit → Act → World → Prop} {S : World → Prop} {fuel : Nat} {listed : Array Bool} {a : Act} {w : World} {i : Nat} {o : Oper} (hr : Region.ready md ops listed = [i]) (ho : ops[i]? = some o)
    (hw : Region.wanted o (yielded ops a.tmps) = true) (h : ∀ K' : Act → World → Prop, Shut (∀ a w, S w → (S w → wpAnyH P md ops Q S fuel (listed.setIfInBounds i true) a w) → K' a w) → Oper.wp P o a w K' Q) : wpAnyH P md ops Q S (fuel + 1) listed a w :=
  wpAnyH_ready hr (by simp) (AllReadyH.cons ho (fun K' hK => by rw [if_pos hw]; exact h K' hK) AllReadyH.nil)
end Go.Proofs.Ytghkacciihocdaa
