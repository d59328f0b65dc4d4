/- A part of a function's code, told by its path: so that a great function is walked in parts. -/
import Derived.WalkKit
namespace Go.Proofs.YtfbfdjcdjogefaaDoor
open Go

/-- The part at a path: 0: the left one, the body, the then-branch; else the right one, the else-branch. -/
def codeAt : List Nat → Code → Code
  | [], c => c
  | 0 :: p, .seq a _ => codeAt p a
  | _ :: p, .seq _ b => codeAt p b
  | 0 :: p, .cond _ a _ => codeAt p a
  | _ :: p, .cond _ _ b => codeAt p b
  | _ :: p, .block _ c => codeAt p c
  | _ :: p, .loop c => codeAt p c
  | _ :: p, .scope c => codeAt p c
  | 0 :: p, .rangeFunc _ _ a _ => codeAt p a
  | _ :: p, .rangeFunc _ _ _ b => codeAt p b
  | _, _ => .skip
noncomputable def codeIn (f : Func) (p : List Nat) : Code := codeAt p (f.body.getD .skip)
end Go.Proofs.YtfbfdjcdjogefaaDoor
