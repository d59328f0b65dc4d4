/- Contract of layer 3's pieces: bytes, so many each, the last piece with what is left. -/
import Derived.RangeFuncFrom
import Derived.RangeFuncNested
import Derived.RangeFuncBound
import Derived.RangeFuncCalls
import Derived.RangeFuncLeaves
import Derived.Shelf.Abstract
import Derived.Shelf.RegionOpen
import Derived.WalkKit
import Derived.OwnWalkIn
import Derived.TacticsInMore
import Derived.LoopNIn
import Derived.LoopIn
import Derived.RegionIn
import Derived.BigRegionIn
import Derived.Test.YtfbfdjcdjogefaaDoorN1
import Derived.Test.YtfbfdjcdjogefaaDoorR2
namespace Go.Proofs.YtfbfdjcdjogefaaDoor
open Go Go.RowKit Go.Shelf Go.Sort
attribute [local go_sem] Oper.semAt_some

/-- The pieces, from a place on: each with its place and its length. -/
def pcs (k n : Nat) : Nat → Nat → List (Nat × Nat)
  | 0, _ => []
  | f + 1, at_ => if at_ < n then (at_, min k (n - at_)) :: pcs k n f (at_ + k) else []

/-- A piece, as it is told. -/
abbrev Pc (k N : Nat) := { x : Nat × Nat // x ∈ pcs k N (N + 1) 0 }
end Go.Proofs.YtfbfdjcdjogefaaDoor
