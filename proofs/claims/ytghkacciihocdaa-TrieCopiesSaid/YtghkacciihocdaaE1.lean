/- Contract of layer 1's iterator Each: it tells what eachF tells, or, where a round says no more, a beginning of it. -/
import Derived.RangeFuncFrom
import Derived.RangeFuncNested
import Derived.RangeFuncBound
import Derived.RangeFuncCalls
import Derived.RangeFuncLeaves
import Derived.Shelf.Abstract
import Derived.Shelf.RegionOpen
import Derived.WalkKit
import Derived.OwnWalkIn
import Derived.TacticsInMore
import Derived.LoopNIn
import Derived.LoopIn
import Derived.RegionIn
import Derived.BigRegionIn
import Derived.Test.YtghkacciihocdaaM3
import Derived.Test.YtghkacciihocdaaShelf
import Derived.Test.YtghkacciihocdaaA0
import Derived.Test.YtghkacciihocdaaG0
namespace Go.Proofs.Ytghkacciihocdaa
open Go Go.RowKit Go.Shelf Go.Sort
attribute [local go_sem] Oper.semAt_some

def lenOf : Value → Nat | .string b => b.size | _ => 0
def boolOf : Value → Nat | .bool true => 1 | _ => 0

theorem mkSize (l : List UInt8) : (ByteArray.mk l.toArray).size = l.length := by show l.toArray.size = _; simp

end Go.Proofs.Ytghkacciihocdaa
