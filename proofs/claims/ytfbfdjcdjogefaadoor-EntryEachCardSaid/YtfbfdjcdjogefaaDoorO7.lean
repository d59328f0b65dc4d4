/- The walks of OctetPuts, OctetReads, over what Put, Read and works promise. -/
import Derived.Test.YtfbfdjcdjogefaaDoorO6
namespace Go.Proofs.YtfbfdjcdjogefaaDoor
open Go Go.RowKit
attribute [local go_sem] Oper.semAt_some

theorem own_below {base : Nat} {W0 w w' : World} {v : Value} {l : List Int} (hl : base ≤ w.heap.size) (hb : Below base W0 w) (ho : OwnB base w v l) (hg : w.grownBy w' v.ownBlock) : Below base W0 w' :=
  hb.grown hg hl (fun k hk => (ho.lt k hk).1)

end Go.Proofs.YtfbfdjcdjogefaaDoor
