/- Contracts of layer 3's reference Reader: Take, Skip. -/
import Derived.Test.YtfbfdjcdjogefaaDoorO3
namespace Go.Proofs.YtfbfdjcdjogefaaDoor
open Go Go.RowKit
attribute [local go_sem] Oper.semAt_some

/-- A reader of the reference: its bytes' slice, its place. -/
abbrev rdr (p : Option Addr) (n cap : Nat) (at_ : Int) : Value := .agg #[.slice p n cap, .int .i64 at_]

/-- What Skip tells. -/
def skipNo (left many : Int) : Int := if many < 0 then 4 else if many > left then 130 else 0

end Go.Proofs.YtfbfdjcdjogefaaDoor
