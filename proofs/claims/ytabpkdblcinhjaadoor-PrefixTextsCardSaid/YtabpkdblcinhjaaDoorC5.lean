/- Contracts of the reference of layer 2: Stands, Common. -/
import Derived.Test.YtabpkdblcinhjaaDoorC4
namespace Go.Proofs.YtabpkdblcinhjaaDoor
open Go Go.RowKit Go.Sort
attribute [local go_sem] Oper.semAt_some
attribute [local irreducible] wpQuiet

/-- How one stands to another one, of such as may be. -/
def standF (x n y m : Int) : Int := if x = y ∧ n = m then 1 else if m ≤ n ∧ hasP y m x then 2 else if n ≤ m ∧ hasP x n y then 3 else 4

end Go.Proofs.YtabpkdblcinhjaaDoor
