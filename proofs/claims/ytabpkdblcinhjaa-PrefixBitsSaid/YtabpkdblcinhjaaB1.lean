/- Contracts of layer 1's reference: number, Head, Parse. -/
import Derived.Test.YtabpkdblcinhjaaA1
namespace Go.Proofs.Ytabpkdblcinhjaa
open Go Go.RowKit

/-- The number with which bytes go on, behind n of m digits: it, and how many digits it has then. -/
def numFrom : List UInt8 → Int → Nat → Int × Nat
  | [], n, m => (n, m)
  | c :: r, n, m => if (48 ≤ (c.toNat : Int) ∧ (c.toNat : Int) ≤ 57) ∧ ¬ ((0 < m ∧ n = 0) ∨ 255 < 10 * n + ((c.toNat : Int) - 48)) then numFrom r (10 * n + ((c.toNat : Int) - 48)) (m + 1) else (n, m)

theorem numFrom_stop {c : UInt8} {r : List UInt8} {n : Int} {m : Nat} (h : ¬ ((48 ≤ (c.toNat : Int) ∧ (c.toNat : Int) ≤ 57) ∧ ¬ ((0 < m ∧ n = 0) ∨ 255 < 10 * n + ((c.toNat : Int) - 48)))) : numFrom (c :: r) n m = (n, m) := by
  rw [numFrom, if_neg h]
theorem numFrom_go {c : UInt8} {r : List UInt8} {n : Int} {m : Nat} (h : (48 ≤ (c.toNat : Int) ∧ (c.toNat : Int) ≤ 57) ∧ ¬ ((0 < m ∧ n = 0) ∨ 255 < 10 * n + ((c.toNat : Int) - 48))) : numFrom (c :: r) n m = numFrom r (10 * n + ((c.toNat : Int) - 48)) (m + 1) := by
  rw [numFrom, if_pos h]

def numEnd (x : Int × Nat) : Ending := .returned (.tuple #[.int .i64 x.1, .int .i64 x.2])

end Go.Proofs.Ytabpkdblcinhjaa
