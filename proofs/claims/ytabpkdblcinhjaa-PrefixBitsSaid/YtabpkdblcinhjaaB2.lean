/- Contracts of layer 1's reference: Head and Parse. -/
import Derived.Test.YtabpkdblcinhjaaB1
namespace Go.Proofs.Ytabpkdblcinhjaa
open Go Go.RowKit

/-- What Head tells of bytes where a part is to begin: so many parts are to come, n is of the parts behind, the place. -/
def headFrom : Nat → Int → List UInt8 → Nat → Int × Nat × Bool
  | 0, n, _, i => (n, i, true)
  | r + 1, n, l, i =>
    if (numFrom l 0 0).2 = 0 then (0, i, false)
    else if r = 0 then (256 * n + (numFrom l 0 0).1, i + (numFrom l 0 0).2, true)
    else match l.drop (numFrom l 0 0).2 with
      | [] => (0, i + (numFrom l 0 0).2, false)
      | c :: l' => if (c.toNat : Int) = 46 then headFrom r (256 * n + (numFrom l 0 0).1) l' (i + (numFrom l 0 0).2 + 1) else (0, i + (numFrom l 0 0).2, false)

/-- Behind a part. -/
def behind (r : Nat) (n : Int) (l : List UInt8) (i : Nat) : Int × Nat × Bool :=
  if r = 0 then (n, i, true)
  else match l with
    | [] => (0, i, false)
    | c :: l' => if (c.toNat : Int) = 46 then headFrom r n l' (i + 1) else (0, i, false)

theorem headFrom_none {r : Nat} {n : Int} {l : List UInt8} {i : Nat} (h : (numFrom l 0 0).2 = 0) : headFrom (r + 1) n l i = (0, i, false) := by
  rw [headFrom, if_pos h]
theorem headFrom_some {r : Nat} {n : Int} {l : List UInt8} {i : Nat} (h : ¬ (numFrom l 0 0).2 = 0) : headFrom (r + 1) n l i = behind r (256 * n + (numFrom l 0 0).1) (l.drop (numFrom l 0 0).2) (i + (numFrom l 0 0).2) := by
  rw [headFrom, if_neg h]
  rfl

theorem numFrom_bound : ∀ (l : List UInt8) (n : Int) (m : Nat), 0 ≤ n → n ≤ 255 → 0 ≤ (numFrom l n m).1 ∧ (numFrom l n m).1 ≤ 255 ∧ m ≤ (numFrom l n m).2 ∧ (numFrom l n m).2 ≤ m + l.length
  | [], n, m, h0, h1 => by simp [numFrom, h0, h1]
  | c :: r, n, m, h0, h1 => by
    rw [numFrom]
    split
    · rename_i h
      have := numFrom_bound r (10 * n + ((c.toNat : Int) - 48)) (m + 1) (by omega) (by omega)
      simp only [List.length_cons]
      omega
    · simp only [List.length_cons]
      omega

def headEnd (x : Int × Nat × Bool) : Ending := .returned (.tuple #[.int .u32 x.1, .int .i64 x.2.1, .bool x.2.2])

theorem pow_small (k : Nat) (hk : k ≤ 3) : (256 : Int) ^ k ≤ 16777216 := by
  match k, hk with
  | 0, _ => decide
  | 1, _ => decide
  | 2, _ => decide
  | 3, _ => decide

end Go.Proofs.Ytabpkdblcinhjaa
