/- Contracts of the leaves of layer 1: Parts, the reference's Parts, num. -/
import Derived.WalkKit
import Derived.WalkLawsBesides
import Derived.BigQuiet
import Derived.Deep.QuietTactic
import Derived.Deep.DeepFit
import Derived.Lib.Hide
import Derived.Handy
import Derived.Laws.EntriesVeiled
import Derived.Test.YtfbfdjcdjogefaaDoorProg
namespace Go.Proofs.YtfbfdjcdjogefaaDoor
open Go Go.RowKit

set_option maxHeartbeats 400000 in
theorem parts_any (a : Int) (h0 : 0 ≤ a) (h1 : a < 4294967296) (w : World) :
    Calls Tryd.prog 76 #[.int .u32 a] w fun e w' => e = .returned (.agg #[.int .u8 (a / 16777216), .int .u8 (a / 65536 % 256), .int .u8 (a / 256 % 256), .int .u8 (a % 256)]) ∧ Below w.heap.size w w' := by
  go_enter Tryd.func76, Tryd.ntmps76
  go_wp2
  exact bodyPost_ret (v := .agg #[.int .u8 (a / 16777216), .int .u8 (a / 65536 % 256), .int .u8 (a / 256 % 256), .int .u8 (a % 256)]) (by simp [results, Tryd.results76, go_sem]) rfl ⟨rfl, (Below.refl _ _).alloc (Nat.le_refl _) _⟩

set_option maxHeartbeats 400000 in
theorem refParts_any (a : Int) (h0 : 0 ≤ a) (h1 : a < 4294967296) (w : World) :
    Calls Tryd.prog 73 #[.int .u32 a] w fun e w' => e = .returned (.agg #[.int .i64 (a / 16777216), .int .i64 (a / 65536 % 256), .int .i64 (a / 256 % 256), .int .i64 (a % 256)]) ∧ Below w.heap.size w w' := by
  go_enter Tryd.func73, Tryd.ntmps73
  go_wp2
  exact bodyPost_ret (v := .agg #[.int .i64 (a / 16777216), .int .i64 (a / 65536 % 256), .int .i64 (a / 256 % 256), .int .i64 (a % 256)]) (by simp [results, Tryd.results73, go_sem]) rfl ⟨rfl, (Below.refl _ _).alloc (Nat.le_refl _) _⟩

/-- Put together with base, digit by digit, with wrap-round of 32 bits. -/
def togW (base : Int) : List Int → Int → Int
  | [], n => n
  | d :: r, n => togW base r ((n * base + d) % 4294967296)

theorem togW_snoc (base : Int) (l : List Int) (d n : Int) : togW base (l ++ [d]) n = (togW base l n * base + d) % 4294967296 := by
  induction l generalizing n with
  | nil => rfl
  | cons a r ih => simp only [List.cons_append, togW]; exact ih _

end Go.Proofs.YtfbfdjcdjogefaaDoor
