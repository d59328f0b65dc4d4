/- Merged by tools/merge.py: A1, A2. -/
import Derived.WalkKit
import Derived.WalkLawsBesides
import Derived.BigQuiet
import Derived.Deep.QuietTactic
import Derived.Deep.DeepFit
import Derived.Lib.Hide
import Derived.Handy
import Derived.Laws.EntriesVeiled
import Derived.Test.YtghkacciihocdaaProg
namespace Go.Proofs.Ytghkacciihocdaa
open Go Go.RowKit

/-- Put together with base, digit by digit, with wrap-round of 32 bits. -/
def togW (base : Int) : List Int → Int → Int
  | [], n => n
  | d :: r, n => togW base r ((n * base + d) % 4294967296)

theorem togW_snoc (base : Int) (l : List Int) (d n : Int) : togW base (l ++ [d]) n = (togW base l n * base + d) % 4294967296 := by
  induction l generalizing n with
  | nil => rfl
  | cons a r ih => simp only [List.cons_append, togW]; exact ih _

end Go.Proofs.Ytghkacciihocdaa

namespace Go.Proofs.Ytghkacciihocdaa
open Go Go.RowKit

def r1B (a : Int) : Bool := decide (a = 0)
def r2B (f : Int) : Bool := decide (f = 0)
def r3B (f : Int) : Bool := decide (f = 127)
def r4B (f : Int) : Bool := decide (224 ≤ f) && decide (f ≤ 239)
def r5B (f : Int) : Bool := decide (240 ≤ f)
def kindOf (a : Int) : Int :=
  if r1B a then 1 else if r2B (a / 16777216) then 2 else if r3B (a / 16777216) then 3 else if r4B (a / 16777216) then 4 else if r5B (a / 16777216) then 5 else 6

theorem kind_of_int {k : IntKind} {a b : Int} (h : a = b) : Ending.returned (.int k a) = .returned (.int k b) := by rw [h]
theorem k1 (a : Int) (h : (a == 0) = true) : 1 = kindOf a := by simp at h; simp [kindOf, r1B, h]
theorem k2 (a : Int) (h : (a == 0) = false) (h2 : (a / 16777216 == 0) = true) : 2 = kindOf a := by
  simp at h h2; simp [kindOf, r1B, r2B, h, h2]
theorem k3 (a : Int) (h : (a == 0) = false) (h2 : (a / 16777216 == 127) = true) : 3 = kindOf a := by
  simp at h h2; simp [kindOf, r1B, r2B, r3B, h, h2]
theorem k4 (a : Int) (h2 : (a / 16777216 == 127) = false) (h3 : 224 ≤ a / 16777216) (h4 : a / 16777216 ≤ 239) : 4 = kindOf a := by
  have h0 : ¬ a = 0 := by intro e; subst e; omega
  have h1 : ¬ a / 16777216 = 0 := by omega
  have h5 : ¬ a / 16777216 = 127 := by omega
  simp [kindOf, r1B, r2B, r3B, r4B, h0, h1, h5, h3, h4]
theorem k5 (a : Int) (h3 : 240 ≤ a / 16777216) : 5 = kindOf a := by
  have h0 : ¬ a = 0 := by intro e; subst e; omega
  have h1 : ¬ a / 16777216 = 0 := by omega
  have h5 : ¬ a / 16777216 = 127 := by omega
  have h4 : ¬ a / 16777216 ≤ 239 := by omega
  simp [kindOf, r1B, r2B, r3B, r4B, r5B, h0, h1, h5, h3, h4]
theorem k6 (a : Int) (h0 : ¬ a = 0) (h1 : ¬ a / 16777216 = 0) (h5 : ¬ a / 16777216 = 127) (h4 : a / 16777216 < 224) : 6 = kindOf a := by
  have h4' : ¬ 224 ≤ a / 16777216 := by omega
  have h3 : ¬ 240 ≤ a / 16777216 := by omega
  simp [kindOf, r1B, r2B, r3B, r4B, r5B, h0, h1, h5, h3, h4']

def kf5 (_ : Int) : Int := 6
def kf4 (a : Int) : Int := if r5B (a / 16777216) then 5 else kf5 a
def kf3 (a : Int) : Int := if r4B (a / 16777216) then 4 else kf4 a
def kf2 (a : Int) : Int := if r3B (a / 16777216) then 3 else kf3 a
def kf1 (a : Int) : Int := if r2B (a / 16777216) then 2 else kf2 a
def kf0 (a : Int) : Int := if r1B a then 1 else kf1 a

end Go.Proofs.Ytghkacciihocdaa
