/- Contracts of layer 1: the reader's methods. -/
import Derived.Test.YtghkacciihocdaaA0
import Derived.Test.YtghkacciihocdaaA2
import Derived.RegionTactic
import Derived.BigRegion
namespace Go.Proofs.Ytghkacciihocdaa
open Go Go.RowKit

/-- A reader's state, and one byte more. -/
structure Rd where
  q0 : Int
  q1 : Int
  q2 : Int
  q3 : Int
  k : Int
  p : Int
  d : Int

/-- The part under way is laid to those behind. -/
def Rd.put (s : Rd) : Rd :=
  if s.k = 0 then ⟨s.p, s.q1, s.q2, s.q3, 1, 0, 0⟩ else if s.k = 1 then ⟨s.q0, s.p, s.q2, s.q3, 2, 0, 0⟩ else if s.k = 2 then ⟨s.q0, s.q1, s.p, s.q3, 3, 0, 0⟩ else ⟨s.q0, s.q1, s.q2, s.p, 4, 0, 0⟩

def Rd.noDigit (s : Rd) (c : Int) : Prop := (0 < s.d ∧ s.p = 0) ∨ 255 < 10 * s.p + (c - 48)
instance (s : Rd) (c : Int) : Decidable (s.noDigit c) := inferInstanceAs (Decidable (_ ∨ _))

def Rd.step (s : Rd) (c : Int) : Option Rd :=
  if 48 ≤ c ∧ c ≤ 57 then (if s.noDigit c then none else some ⟨s.q0, s.q1, s.q2, s.q3, s.k, 10 * s.p + (c - 48), s.d + 1⟩)
  else if c = 46 then (if s.k = 3 ∨ s.d = 0 then none else some s.put) else none

structure Rd.Ok (s : Rd) : Prop where
  k0 : 0 ≤ s.k
  k3 : s.k ≤ 3
  p0 : 0 ≤ s.p
  p1 : s.p ≤ 255
  d0 : 0 ≤ s.d
  d3 : s.d ≤ 3
  d2 : s.d = 2 → 10 ≤ s.p
  dd : s.d = 3 → 100 ≤ s.p
  q0 : 0 ≤ s.q0 ∧ s.q0 ≤ 255
  q1 : 0 ≤ s.q1 ∧ s.q1 ≤ 255
  q2 : 0 ≤ s.q2 ∧ s.q2 ≤ 255
  q3 : 0 ≤ s.q3 ∧ s.q3 ≤ 255

theorem Rd.Ok.step {s s' : Rd} {c : Int} (h : s.Ok) (hs : s.step c = some s') : s'.Ok := by
  obtain ⟨k0, k3, p0, p1, d0, d3, d2, dd, q0, q1, q2, q3⟩ := h
  unfold Rd.step at hs
  split at hs
  · split at hs
    · cases hs
    · rename_i hn
      unfold Rd.noDigit at hn
      cases hs
      constructor <;> simp only <;> first | assumption | omega
  · split at hs
    · split at hs
      · cases hs
      · rename_i hn
        cases hs
        unfold Rd.put
        split
        · constructor <;> simp only <;> first | assumption | omega
        · split
          · constructor <;> simp only <;> first | assumption | omega
          · split
            · constructor <;> simp only <;> first | assumption | omega
            · omega
    · cases hs

end Go.Proofs.Ytghkacciihocdaa
