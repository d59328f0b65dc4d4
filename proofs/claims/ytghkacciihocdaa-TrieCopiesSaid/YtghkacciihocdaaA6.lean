/- Contract of layer 1: Parse. -/
import Derived.Test.YtghkacciihocdaaA4
import Derived.Defers
import Derived.Recover
namespace Go.Proofs.Ytghkacciihocdaa
open Go Go.RowKit

theorem Rd.step_big (s : Rd) (c : Int) (h : 58 ≤ c) : s.step c = none := by
  unfold Rd.step
  rw [if_neg (by omega), if_neg (by omega)]

def rd0 : Rd := ⟨0, 0, 0, 0, 0, 0, 0⟩
theorem rd0_ok : rd0.Ok := by constructor <;> simp [rd0]

/-- What a reader comes to behind bytes, or the place at which it gives up. -/
def scan : List UInt8 → Rd → Nat → Except Nat Rd
  | [], s, _ => .ok s
  | c :: r, s, i => match s.step c.toNat with | none => .error i | some s' => scan r s' (i + 1)

def addrOf (s : Rd) : Int := s.q0 * 16777216 + s.q1 * 65536 + s.q2 * 256 + s.q3

/-- What Parse tells of bytes: the address, the place, the error's number. -/
def parsed (l : List UInt8) : Int × Int × Int :=
  match scan l rd0 0 with
  | .error i => (0, (i : Int), 110)
  | .ok s => if s.k = 3 ∧ 0 < s.d then (addrOf s.put, (l.length : Int), 0) else (0, (l.length : Int), 110)

def parseEnd (l : List UInt8) : Ending := .returned (.tuple #[.int .u32 (parsed l).1, .int .i64 (parsed l).2.1, .int .i64 (parsed l).2.2])

theorem scan_none {l : List UInt8} {s : Rd} {i : Nat} {c : UInt8} {r : List UInt8} (h : scan l rd0 0 = scan (c :: r) s i) (hs : s.step c.toNat = none) : parseEnd l = .returned (.tuple #[.int .u32 0, .int .i64 i, .int .i64 110]) := by
  simp only [scan, hs] at h
  simp [parseEnd, parsed, h]

theorem scan_some {l : List UInt8} {s s' : Rd} {i : Nat} {c : UInt8} {r : List UInt8} (h : scan l rd0 0 = scan (c :: r) s i) (hs : s.step c.toNat = some s') : scan l rd0 0 = scan r s' (i + 1) := by
  simp only [scan, hs] at h
  exact h

theorem scan_end_ok {l : List UInt8} {s : Rd} {i : Nat} (h : scan l rd0 0 = scan [] s i) (hs : s.k = 3 ∧ 0 < s.d) : parseEnd l = .returned (.tuple #[.int .u32 (addrOf s.put), .int .i64 l.length, .int .i64 0]) := by
  simp only [scan] at h
  simp [parseEnd, parsed, h, hs]
theorem scan_end_no {l : List UInt8} {s : Rd} {i : Nat} (h : scan l rd0 0 = scan [] s i) (hs : ¬ (s.k = 3 ∧ 0 < s.d)) : parseEnd l = .returned (.tuple #[.int .u32 0, .int .i64 l.length, .int .i64 110]) := by
  simp only [scan] at h
  simp only [parseEnd, parsed, h, if_neg hs]

section
variable {w wr w' : World} {B pos : Nat} {s : ByteArray} {st st' : Rd} {at_ : Int}
end

theorem Rd.Ok.put0 {s : Rd} (h : s.Ok) : 0 ≤ s.put.q0 ∧ s.put.q0 < 256 := by
  obtain ⟨k0, k3, p0, p1, d0, d3, d2, dd, q0, q1, q2, q3⟩ := h
  unfold Rd.put
  split
  · simp only; omega
  · split
    · simp only; omega
    · split <;> (simp only; omega)
theorem Rd.Ok.put1 {s : Rd} (h : s.Ok) : 0 ≤ s.put.q1 ∧ s.put.q1 < 256 := by
  obtain ⟨k0, k3, p0, p1, d0, d3, d2, dd, q0, q1, q2, q3⟩ := h
  unfold Rd.put
  split
  · simp only; omega
  · split
    · simp only; omega
    · split <;> (simp only; omega)
theorem Rd.Ok.put2 {s : Rd} (h : s.Ok) : 0 ≤ s.put.q2 ∧ s.put.q2 < 256 := by
  obtain ⟨k0, k3, p0, p1, d0, d3, d2, dd, q0, q1, q2, q3⟩ := h
  unfold Rd.put
  split
  · simp only; omega
  · split
    · simp only; omega
    · split <;> (simp only; omega)
theorem Rd.Ok.put3 {s : Rd} (h : s.Ok) : 0 ≤ s.put.q3 ∧ s.put.q3 < 256 := by
  obtain ⟨k0, k3, p0, p1, d0, d3, d2, dd, q0, q1, q2, q3⟩ := h
  unfold Rd.put
  split
  · simp only; omega
  · split
    · simp only; omega
    · split <;> (simp only; omega)

end Go.Proofs.Ytghkacciihocdaa
