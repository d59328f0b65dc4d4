/- Plain words of layer 1: what Parse tells of an address's text. -/
import Derived.Test.YtabpkdblcinhjaaDoorA6
import Derived.Test.YtabpkdblcinhjaaDoorA3
namespace Go.Proofs.YtabpkdblcinhjaaDoor
open Go Go.RowKit

theorem ofNat_toNat (n : Nat) (h : n < 256) : (UInt8.ofNat n).toNat = n := by
  simp; omega

theorem scan_cons {c : UInt8} {r : List UInt8} {s s' : Rd} {i : Nat} (h : s.step c.toNat = some s') : scan (c :: r) s i = scan r s' (i + 1) := by
  simp only [scan, h]

theorem step_dig (q0 q1 q2 q3 k p d v : Int) (hv : 0 ≤ v ∧ v ≤ 9) (h1 : ¬ (0 < d ∧ p = 0)) (h2 : 10 * p + v ≤ 255) : (Rd.mk q0 q1 q2 q3 k p d).step (48 + v) = some ⟨q0, q1, q2, q3, k, 10 * p + v, d + 1⟩ := by
  unfold Rd.step
  rw [if_pos (by omega), if_neg (by
    intro hx
    rcases hx with hx | hx
    · exact h1 hx
    · simp only at hx; omega)]
  simp only
  congr 2 <;> omega

theorem scan_dig (q0 q1 q2 q3 k p d : Int) (v : Nat) (r : List UInt8) (i : Nat) (hv : v ≤ 9) (h1 : ¬ (0 < d ∧ p = 0)) (h2 : 10 * p + v ≤ 255) :
    scan (UInt8.ofNat (48 + v) :: r) ⟨q0, q1, q2, q3, k, p, d⟩ i = scan r ⟨q0, q1, q2, q3, k, 10 * p + v, d + 1⟩ (i + 1) := by
  refine scan_cons ?_
  rw [ofNat_toNat _ (by omega)]
  have := step_dig q0 q1 q2 q3 k p d v (by omega) h1 h2
  rw [← this]
  congr 1

theorem itoa_dec (u : Nat) : Lib.itoa (u : Int) = Lib.decDigits u := by simp [Lib.itoa]

/-- A part's digits are read as the part; there is one digit or more. -/
theorem scan_itoa (q0 q1 q2 q3 k n : Int) (h0 : 0 ≤ n) (h1 : n < 256) (r : List UInt8) (i : Nat) :
    ∃ d : Int, 0 < d ∧ scan (Lib.itoa n ++ r) ⟨q0, q1, q2, q3, k, 0, 0⟩ i = scan r ⟨q0, q1, q2, q3, k, n, d⟩ (i + (Lib.itoa n).length) := by
  obtain ⟨u, rfl⟩ : ∃ u : Nat, n = u := ⟨n.toNat, by omega⟩
  rw [itoa_dec]
  by_cases a : u < 10
  · refine ⟨1, by omega, ?_⟩
    rw [Lib.decDigits, dif_pos a]
    simp only [List.cons_append, List.nil_append, List.length_cons, List.length_nil]
    rw [scan_dig _ _ _ _ _ _ _ u _ _ (by omega) (by omega) (by omega)]
    congr 2 <;> omega
  · by_cases b : u < 100
    · refine ⟨2, by omega, ?_⟩
      rw [Lib.decDigits, dif_neg a, Lib.decDigits, dif_pos (by omega)]
      simp only [List.cons_append, List.nil_append, List.length_cons, List.length_nil]
      rw [scan_dig _ _ _ _ _ _ _ (u / 10) _ _ (by omega) (by omega) (by omega), scan_dig _ _ _ _ _ _ _ (u % 10) _ _ (by omega) (by omega) (by omega)]
      congr 2; omega
    · refine ⟨3, by omega, ?_⟩
      rw [Lib.decDigits, dif_neg a, Lib.decDigits, dif_neg (by omega), Lib.decDigits, dif_pos (by omega)]
      simp only [List.cons_append, List.nil_append, List.length_cons, List.length_nil]
      rw [scan_dig _ _ _ _ _ _ _ (u / 10 / 10) _ _ (by omega) (by omega) (by omega), scan_dig _ _ _ _ _ _ _ (u / 10 % 10) _ _ (by omega) (by omega) (by omega), scan_dig _ _ _ _ _ _ _ (u % 10) _ _ (by omega) (by omega) (by omega)]
      congr 2; omega

theorem scan_dot (s : Rd) (r : List UInt8) (i : Nat) (hk : ¬ s.k = 3) (hd : 0 < s.d) : scan (46 :: r) s i = scan r s.put (i + 1) := by
  refine scan_cons ?_
  unfold Rd.step
  rw [if_neg (by decide), if_pos (by decide), if_neg (by omega)]

theorem scan_txt (a : Int) (h0 : 0 ≤ a) (h1 : a < 4294967296) (r : List UInt8) (i : Nat) : ∃ d : Int, 0 < d ∧ scan (txt a ++ r) rd0 i = scan r ⟨pt a 0, pt a 1, pt a 2, 0, 3, pt a 3, d⟩ (i + (txt a).length) := by
  have r0 := pt_range a h0 h1 0
  have r1 := pt_range a h0 h1 1
  have r2 := pt_range a h0 h1 2
  have r3 := pt_range a h0 h1 3
  unfold txt rd0
  simp only [List.append_assoc, List.cons_append]
  obtain ⟨d0, hd0, e0⟩ := scan_itoa 0 0 0 0 0 (pt a 0) r0.1 r0.2 (46 :: (Lib.itoa (pt a 1) ++ 46 :: (Lib.itoa (pt a 2) ++ 46 :: (Lib.itoa (pt a 3) ++ r)))) i
  rw [e0, scan_dot _ _ _ (by simp) hd0]
  obtain ⟨d1, hd1, e1⟩ := scan_itoa (pt a 0) 0 0 0 1 (pt a 1) r1.1 r1.2 (46 :: (Lib.itoa (pt a 2) ++ 46 :: (Lib.itoa (pt a 3) ++ r))) (i + (Lib.itoa (pt a 0)).length + 1)
  simp only [Rd.put, if_true]
  rw [e1, scan_dot _ _ _ (by simp) hd1]
  obtain ⟨d2, hd2, e2⟩ := scan_itoa (pt a 0) (pt a 1) 0 0 2 (pt a 2) r2.1 r2.2 (46 :: (Lib.itoa (pt a 3) ++ r)) (i + (Lib.itoa (pt a 0)).length + 1 + (Lib.itoa (pt a 1)).length + 1)
  simp only [Rd.put, Int.reduceEq, if_true, if_false]
  rw [e2, scan_dot _ _ _ (by simp) hd2]
  obtain ⟨d3, hd3, e3⟩ := scan_itoa (pt a 0) (pt a 1) (pt a 2) 0 3 (pt a 3) r3.1 r3.2 r (i + (Lib.itoa (pt a 0)).length + 1 + (Lib.itoa (pt a 1)).length + 1 + (Lib.itoa (pt a 2)).length + 1)
  simp only [Rd.put, Int.reduceEq, if_true, if_false]
  refine ⟨d3, hd3, ?_⟩
  rw [e3]
  congr 1
  simp only [List.length_append, List.length_cons]
  omega

theorem pt_of (a : Int) : pt a 0 * 16777216 + pt a 1 * 65536 + pt a 2 * 256 + pt a 3 = a := by
  simp only [pt]; omega

/-- Parse of Text is the address. -/
theorem parse_txt (a : Int) (h0 : 0 ≤ a) (h1 : a < 4294967296) : parseEnd (txt a) = .returned (.tuple #[.int .u32 a, .int .i64 (txt a).length, .int .i64 0]) := by
  obtain ⟨d, hd, e⟩ := scan_txt a h0 h1 [] 0
  rw [List.append_nil] at e
  rw [scan_end_ok e ⟨rfl, hd⟩]
  simp only [Rd.put, Int.reduceEq, if_false, addrOf, pt_of a]
end Go.Proofs.YtabpkdblcinhjaaDoor
