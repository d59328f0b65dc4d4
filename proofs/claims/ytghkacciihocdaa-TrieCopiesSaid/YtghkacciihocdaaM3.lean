/- Merged by tools/merge.py: B1, B2, B3, M1, M2, M3. -/
import Derived.Test.YtghkacciihocdaaA2
import Derived.Test.YtghkacciihocdaaA6
import Derived.Test.YtghkacciihocdaaA3
import Derived.Lib.IndexMore
namespace Go.Proofs.Ytghkacciihocdaa
open Go Go.RowKit

/-- The number with which bytes go on, behind n of m digits: it, and how many digits it has then. -/
def numFrom : List UInt8 → Int → Nat → Int × Nat
  | [], n, m => (n, m)
  | c :: r, n, m => if (48 ≤ (c.toNat : Int) ∧ (c.toNat : Int) ≤ 57) ∧ ¬ ((0 < m ∧ n = 0) ∨ 255 < 10 * n + ((c.toNat : Int) - 48)) then numFrom r (10 * n + ((c.toNat : Int) - 48)) (m + 1) else (n, m)

theorem numFrom_stop {c : UInt8} {r : List UInt8} {n : Int} {m : Nat} (h : ¬ ((48 ≤ (c.toNat : Int) ∧ (c.toNat : Int) ≤ 57) ∧ ¬ ((0 < m ∧ n = 0) ∨ 255 < 10 * n + ((c.toNat : Int) - 48)))) : numFrom (c :: r) n m = (n, m) := by
  rw [numFrom, if_neg h]
theorem numFrom_go {c : UInt8} {r : List UInt8} {n : Int} {m : Nat} (h : (48 ≤ (c.toNat : Int) ∧ (c.toNat : Int) ≤ 57) ∧ ¬ ((0 < m ∧ n = 0) ∨ 255 < 10 * n + ((c.toNat : Int) - 48))) : numFrom (c :: r) n m = numFrom r (10 * n + ((c.toNat : Int) - 48)) (m + 1) := by
  rw [numFrom, if_pos h]

def numEnd (x : Int × Nat) : Ending := .returned (.tuple #[.int .i64 x.1, .int .i64 x.2])

end Go.Proofs.Ytghkacciihocdaa

namespace Go.Proofs.Ytghkacciihocdaa
open Go Go.RowKit

/-- What Head tells of bytes where a part is to begin: so many parts are to come, n is of the parts behind, the place. -/
def headFrom : Nat → Int → List UInt8 → Nat → Int × Nat × Bool
  | 0, n, _, i => (n, i, true)
  | r + 1, n, l, i =>
    if (numFrom l 0 0).2 = 0 then (0, i, false)
    else if r = 0 then (256 * n + (numFrom l 0 0).1, i + (numFrom l 0 0).2, true)
    else match l.drop (numFrom l 0 0).2 with
      | [] => (0, i + (numFrom l 0 0).2, false)
      | c :: l' => if (c.toNat : Int) = 46 then headFrom r (256 * n + (numFrom l 0 0).1) l' (i + (numFrom l 0 0).2 + 1) else (0, i + (numFrom l 0 0).2, false)

/-- Behind a part. -/
def behind (r : Nat) (n : Int) (l : List UInt8) (i : Nat) : Int × Nat × Bool :=
  if r = 0 then (n, i, true)
  else match l with
    | [] => (0, i, false)
    | c :: l' => if (c.toNat : Int) = 46 then headFrom r n l' (i + 1) else (0, i, false)

theorem headFrom_none {r : Nat} {n : Int} {l : List UInt8} {i : Nat} (h : (numFrom l 0 0).2 = 0) : headFrom (r + 1) n l i = (0, i, false) := by
  rw [headFrom, if_pos h]
theorem headFrom_some {r : Nat} {n : Int} {l : List UInt8} {i : Nat} (h : ¬ (numFrom l 0 0).2 = 0) : headFrom (r + 1) n l i = behind r (256 * n + (numFrom l 0 0).1) (l.drop (numFrom l 0 0).2) (i + (numFrom l 0 0).2) := by
  rw [headFrom, if_neg h]
  rfl

theorem numFrom_bound : ∀ (l : List UInt8) (n : Int) (m : Nat), 0 ≤ n → n ≤ 255 → 0 ≤ (numFrom l n m).1 ∧ (numFrom l n m).1 ≤ 255 ∧ m ≤ (numFrom l n m).2 ∧ (numFrom l n m).2 ≤ m + l.length
  | [], n, m, h0, h1 => by simp [numFrom, h0, h1]
  | c :: r, n, m, h0, h1 => by
    rw [numFrom]
    split
    · rename_i h
      have := numFrom_bound r (10 * n + ((c.toNat : Int) - 48)) (m + 1) (by omega) (by omega)
      simp only [List.length_cons]
      omega
    · simp only [List.length_cons]
      omega

def headEnd (x : Int × Nat × Bool) : Ending := .returned (.tuple #[.int .u32 x.1, .int .i64 x.2.1, .bool x.2.2])

theorem pow_small (k : Nat) (hk : k ≤ 3) : (256 : Int) ^ k ≤ 16777216 := by
  match k, hk with
  | 0, _ => decide
  | 1, _ => decide
  | 2, _ => decide
  | 3, _ => decide

end Go.Proofs.Ytghkacciihocdaa

namespace Go.Proofs.Ytghkacciihocdaa
open Go Go.RowKit

def refParsed (l : List UInt8) : Int × Nat × Int :=
  if (headFrom 4 0 l 0).2.2 = true ∧ ¬ (headFrom 4 0 l 0).2.1 < l.length then ((headFrom 4 0 l 0).1, (headFrom 4 0 l 0).2.1, 0) else (0, (headFrom 4 0 l 0).2.1, 110)

def refEnd (l : List UInt8) : Ending := .returned (.tuple #[.int .u32 (refParsed l).1, .int .i64 (refParsed l).2.1, .int .i64 (refParsed l).2.2])

theorem step_num_go (q0 q1 q2 q3 k n : Int) (m : Nat) (c : UInt8) (h : (48 ≤ (c.toNat : Int) ∧ (c.toNat : Int) ≤ 57) ∧ ¬ ((0 < m ∧ n = 0) ∨ 255 < 10 * n + ((c.toNat : Int) - 48))) :
    (Rd.mk q0 q1 q2 q3 k n m).step c.toNat = some ⟨q0, q1, q2, q3, k, 10 * n + ((c.toNat : Int) - 48), (m + 1 : Nat)⟩ := by
  unfold Rd.step
  rw [if_pos h.1, if_neg (by
    intro x
    apply h.2
    rcases x with x | x
    · exact .inl ⟨by simp only at x; omega, x.2⟩
    · exact .inr x)]
  simp

/-- A byte that is no dot, and with which no number goes on: a reader gives up. -/
theorem step_num_stop (q0 q1 q2 q3 k n : Int) (m : Nat) (c : UInt8) (h : ¬ ((48 ≤ (c.toNat : Int) ∧ (c.toNat : Int) ≤ 57) ∧ ¬ ((0 < m ∧ n = 0) ∨ 255 < 10 * n + ((c.toNat : Int) - 48)))) (hd : ¬ (c.toNat : Int) = 46) :
    (Rd.mk q0 q1 q2 q3 k n m).step c.toNat = none := by
  unfold Rd.step
  by_cases h1 : 48 ≤ (c.toNat : Int) ∧ (c.toNat : Int) ≤ 57
  · rw [if_pos h1, if_pos]
    have h2 : (0 < m ∧ n = 0) ∨ 255 < 10 * n + ((c.toNat : Int) - 48) := Decidable.byContradiction fun x => h ⟨h1, x⟩
    rcases h2 with h2 | h2
    · exact .inl ⟨by simp only; omega, h2.2⟩
    · exact .inr h2
  · rw [if_neg h1, if_neg hd]

/-- A reader goes over a number's digits; what stands behind them is nothing, or a byte with which the number does not go on. -/
theorem scan_num (q0 q1 q2 q3 k : Int) : ∀ (l : List UInt8) (n : Int) (m i : Nat),
    scan l ⟨q0, q1, q2, q3, k, n, m⟩ i = scan (l.drop ((numFrom l n m).2 - m)) ⟨q0, q1, q2, q3, k, (numFrom l n m).1, ((numFrom l n m).2 : Nat)⟩ (i + ((numFrom l n m).2 - m)) ∧ m ≤ (numFrom l n m).2 ∧
      ∀ c r, l.drop ((numFrom l n m).2 - m) = c :: r → ¬ (c.toNat : Int) = 46 → (Rd.mk q0 q1 q2 q3 k (numFrom l n m).1 ((numFrom l n m).2 : Nat)).step c.toNat = none
  | [], n, m, i => by simp [numFrom]
  | c :: r, n, m, i => by
    by_cases h : (48 ≤ (c.toNat : Int) ∧ (c.toNat : Int) ≤ 57) ∧ ¬ ((0 < m ∧ n = 0) ∨ 255 < 10 * n + ((c.toNat : Int) - 48))
    · rw [numFrom_go h]
      obtain ⟨e, hm, hs⟩ := scan_num q0 q1 q2 q3 k r (10 * n + ((c.toNat : Int) - 48)) (m + 1) (i + 1)
      have hdr : (c :: r).drop ((numFrom r (10 * n + ((c.toNat : Int) - 48)) (m + 1)).2 - m) = r.drop ((numFrom r (10 * n + ((c.toNat : Int) - 48)) (m + 1)).2 - (m + 1)) := by
        obtain ⟨j, hj⟩ : ∃ j, (numFrom r (10 * n + ((c.toNat : Int) - 48)) (m + 1)).2 = m + 1 + j := ⟨_, (Nat.add_sub_cancel' hm).symm⟩
        rw [hj, show m + 1 + j - m = j + 1 from by omega, show m + 1 + j - (m + 1) = j from by omega, List.drop_succ_cons]
      refine ⟨?_, by omega, ?_⟩
      · have e1 : scan (c :: r) ⟨q0, q1, q2, q3, k, n, m⟩ i = scan r ⟨q0, q1, q2, q3, k, 10 * n + ((c.toNat : Int) - 48), (m + 1 : Nat)⟩ (i + 1) := by
          simp only [scan, step_num_go q0 q1 q2 q3 k n m c h]
        rw [e1, e, hdr, show i + 1 + ((numFrom r (10 * n + ((c.toNat : Int) - 48)) (m + 1)).2 - (m + 1)) = i + ((numFrom r (10 * n + ((c.toNat : Int) - 48)) (m + 1)).2 - m) from by omega]
      · rw [hdr]; exact hs
    · rw [numFrom_stop h]
      refine ⟨by simp, by simp, fun c' r' hc hd => ?_⟩
      simp only [Nat.sub_self, List.drop_zero, List.cons.injEq] at hc
      obtain ⟨rfl, rfl⟩ := hc
      exact step_num_stop q0 q1 q2 q3 k n m c h hd

def out (L : Nat) : Except Nat Rd → Int × Int × Int
  | .error i => (0, (i : Int), 110)
  | .ok s => if s.k = 3 ∧ 0 < s.d then (addrOf s.put, (L : Int), 0) else (0, (L : Int), 110)

def outH (L : Nat) (x : Int × Nat × Bool) : Int × Int × Int :=
  if x.2.2 = true ∧ ¬ x.2.1 < L then (x.1, (x.2.1 : Int), 0) else (0, (x.2.1 : Int), 110)

def val (k : Nat) (q0 q1 q2 : Int) : Int := if k = 0 then 0 else if k = 1 then q0 else if k = 2 then 256 * q0 + q1 else 256 * (256 * q0 + q1) + q2

theorem step_dot_no (s : Rd) (h : s.k = 3 ∨ s.d = 0) : s.step 46 = none := by
  unfold Rd.step
  rw [if_neg (by omega), if_pos rfl, if_pos h]
theorem step_dot_yes (s : Rd) (h : ¬ (s.k = 3 ∨ s.d = 0)) : s.step 46 = some s.put := by
  unfold Rd.step
  rw [if_neg (by omega), if_pos rfl, if_neg h]

theorem put3 (s : Rd) (h : s.k = 3) : s.put = ⟨s.q0, s.q1, s.q2, s.p, 4, 0, 0⟩ := by
  unfold Rd.put
  rw [if_neg (by omega), if_neg (by omega), if_neg (by omega)]

theorem scan_error {c : UInt8} {r : List UInt8} {s : Rd} {i : Nat} (h : s.step c.toNat = none) : scan (c :: r) s i = .error i := by
  simp only [scan, h]

theorem head_scan : ∀ (r : Nat), r ≤ 3 → ∀ (q0 q1 q2 q3 : Int) (l : List UInt8) (i L : Nat), L = i + l.length →
    out L (scan l ⟨q0, q1, q2, q3, ((3 - r : Nat) : Int), 0, 0⟩ i) = outH L (headFrom (r + 1) (val (3 - r) q0 q1 q2) l i)
  | r, hr, q0, q1, q2, q3, l, i, L, hL => by
    obtain ⟨e, _, hs⟩ := scan_num q0 q1 q2 q3 ((3 - r : Nat) : Int) l 0 0 i
    have hb := numFrom_bound l 0 0 (by omega) (by omega)
    rw [Nat.sub_zero] at e hs
    have e' : scan l ⟨q0, q1, q2, q3, ((3 - r : Nat) : Int), 0, 0⟩ i = scan (l.drop (numFrom l 0 0).2) ⟨q0, q1, q2, q3, ((3 - r : Nat) : Int), (numFrom l 0 0).1, ((numFrom l 0 0).2 : Nat)⟩ (i + (numFrom l 0 0).2) := e
    rw [e']
    clear e e'
    by_cases hz : (numFrom l 0 0).2 = 0
    · rw [headFrom_none hz]
      rw [hz] at hs ⊢
      rw [List.drop_zero] at hs ⊢
      simp only [outH, Bool.false_eq_true, false_and, if_false, Nat.add_zero]
      cases l with
      | nil =>
        simp only [scan, out, List.length_nil] at hL ⊢
        rw [if_neg (by omega), hL]
        simp
      | cons c r' =>
        rw [scan_error]
        · simp only [out]
        · by_cases hd : (c.toNat : Int) = 46
          · rw [hd]; exact step_dot_no _ (.inr rfl)
          · exact hs c r' rfl hd
    · rw [headFrom_some hz]
      have hlen : (l.drop (numFrom l 0 0).2).length = l.length - (numFrom l 0 0).2 := List.length_drop
      generalize (numFrom l 0 0).1 = p at *
      generalize (numFrom l 0 0).2 = m at *
      generalize l.drop m = rest at *
      match r, hr with
      | 0, _ =>
        simp only [behind, if_true, outH, true_and]
        cases rest with
        | nil =>
          simp only [List.length_nil] at hlen
          rw [if_pos (by omega)]
          simp only [scan, out]
          rw [if_pos ⟨rfl, by omega⟩]
          rw [put3 _ rfl]
          simp only [addrOf, val, Nat.sub_zero, Nat.reduceEqDiff, if_false]
          refine Prod.ext (by simp only; omega) (Prod.ext (by simp only; omega) rfl)
        | cons c r' =>
          simp only [List.length_cons] at hlen
          rw [if_neg (by omega), scan_error]
          · simp only [out]
          · by_cases hd : (c.toNat : Int) = 46
            · rw [hd]; exact step_dot_no _ (.inl rfl)
            · exact hs c r' rfl hd
      | r + 1, hr =>
        unfold behind
        rw [if_neg (by omega)]
        cases rest with
        | nil =>
          simp only [List.length_nil] at hlen
          simp only [scan, out, outH, Bool.false_eq_true, false_and, if_false]
          rw [if_neg (by omega)]
          refine Prod.ext rfl (Prod.ext (by simp only; omega) rfl)
        | cons c l' =>
          simp only [List.length_cons] at hlen
          simp only
          by_cases hd : (c.toNat : Int) = 46
          · rw [if_pos hd]
            have hst : (Rd.mk q0 q1 q2 q3 ((3 - (r + 1) : Nat) : Int) p (m : Nat)).step (c.toNat : Int) = some (Rd.mk q0 q1 q2 q3 ((3 - (r + 1) : Nat) : Int) p (m : Nat)).put := by
              rw [hd]; exact step_dot_yes _ (by simp only; omega)
            have hsc : scan (c :: l') ⟨q0, q1, q2, q3, ((3 - (r + 1) : Nat) : Int), p, (m : Nat)⟩ (i + m) = scan l' (Rd.mk q0 q1 q2 q3 ((3 - (r + 1) : Nat) : Int) p (m : Nat)).put (i + m + 1) := by
              simp only [scan, hst]
            rw [hsc]
            match r, hr with
            | 0, _ => exact head_scan 0 (by omega) q0 q1 p q3 l' (i + m + 1) L (by omega)
            | 1, _ => exact head_scan 1 (by omega) q0 p q2 q3 l' (i + m + 1) L (by omega)
            | 2, _ =>
              have h := head_scan 2 (by omega) p q1 q2 q3 l' (i + m + 1) L (by omega)
              have hv : val (3 - 2) p q1 q2 = 256 * val (3 - (2 + 1)) q0 q1 q2 + p := by simp [val]
              rw [← hv]
              exact h
          · rw [if_neg hd, scan_error (hs c l' rfl hd)]
            simp only [out, outH, Bool.false_eq_true, false_and, if_false]

theorem parsed_ref (l : List UInt8) : parsed l = ((refParsed l).1, ((refParsed l).2.1 : Int), (refParsed l).2.2) := by
  have h := head_scan 3 (by omega) 0 0 0 0 l 0 l.length (by omega)
  have h1 : parsed l = out l.length (scan l rd0 0) := by
    unfold parsed out
    rfl
  have h2 : outH l.length (headFrom 4 0 l 0) = ((refParsed l).1, ((refParsed l).2.1 : Int), (refParsed l).2.2) := by
    unfold outH refParsed
    split <;> rfl
  rw [h1, ← h2]
  exact h

/-- Parse tells what its reference tells. -/
theorem parseEnd_ref (l : List UInt8) : refEnd l = parseEnd l := by
  unfold refEnd parseEnd
  rw [parsed_ref]
end Go.Proofs.Ytghkacciihocdaa

namespace Go.Proofs.Ytghkacciihocdaa
open Go Go.RowKit

theorem ofNat_toNat (n : Nat) (h : n < 256) : (UInt8.ofNat n).toNat = n := by
  simp; omega

theorem scan_cons {c : UInt8} {r : List UInt8} {s s' : Rd} {i : Nat} (h : s.step c.toNat = some s') : scan (c :: r) s i = scan r s' (i + 1) := by
  simp only [scan, h]

theorem step_dig (q0 q1 q2 q3 k p d v : Int) (hv : 0 ≤ v ∧ v ≤ 9) (h1 : ¬ (0 < d ∧ p = 0)) (h2 : 10 * p + v ≤ 255) : (Rd.mk q0 q1 q2 q3 k p d).step (48 + v) = some ⟨q0, q1, q2, q3, k, 10 * p + v, d + 1⟩ := by
  unfold Rd.step
  rw [if_pos (by omega), if_neg (by
    intro hx
    rcases hx with hx | hx
    · exact h1 hx
    · simp only at hx; omega)]
  simp only
  congr 2 <;> omega

theorem scan_dig (q0 q1 q2 q3 k p d : Int) (v : Nat) (r : List UInt8) (i : Nat) (hv : v ≤ 9) (h1 : ¬ (0 < d ∧ p = 0)) (h2 : 10 * p + v ≤ 255) :
    scan (UInt8.ofNat (48 + v) :: r) ⟨q0, q1, q2, q3, k, p, d⟩ i = scan r ⟨q0, q1, q2, q3, k, 10 * p + v, d + 1⟩ (i + 1) := by
  refine scan_cons ?_
  rw [ofNat_toNat _ (by omega)]
  have := step_dig q0 q1 q2 q3 k p d v (by omega) h1 h2
  rw [← this]
  congr 1

theorem itoa_dec (u : Nat) : Lib.itoa (u : Int) = Lib.decDigits u := by simp [Lib.itoa]

/-- A part's digits are read as the part; there is one digit or more. -/
theorem scan_itoa (q0 q1 q2 q3 k n : Int) (h0 : 0 ≤ n) (h1 : n < 256) (r : List UInt8) (i : Nat) :
    ∃ d : Int, 0 < d ∧ scan (Lib.itoa n ++ r) ⟨q0, q1, q2, q3, k, 0, 0⟩ i = scan r ⟨q0, q1, q2, q3, k, n, d⟩ (i + (Lib.itoa n).length) := by
  obtain ⟨u, rfl⟩ : ∃ u : Nat, n = u := ⟨n.toNat, by omega⟩
  rw [itoa_dec]
  by_cases a : u < 10
  · refine ⟨1, by omega, ?_⟩
    rw [Lib.decDigits, dif_pos a]
    simp only [List.cons_append, List.nil_append, List.length_cons, List.length_nil]
    rw [scan_dig _ _ _ _ _ _ _ u _ _ (by omega) (by omega) (by omega)]
    congr 2 <;> omega
  · by_cases b : u < 100
    · refine ⟨2, by omega, ?_⟩
      rw [Lib.decDigits, dif_neg a, Lib.decDigits, dif_pos (by omega)]
      simp only [List.cons_append, List.nil_append, List.length_cons, List.length_nil]
      rw [scan_dig _ _ _ _ _ _ _ (u / 10) _ _ (by omega) (by omega) (by omega), scan_dig _ _ _ _ _ _ _ (u % 10) _ _ (by omega) (by omega) (by omega)]
      congr 2; omega
    · refine ⟨3, by omega, ?_⟩
      rw [Lib.decDigits, dif_neg a, Lib.decDigits, dif_neg (by omega), Lib.decDigits, dif_pos (by omega)]
      simp only [List.cons_append, List.nil_append, List.length_cons, List.length_nil]
      rw [scan_dig _ _ _ _ _ _ _ (u / 10 / 10) _ _ (by omega) (by omega) (by omega), scan_dig _ _ _ _ _ _ _ (u / 10 % 10) _ _ (by omega) (by omega) (by omega), scan_dig _ _ _ _ _ _ _ (u % 10) _ _ (by omega) (by omega) (by omega)]
      congr 2; omega

theorem scan_dot (s : Rd) (r : List UInt8) (i : Nat) (hk : ¬ s.k = 3) (hd : 0 < s.d) : scan (46 :: r) s i = scan r s.put (i + 1) := by
  refine scan_cons ?_
  unfold Rd.step
  rw [if_neg (by decide), if_pos (by decide), if_neg (by omega)]

theorem scan_txt (a : Int) (h0 : 0 ≤ a) (h1 : a < 4294967296) (r : List UInt8) (i : Nat) : ∃ d : Int, 0 < d ∧ scan (txt a ++ r) rd0 i = scan r ⟨pt a 0, pt a 1, pt a 2, 0, 3, pt a 3, d⟩ (i + (txt a).length) := by
  have r0 := pt_range a h0 h1 0
  have r1 := pt_range a h0 h1 1
  have r2 := pt_range a h0 h1 2
  have r3 := pt_range a h0 h1 3
  unfold txt rd0
  simp only [List.append_assoc, List.cons_append]
  obtain ⟨d0, hd0, e0⟩ := scan_itoa 0 0 0 0 0 (pt a 0) r0.1 r0.2 (46 :: (Lib.itoa (pt a 1) ++ 46 :: (Lib.itoa (pt a 2) ++ 46 :: (Lib.itoa (pt a 3) ++ r)))) i
  rw [e0, scan_dot _ _ _ (by simp) hd0]
  obtain ⟨d1, hd1, e1⟩ := scan_itoa (pt a 0) 0 0 0 1 (pt a 1) r1.1 r1.2 (46 :: (Lib.itoa (pt a 2) ++ 46 :: (Lib.itoa (pt a 3) ++ r))) (i + (Lib.itoa (pt a 0)).length + 1)
  simp only [Rd.put, if_true]
  rw [e1, scan_dot _ _ _ (by simp) hd1]
  obtain ⟨d2, hd2, e2⟩ := scan_itoa (pt a 0) (pt a 1) 0 0 2 (pt a 2) r2.1 r2.2 (46 :: (Lib.itoa (pt a 3) ++ r)) (i + (Lib.itoa (pt a 0)).length + 1 + (Lib.itoa (pt a 1)).length + 1)
  simp only [Rd.put, Int.reduceEq, if_true, if_false]
  rw [e2, scan_dot _ _ _ (by simp) hd2]
  obtain ⟨d3, hd3, e3⟩ := scan_itoa (pt a 0) (pt a 1) (pt a 2) 0 3 (pt a 3) r3.1 r3.2 r (i + (Lib.itoa (pt a 0)).length + 1 + (Lib.itoa (pt a 1)).length + 1 + (Lib.itoa (pt a 2)).length + 1)
  simp only [Rd.put, Int.reduceEq, if_true, if_false]
  refine ⟨d3, hd3, ?_⟩
  rw [e3]
  congr 1
  simp only [List.length_append, List.length_cons]
  omega

theorem pt_of (a : Int) : pt a 0 * 16777216 + pt a 1 * 65536 + pt a 2 * 256 + pt a 3 = a := by
  simp only [pt]; omega

/-- Parse of Text is the address. -/
theorem parse_txt (a : Int) (h0 : 0 ≤ a) (h1 : a < 4294967296) : parseEnd (txt a) = .returned (.tuple #[.int .u32 a, .int .i64 (txt a).length, .int .i64 0]) := by
  obtain ⟨d, hd, e⟩ := scan_txt a h0 h1 [] 0
  rw [List.append_nil] at e
  rw [scan_end_ok e ⟨rfl, hd⟩]
  simp only [Rd.put, Int.reduceEq, if_false, addrOf, pt_of a]
end Go.Proofs.Ytghkacciihocdaa

namespace Go.Proofs.Ytghkacciihocdaa
open Go Go.RowKit

theorem dec_snoc (u v : Nat) (hu : 0 < u) (hv : v ≤ 9) : Lib.decDigits (10 * u + v) = Lib.decDigits u ++ [UInt8.ofNat (48 + v)] := by
  rw [Lib.decDigits, dif_neg (by omega), show (10 * u + v) / 10 = u from by omega, show (10 * u + v) % 10 = v from by omega]

theorem ofNat_of_toNat (c : UInt8) (v : Nat) (h : c.toNat = 48 + v) : c = UInt8.ofNat (48 + v) := by
  rw [← h]; simp

/-- The digits over which numFrom goes are the number's. -/
theorem num_text : ∀ (l : List UInt8) (n : Int) (m : Nat) (w : List UInt8), 0 ≤ n → m = w.length → (m = 0 → n = 0) → (0 < m → w = Lib.itoa n) → 0 < (numFrom l n m).2 →
    w ++ l.take ((numFrom l n m).2 - m) = Lib.itoa (numFrom l n m).1 ∧ m ≤ (numFrom l n m).2
  | [], n, m, w, _, _, _, hw, h => by
    simp only [numFrom] at h ⊢
    simp [hw h]
  | c :: r, n, m, w, hn, hm, h0, hw, h => by
    by_cases hc : (48 ≤ (c.toNat : Int) ∧ (c.toNat : Int) ≤ 57) ∧ ¬ ((0 < m ∧ n = 0) ∨ 255 < 10 * n + ((c.toNat : Int) - 48))
    · rw [numFrom_go hc] at h ⊢
      have hv : c = UInt8.ofNat (48 + (c.toNat - 48)) := ofNat_of_toNat c _ (by omega)
      have hstep : w ++ [c] = Lib.itoa (10 * n + ((c.toNat : Int) - 48)) := by
        obtain ⟨u, rfl⟩ : ∃ u : Nat, n = u := ⟨n.toNat, by omega⟩
        rw [show 10 * (u : Int) + ((c.toNat : Int) - 48) = ((10 * u + (c.toNat - 48) : Nat) : Int) from by omega, itoa_dec]
        by_cases hm0 : 0 < m
        · have hu : 0 < u := by
            have : ¬ ((u : Int) = 0) := fun x => hc.2 (.inl ⟨hm0, x⟩)
            omega
          rw [dec_snoc u _ hu (by omega), hw hm0, itoa_dec, ← hv]
        · have hu : u = 0 := by have := h0 (by omega); omega
          subst hu
          have hwn : w = [] := List.eq_nil_of_length_eq_zero (by omega)
          rw [hwn, Lib.decDigits, dif_pos (by omega), show 10 * 0 + (c.toNat - 48) = c.toNat - 48 from by omega, ← hv]
          rfl
      obtain ⟨e, hle⟩ := num_text r (10 * n + ((c.toNat : Int) - 48)) (m + 1) (w ++ [c]) (by omega) (by simp; omega) (by omega) (fun _ => hstep) h
      refine ⟨?_, by omega⟩
      rw [← e, List.append_assoc]
      congr 1
      obtain ⟨j, hj⟩ : ∃ j, (numFrom r (10 * n + ((c.toNat : Int) - 48)) (m + 1)).2 = m + 1 + j := ⟨_, (Nat.add_sub_cancel' hle).symm⟩
      rw [hj, show m + 1 + j - m = j + 1 from by omega, show m + 1 + j - (m + 1) = j from by omega]
      rfl
    · rw [numFrom_stop hc] at h ⊢
      simp [hw h]

/-- Parts as a text, a dot between each two. -/
def partsText : List Int → List UInt8
  | [] => []
  | [p] => Lib.itoa p
  | p :: r => Lib.itoa p ++ 46 :: partsText r

def partsVal : Int → List Int → Int
  | n, [] => n
  | n, p :: r => partsVal (256 * n + p) r

theorem partsText_cons (p : Int) (r : List Int) (h : 0 < r.length) : partsText (p :: r) = Lib.itoa p ++ 46 :: partsText r := by
  cases r with
  | nil => simp at h
  | cons q r => rfl

theorem head_text : ∀ (r : Nat) (n : Int) (l : List UInt8) (i : Nat) (a : Int) (e : Nat), headFrom (r + 1) n l i = (a, e, true) →
    ∃ ps : List Int, ps.length = r + 1 ∧ (∀ p ∈ ps, 0 ≤ p ∧ p ≤ 255) ∧ a = partsVal n ps ∧ ∃ rest, l = partsText ps ++ rest ∧ e = i + (partsText ps).length
  | r, n, l, i, a, e, h => by
    have hb := numFrom_bound l 0 0 (by omega) (by omega)
    by_cases hz : (numFrom l 0 0).2 = 0
    · rw [headFrom_none hz] at h
      cases h
    · rw [headFrom_some hz] at h
      obtain ⟨ht, _⟩ := num_text l 0 0 [] (by omega) rfl (fun _ => rfl) (fun x => absurd x (by omega)) (by omega)
      rw [Nat.sub_zero, List.nil_append] at ht
      have hlen : (Lib.itoa (numFrom l 0 0).1).length = (numFrom l 0 0).2 := by
        rw [← ht, List.length_take]; omega
      have hsplit : l = Lib.itoa (numFrom l 0 0).1 ++ l.drop (numFrom l 0 0).2 := by
        rw [← ht, List.take_append_drop]
      generalize (numFrom l 0 0).1 = p at *
      generalize (numFrom l 0 0).2 = m at *
      generalize l.drop m = rest at *
      match r with
      | 0 =>
        simp only [behind, if_true, Prod.mk.injEq] at h
        refine ⟨[p], rfl, fun q hq => by have : q = p := by simpa using hq
                                         subst this; omega, h.1.symm, rest, hsplit, ?_⟩
        simp only [partsText]; omega
      | r + 1 =>
        unfold behind at h
        rw [if_neg (by omega)] at h
        cases rest with
        | nil => simp at h
        | cons c l' =>
          simp only at h
          by_cases hd : (c.toNat : Int) = 46
          · rw [if_pos hd] at h
            obtain ⟨ps, h1, h2, h3, rest', h4, h5⟩ := head_text r _ l' _ a e h
            have hc : c = 46 := by
              have : c.toNat = 46 := by omega
              exact UInt8.toNat_inj.1 this
            refine ⟨p :: ps, by simp [h1], fun q hq => ?_, h3, rest', ?_, ?_⟩
            · rcases List.mem_cons.1 hq with rfl | hq
              · omega
              · exact h2 q hq
            · rw [partsText_cons p ps (by omega), hsplit, hc, h4]; simp
            · rw [partsText_cons p ps (by omega), h5]; simp; omega
          · rw [if_neg hd] at h; cases h

theorem partsText4 (p0 p1 p2 p3 : Int) (h0 : 0 ≤ p0 ∧ p0 ≤ 255) (h1 : 0 ≤ p1 ∧ p1 ≤ 255) (h2 : 0 ≤ p2 ∧ p2 ≤ 255) (h3 : 0 ≤ p3 ∧ p3 ≤ 255) :
    txt (partsVal 0 [p0, p1, p2, p3]) = partsText [p0, p1, p2, p3] ∧ 0 ≤ partsVal 0 [p0, p1, p2, p3] ∧ partsVal 0 [p0, p1, p2, p3] < 4294967296 := by
  have e0 : pt (partsVal 0 [p0, p1, p2, p3]) 0 = p0 := by simp only [pt, partsVal]; omega
  have e1 : pt (partsVal 0 [p0, p1, p2, p3]) 1 = p1 := by simp only [pt, partsVal]; omega
  have e2 : pt (partsVal 0 [p0, p1, p2, p3]) 2 = p2 := by simp only [pt, partsVal]; omega
  have e3 : pt (partsVal 0 [p0, p1, p2, p3]) 3 = p3 := by simp only [pt, partsVal]; omega
  refine ⟨?_, ?_, ?_⟩
  · unfold txt; rw [e0, e1, e2, e3]; rfl
  · simp only [partsVal]; omega
  · simp only [partsVal]; omega

theorem head_le : ∀ (r : Nat) (n : Int) (l : List UInt8) (i : Nat), (headFrom r n l i).2.1 ≤ i + l.length
  | 0, n, l, i => by simp [headFrom]
  | r + 1, n, l, i => by
    have hb := numFrom_bound l 0 0 (by omega) (by omega)
    by_cases hz : (numFrom l 0 0).2 = 0
    · rw [headFrom_none hz]
      simp only; omega
    · rw [headFrom_some hz]
      have hlen : (l.drop (numFrom l 0 0).2).length = l.length - (numFrom l 0 0).2 := List.length_drop
      generalize (numFrom l 0 0).1 = p at *
      generalize (numFrom l 0 0).2 = m at *
      generalize l.drop m = rest at *
      unfold behind
      split
      · simp only; omega
      · cases rest with
        | nil => simp only; omega
        | cons c l' =>
          simp only [List.length_cons] at hlen
          simp only
          split
          · have := head_le r (256 * n + p) l' (i + m + 1)
            omega
          · simp only; omega

/-- What Parse tells: an error, and 0; or an address, the text's length, and the text is the address's. -/
theorem parsed_cases (l : List UInt8) : (∃ i : Nat, i ≤ l.length ∧ parsed l = (0, (i : Int), 110)) ∨ (∃ a : Int, 0 ≤ a ∧ a < 4294967296 ∧ parsed l = (a, (l.length : Int), 0) ∧ txt a = l) := by
  rw [parsed_ref]
  unfold refParsed
  by_cases h : (headFrom 4 0 l 0).2.2 = true ∧ ¬ (headFrom 4 0 l 0).2.1 < l.length
  · rw [if_pos h]
    right
    obtain ⟨h1, h2⟩ := h
    obtain ⟨ps, hl, hr, ha, rest, hs, he⟩ := head_text 3 0 l 0 (headFrom 4 0 l 0).1 (headFrom 4 0 l 0).2.1 (by rw [← h1])
    match ps, hl with
    | [p0, p1, p2, p3], _ =>
      obtain ⟨t, a0, a1⟩ := partsText4 p0 p1 p2 p3 (hr _ (by simp)) (hr _ (by simp)) (hr _ (by simp)) (hr _ (by simp))
      have hll : l.length = (partsText [p0, p1, p2, p3]).length + rest.length := by
        conv => lhs; rw [hs]
        exact List.length_append
      have hrest : rest = [] := List.eq_nil_of_length_eq_zero (by omega)
      subst hrest
      rw [List.append_nil] at hs
      refine ⟨(headFrom 4 0 l 0).1, ?_, ?_, ?_, ?_⟩
      · rw [ha]; exact a0
      · rw [ha]; exact a1
      · simp only [List.length_nil, Nat.add_zero] at hll
        rw [he, hll]; simp
      · rw [ha, t]; exact hs.symm
  · rw [if_neg h]
    left
    exact ⟨(headFrom 4 0 l 0).2.1, by have := head_le 4 0 l 0; omega, rfl⟩
end Go.Proofs.Ytghkacciihocdaa

namespace Go.Proofs.Ytghkacciihocdaa
open Go Go.RowKit

/-- Bytes ahead of the first blank, those behind it, and whether there is one. -/
def cut32 : List UInt8 → List UInt8 × List UInt8 × Bool
  | [] => ([], [], false)
  | c :: r => if c = 32 then ([], r, true) else (c :: (cut32 r).1, (cut32 r).2.1, (cut32 r).2.2)

theorem cut32_yes : ∀ (l : List UInt8), (cut32 l).2.2 = true → l = (cut32 l).1 ++ 32 :: (cut32 l).2.1
  | [], h => by simp [cut32] at h
  | c :: r, h => by
    by_cases hc : c = 32
    · subst hc; simp [cut32]
    · simp only [cut32, if_neg hc] at h ⊢
      have := cut32_yes r h
      rw [List.cons_append, ← this]
theorem cut32_no : ∀ (l : List UInt8), (cut32 l).2.2 = false → l = (cut32 l).1 ∧ (cut32 l).2.1 = []
  | [], _ => by simp [cut32]
  | c :: r, h => by
    by_cases hc : c = 32
    · subst hc; simp [cut32] at h
    · simp only [cut32, if_neg hc] at h ⊢
      have := cut32_no r h
      exact ⟨by rw [← this.1], this.2⟩
theorem cut32_free : ∀ (l : List UInt8), ∀ c ∈ (cut32 l).1, c ≠ 32
  | [], c, h => by simp [cut32] at h
  | d :: r, c, h => by
    by_cases hd : d = 32
    · subst hd; simp [cut32] at h
    · simp only [cut32, if_neg hd] at h
      rcases List.mem_cons.1 h with rfl | h
      · exact hd
      · exact cut32_free r c h

theorem index32_nonneg : ∀ (l : List UInt8), -1 ≤ Lib.index l [32] := fun l => Lib.index_ge l _

theorem cut_eq : ∀ (l : List UInt8), Lib.cut l [32] = cut32 l
  | [] => by simp [Lib.cut, Lib.index, cut32]
  | c :: r => by
    have ih := cut_eq r
    have hge := index32_nonneg r
    by_cases hc : c = 32
    · subst hc
      simp [Lib.cut, Lib.index, cut32, List.isPrefixOf]
    · have hp : List.isPrefixOf [32] (c :: r) = false := by
        simp [List.isPrefixOf]; exact fun h => hc h.symm
      simp only [cut32, if_neg hc, ← ih]
      have hidx : Lib.index (c :: r) [32] = if Lib.index r [32] == -1 then -1 else Lib.index r [32] + 1 := by
        rw [Lib.index, hp]
        simp
      unfold Lib.cut
      by_cases hm : Lib.index r [32] = -1
      · rw [if_pos (by simp [hm])] at hidx
        rw [hidx, hm, if_neg (by omega), if_neg (by omega)]
      · rw [if_neg (by simpa using hm)] at hidx
        rw [hidx, if_pos (by omega), if_pos (by omega)]
        obtain ⟨u, hu⟩ : ∃ u : Nat, Lib.index r [32] = u := ⟨(Lib.index r [32]).toNat, by omega⟩
        rw [hu, show ((u : Int) + 1).toNat = u + 1 from by omega, Int.toNat_natCast]
        simp

theorem numFrom_blank : ∀ (l r : List UInt8) (n : Int) (m : Nat), numFrom (l ++ 32 :: r) n m = numFrom l n m
  | [], r, n, m => by
    rw [List.nil_append, numFrom_stop (by intro x; exact absurd x.1.1 (by decide)), numFrom]
  | c :: l, r, n, m => by
    rw [List.cons_append, numFrom, numFrom]
    split
    · exact numFrom_blank l r _ _
    · rfl

theorem headFrom_blank : ∀ (k : Nat) (n : Int) (l r : List UInt8) (i : Nat), headFrom k n (l ++ 32 :: r) i = headFrom k n l i
  | 0, _, _, _, _ => rfl
  | k + 1, n, l, r, i => by
    have hb := numFrom_bound l 0 0 (by omega) (by omega)
    have hnum := numFrom_blank l r 0 0
    by_cases hz : (numFrom l 0 0).2 = 0
    · rw [headFrom_none hz, headFrom_none (by rw [hnum]; exact hz)]
    · rw [headFrom_some hz, headFrom_some (by rw [hnum]; exact hz), hnum]
      rw [List.drop_append_of_le_length (by omega)]
      generalize l.drop (numFrom l 0 0).2 = rest
      unfold behind
      split
      · rfl
      · cases rest with
        | nil => simp
        | cons c l' =>
          simp only [List.cons_append]
          split
          · exact headFrom_blank k _ l' r _
          · rfl

theorem headFrom_shift : ∀ (k : Nat) (n : Int) (l : List UInt8) (i : Nat), headFrom k n l i = ((headFrom k n l 0).1, i + (headFrom k n l 0).2.1, (headFrom k n l 0).2.2)
  | 0, _, _, _ => by simp [headFrom]
  | k + 1, n, l, i => by
    by_cases hz : (numFrom l 0 0).2 = 0
    · rw [headFrom_none hz, headFrom_none hz]; simp
    · rw [headFrom_some hz, headFrom_some hz]
      generalize l.drop (numFrom l 0 0).2 = rest
      unfold behind
      split
      · simp
      · cases rest with
        | nil => simp
        | cons c l' =>
          simp only
          split
          · rw [headFrom_shift k _ l' (i + _ + 1), headFrom_shift k _ l' (0 + _ + 1)]
            simp only [Prod.mk.injEq, true_and, and_true]; omega
          · simp

/-- What Each tells: the place of each address, and it. -/
def eachF : Nat → Nat → List UInt8 → List (Int × Int)
  | 0, _, _ => []
  | n + 1, i, l => if (parsed (cut32 l).1).2.2 = 0 then ((i : Int), (parsed (cut32 l).1).1) :: (if (cut32 l).2.2 = true then eachF n (i + (cut32 l).1.length + 1) (cut32 l).2.1 else []) else []

/-- What its reference tells. -/
def refF : Nat → Nat → List UInt8 → List (Int × Int)
  | 0, _, _ => []
  | n + 1, i, l =>
    if (headFrom 4 0 l i).2.2 = true then
      match l.drop ((headFrom 4 0 l i).2.1 - i) with
      | [] => [((i : Int), (headFrom 4 0 l i).1)]
      | c :: r => if c = 32 then ((i : Int), (headFrom 4 0 l i).1) :: refF n ((headFrom 4 0 l i).2.1 + 1) r else []
    else []

theorem eachF_ref : ∀ (n i : Nat) (l : List UInt8), eachF n i l = refF n i l
  | 0, _, _ => rfl
  | n + 1, i, l => by
    have hle := head_le 4 0 (cut32 l).1 0
    have hhead : headFrom 4 0 l i = ((headFrom 4 0 (cut32 l).1 0).1, i + (headFrom 4 0 (cut32 l).1 0).2.1, (headFrom 4 0 (cut32 l).1 0).2.2) := by
      rw [← headFrom_shift]
      cases hb : (cut32 l).2.2 with
      | true =>
        conv => lhs; rw [cut32_yes l hb]
        exact headFrom_blank 4 0 _ _ i
      | false => conv => lhs; rw [(cut32_no l hb).1]
    have hpar : parsed (cut32 l).1 = ((refParsed (cut32 l).1).1, ((refParsed (cut32 l).1).2.1 : Int), (refParsed (cut32 l).1).2.2) := parsed_ref _
    unfold eachF refF
    rw [hhead, hpar]
    unfold refParsed
    have hfree := cut32_free l
    have hyes := cut32_yes l
    have hno := cut32_no l
    have ih := fun j => eachF_ref n j (cut32 l).2.1
    generalize headFrom 4 0 (cut32 l).1 0 = x at *
    generalize (cut32 l).1 = w at *
    generalize (cut32 l).2.1 = t at *
    obtain ⟨a, e, is⟩ := x
    simp only at hle ⊢
    rw [show i + e - i = e from by omega]
    cases is with
    | false => simp
    | true =>
      simp only [true_and, if_true]
      by_cases he : e < w.length
      · have h1 : (if ¬ e < w.length then (a, e, (0 : Int)) else (0, e, 110)) = (0, e, 110) := if_neg (by simpa using he)
        rw [h1]
        simp only [Int.reduceEq, if_false]
        have hdrop : ∃ c r, l.drop e = c :: r ∧ c ∈ w := by
          have hw : ∃ c r, w.drop e = c :: r := by
            cases hd : w.drop e with
            | nil => have := congrArg List.length hd; simp at this; omega
            | cons c r => exact ⟨c, r, rfl⟩
          obtain ⟨c, r, hd⟩ := hw
          have hmem : c ∈ w := List.mem_of_mem_drop (by rw [hd]; exact List.mem_cons_self)
          cases hb : (cut32 l).2.2 with
          | true =>
            refine ⟨c, r ++ 32 :: t, ?_, hmem⟩
            rw [hyes hb, List.drop_append_of_le_length (by omega), hd]; rfl
          | false => exact ⟨c, r, by rw [(hno hb).1]; exact hd, hmem⟩
        obtain ⟨c, r, hd, hmem⟩ := hdrop
        rw [hd]
        simp only
        rw [if_neg (hfree c hmem)]
      · have hew : e = w.length := by omega
        subst hew
        have h1 : (if ¬ w.length < w.length then (a, w.length, (0 : Int)) else (0, w.length, 110)) = (a, w.length, 0) := if_pos (by simp)
        rw [h1]
        simp only [if_true]
        cases hb : (cut32 l).2.2 with
        | true =>
          have hd : l.drop w.length = 32 :: t := by
            rw [hyes hb, List.drop_append_of_le_length (by omega), List.drop_length]; rfl
          rw [hd]
          simp only [if_true]
          rw [ih]
        | false =>
          have hd : l.drop w.length = [] := by rw [(hno hb).1]; exact List.drop_length
          rw [hd]
          simp
end Go.Proofs.Ytghkacciihocdaa
