/- Contract of layer 1's reference Parse; it tells what Parse tells. -/
import Derived.Test.YtabpkdblcinhjaaDoorB2
import Derived.Test.YtabpkdblcinhjaaDoorA6
namespace Go.Proofs.YtabpkdblcinhjaaDoor
open Go Go.RowKit

def refParsed (l : List UInt8) : Int × Nat × Int :=
  if (headFrom 4 0 l 0).2.2 = true ∧ ¬ (headFrom 4 0 l 0).2.1 < l.length then ((headFrom 4 0 l 0).1, (headFrom 4 0 l 0).2.1, 0) else (0, (headFrom 4 0 l 0).2.1, 110)

def refEnd (l : List UInt8) : Ending := .returned (.tuple #[.int .u32 (refParsed l).1, .int .i64 (refParsed l).2.1, .int .i64 (refParsed l).2.2])

theorem step_num_go (q0 q1 q2 q3 k n : Int) (m : Nat) (c : UInt8) (h : (48 ≤ (c.toNat : Int) ∧ (c.toNat : Int) ≤ 57) ∧ ¬ ((0 < m ∧ n = 0) ∨ 255 < 10 * n + ((c.toNat : Int) - 48))) :
    (Rd.mk q0 q1 q2 q3 k n m).step c.toNat = some ⟨q0, q1, q2, q3, k, 10 * n + ((c.toNat : Int) - 48), (m + 1 : Nat)⟩ := by
  unfold Rd.step
  rw [if_pos h.1, if_neg (by
    intro x
    apply h.2
    rcases x with x | x
    · exact .inl ⟨by simp only at x; omega, x.2⟩
    · exact .inr x)]
  simp

/-- A byte that is no dot, and with which no number goes on: a reader gives up. -/
theorem step_num_stop (q0 q1 q2 q3 k n : Int) (m : Nat) (c : UInt8) (h : ¬ ((48 ≤ (c.toNat : Int) ∧ (c.toNat : Int) ≤ 57) ∧ ¬ ((0 < m ∧ n = 0) ∨ 255 < 10 * n + ((c.toNat : Int) - 48)))) (hd : ¬ (c.toNat : Int) = 46) :
    (Rd.mk q0 q1 q2 q3 k n m).step c.toNat = none := by
  unfold Rd.step
  by_cases h1 : 48 ≤ (c.toNat : Int) ∧ (c.toNat : Int) ≤ 57
  · rw [if_pos h1, if_pos]
    have h2 : (0 < m ∧ n = 0) ∨ 255 < 10 * n + ((c.toNat : Int) - 48) := Decidable.byContradiction fun x => h ⟨h1, x⟩
    rcases h2 with h2 | h2
    · exact .inl ⟨by simp only; omega, h2.2⟩
    · exact .inr h2
  · rw [if_neg h1, if_neg hd]

/-- A reader goes over a number's digits; what stands behind them is nothing, or a byte with which the number does not go on. -/
theorem scan_num (q0 q1 q2 q3 k : Int) : ∀ (l : List UInt8) (n : Int) (m i : Nat),
    scan l ⟨q0, q1, q2, q3, k, n, m⟩ i = scan (l.drop ((numFrom l n m).2 - m)) ⟨q0, q1, q2, q3, k, (numFrom l n m).1, ((numFrom l n m).2 : Nat)⟩ (i + ((numFrom l n m).2 - m)) ∧ m ≤ (numFrom l n m).2 ∧
      ∀ c r, l.drop ((numFrom l n m).2 - m) = c :: r → ¬ (c.toNat : Int) = 46 → (Rd.mk q0 q1 q2 q3 k (numFrom l n m).1 ((numFrom l n m).2 : Nat)).step c.toNat = none
  | [], n, m, i => by simp [numFrom]
  | c :: r, n, m, i => by
    by_cases h : (48 ≤ (c.toNat : Int) ∧ (c.toNat : Int) ≤ 57) ∧ ¬ ((0 < m ∧ n = 0) ∨ 255 < 10 * n + ((c.toNat : Int) - 48))
    · rw [numFrom_go h]
      obtain ⟨e, hm, hs⟩ := scan_num q0 q1 q2 q3 k r (10 * n + ((c.toNat : Int) - 48)) (m + 1) (i + 1)
      have hdr : (c :: r).drop ((numFrom r (10 * n + ((c.toNat : Int) - 48)) (m + 1)).2 - m) = r.drop ((numFrom r (10 * n + ((c.toNat : Int) - 48)) (m + 1)).2 - (m + 1)) := by
        obtain ⟨j, hj⟩ : ∃ j, (numFrom r (10 * n + ((c.toNat : Int) - 48)) (m + 1)).2 = m + 1 + j := ⟨_, (Nat.add_sub_cancel' hm).symm⟩
        rw [hj, show m + 1 + j - m = j + 1 from by omega, show m + 1 + j - (m + 1) = j from by omega, List.drop_succ_cons]
      refine ⟨?_, by omega, ?_⟩
      · have e1 : scan (c :: r) ⟨q0, q1, q2, q3, k, n, m⟩ i = scan r ⟨q0, q1, q2, q3, k, 10 * n + ((c.toNat : Int) - 48), (m + 1 : Nat)⟩ (i + 1) := by
          simp only [scan, step_num_go q0 q1 q2 q3 k n m c h]
        rw [e1, e, hdr, show i + 1 + ((numFrom r (10 * n + ((c.toNat : Int) - 48)) (m + 1)).2 - (m + 1)) = i + ((numFrom r (10 * n + ((c.toNat : Int) - 48)) (m + 1)).2 - m) from by omega]
      · rw [hdr]; exact hs
    · rw [numFrom_stop h]
      refine ⟨by simp, by simp, fun c' r' hc hd => ?_⟩
      simp only [Nat.sub_self, List.drop_zero, List.cons.injEq] at hc
      obtain ⟨rfl, rfl⟩ := hc
      exact step_num_stop q0 q1 q2 q3 k n m c h hd

def out (L : Nat) : Except Nat Rd → Int × Int × Int
  | .error i => (0, (i : Int), 110)
  | .ok s => if s.k = 3 ∧ 0 < s.d then (addrOf s.put, (L : Int), 0) else (0, (L : Int), 110)

def outH (L : Nat) (x : Int × Nat × Bool) : Int × Int × Int :=
  if x.2.2 = true ∧ ¬ x.2.1 < L then (x.1, (x.2.1 : Int), 0) else (0, (x.2.1 : Int), 110)

def val (k : Nat) (q0 q1 q2 : Int) : Int := if k = 0 then 0 else if k = 1 then q0 else if k = 2 then 256 * q0 + q1 else 256 * (256 * q0 + q1) + q2

theorem step_dot_no (s : Rd) (h : s.k = 3 ∨ s.d = 0) : s.step 46 = none := by
  unfold Rd.step
  rw [if_neg (by omega), if_pos rfl, if_pos h]
theorem step_dot_yes (s : Rd) (h : ¬ (s.k = 3 ∨ s.d = 0)) : s.step 46 = some s.put := by
  unfold Rd.step
  rw [if_neg (by omega), if_pos rfl, if_neg h]

theorem put3 (s : Rd) (h : s.k = 3) : s.put = ⟨s.q0, s.q1, s.q2, s.p, 4, 0, 0⟩ := by
  unfold Rd.put
  rw [if_neg (by omega), if_neg (by omega), if_neg (by omega)]

theorem scan_error {c : UInt8} {r : List UInt8} {s : Rd} {i : Nat} (h : s.step c.toNat = none) : scan (c :: r) s i = .error i := by
  simp only [scan, h]

theorem head_scan : ∀ (r : Nat), r ≤ 3 → ∀ (q0 q1 q2 q3 : Int) (l : List UInt8) (i L : Nat), L = i + l.length →
    out L (scan l ⟨q0, q1, q2, q3, ((3 - r : Nat) : Int), 0, 0⟩ i) = outH L (headFrom (r + 1) (val (3 - r) q0 q1 q2) l i)
  | r, hr, q0, q1, q2, q3, l, i, L, hL => by
    obtain ⟨e, _, hs⟩ := scan_num q0 q1 q2 q3 ((3 - r : Nat) : Int) l 0 0 i
    have hb := numFrom_bound l 0 0 (by omega) (by omega)
    rw [Nat.sub_zero] at e hs
    have e' : scan l ⟨q0, q1, q2, q3, ((3 - r : Nat) : Int), 0, 0⟩ i = scan (l.drop (numFrom l 0 0).2) ⟨q0, q1, q2, q3, ((3 - r : Nat) : Int), (numFrom l 0 0).1, ((numFrom l 0 0).2 : Nat)⟩ (i + (numFrom l 0 0).2) := e
    rw [e']
    clear e e'
    by_cases hz : (numFrom l 0 0).2 = 0
    · rw [headFrom_none hz]
      rw [hz] at hs ⊢
      rw [List.drop_zero] at hs ⊢
      simp only [outH, Bool.false_eq_true, false_and, if_false, Nat.add_zero]
      cases l with
      | nil =>
        simp only [scan, out, List.length_nil] at hL ⊢
        rw [if_neg (by omega), hL]
        simp
      | cons c r' =>
        rw [scan_error]
        · simp only [out]
        · by_cases hd : (c.toNat : Int) = 46
          · rw [hd]; exact step_dot_no _ (.inr rfl)
          · exact hs c r' rfl hd
    · rw [headFrom_some hz]
      have hlen : (l.drop (numFrom l 0 0).2).length = l.length - (numFrom l 0 0).2 := List.length_drop
      generalize (numFrom l 0 0).1 = p at *
      generalize (numFrom l 0 0).2 = m at *
      generalize l.drop m = rest at *
      match r, hr with
      | 0, _ =>
        simp only [behind, if_true, outH, true_and]
        cases rest with
        | nil =>
          simp only [List.length_nil] at hlen
          rw [if_pos (by omega)]
          simp only [scan, out]
          rw [if_pos ⟨rfl, by omega⟩]
          rw [put3 _ rfl]
          simp only [addrOf, val, Nat.sub_zero, Nat.reduceEqDiff, if_false]
          refine Prod.ext (by simp only; omega) (Prod.ext (by simp only; omega) rfl)
        | cons c r' =>
          simp only [List.length_cons] at hlen
          rw [if_neg (by omega), scan_error]
          · simp only [out]
          · by_cases hd : (c.toNat : Int) = 46
            · rw [hd]; exact step_dot_no _ (.inl rfl)
            · exact hs c r' rfl hd
      | r + 1, hr =>
        unfold behind
        rw [if_neg (by omega)]
        cases rest with
        | nil =>
          simp only [List.length_nil] at hlen
          simp only [scan, out, outH, Bool.false_eq_true, false_and, if_false]
          rw [if_neg (by omega)]
          refine Prod.ext rfl (Prod.ext (by simp only; omega) rfl)
        | cons c l' =>
          simp only [List.length_cons] at hlen
          simp only
          by_cases hd : (c.toNat : Int) = 46
          · rw [if_pos hd]
            have hst : (Rd.mk q0 q1 q2 q3 ((3 - (r + 1) : Nat) : Int) p (m : Nat)).step (c.toNat : Int) = some (Rd.mk q0 q1 q2 q3 ((3 - (r + 1) : Nat) : Int) p (m : Nat)).put := by
              rw [hd]; exact step_dot_yes _ (by simp only; omega)
            have hsc : scan (c :: l') ⟨q0, q1, q2, q3, ((3 - (r + 1) : Nat) : Int), p, (m : Nat)⟩ (i + m) = scan l' (Rd.mk q0 q1 q2 q3 ((3 - (r + 1) : Nat) : Int) p (m : Nat)).put (i + m + 1) := by
              simp only [scan, hst]
            rw [hsc]
            match r, hr with
            | 0, _ => exact head_scan 0 (by omega) q0 q1 p q3 l' (i + m + 1) L (by omega)
            | 1, _ => exact head_scan 1 (by omega) q0 p q2 q3 l' (i + m + 1) L (by omega)
            | 2, _ =>
              have h := head_scan 2 (by omega) p q1 q2 q3 l' (i + m + 1) L (by omega)
              have hv : val (3 - 2) p q1 q2 = 256 * val (3 - (2 + 1)) q0 q1 q2 + p := by simp [val]
              rw [← hv]
              exact h
          · rw [if_neg hd, scan_error (hs c l' rfl hd)]
            simp only [out, outH, Bool.false_eq_true, false_and, if_false]

theorem parsed_ref (l : List UInt8) : parsed l = ((refParsed l).1, ((refParsed l).2.1 : Int), (refParsed l).2.2) := by
  have h := head_scan 3 (by omega) 0 0 0 0 l 0 l.length (by omega)
  have h1 : parsed l = out l.length (scan l rd0 0) := by
    unfold parsed out
    rfl
  have h2 : outH l.length (headFrom 4 0 l 0) = ((refParsed l).1, ((refParsed l).2.1 : Int), (refParsed l).2.2) := by
    unfold outH refParsed
    split <;> rfl
  rw [h1, ← h2]
  exact h

/-- Parse tells what its reference tells. -/
theorem parseEnd_ref (l : List UInt8) : refEnd l = parseEnd l := by
  unfold refEnd parseEnd
  rw [parsed_ref]
end Go.Proofs.YtabpkdblcinhjaaDoor
