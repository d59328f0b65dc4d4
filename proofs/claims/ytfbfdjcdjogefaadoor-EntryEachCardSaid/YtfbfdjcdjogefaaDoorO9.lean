/- The walk of OctetHolds, over what Put, works and the reader promise. -/
import Derived.Test.YtfbfdjcdjogefaaDoorO8
namespace Go.Proofs.YtfbfdjcdjogefaaDoor
open Go Go.RowKit
attribute [local go_sem] Oper.semAt_some

/-- Numbers that came in. -/
def U32S (w : World) (p : Option Addr) (xs : List Int) : Prop := 0 < xs.length → ∃ b o, p = some ⟨b, o, none⟩ ∧ b < w.heap.size ∧ ∀ i (h : i < xs.length), w.cell? ⟨b, o + i, none⟩ = some (.int .u32 (xs[i]'h))
theorem U32S.below {w w' : World} {p : Option Addr} {xs : List Int} (h : U32S w p xs) (hb : Below w.heap.size w w') : U32S w' p xs := fun hn => by
  obtain ⟨b, o, e, hlt, hc⟩ := h hn
  exact ⟨b, o, e, by have := hb.size; omega, fun i hi => (hb.cell (p := ⟨b, o + i, none⟩) hlt).trans (hc i hi)⟩

/-- Numbers of four bytes, one behind the other. -/
def flat4 (xs : List Int) : List Int := xs.flatMap (be 4)
theorem flat4_snoc (xs : List Int) (x : Int) : flat4 (xs ++ [x]) = flat4 xs ++ be 4 x := by simp [flat4]
theorem flat4_app (xs ys : List Int) : flat4 (xs ++ ys) = flat4 xs ++ flat4 ys := by simp [flat4]
theorem flat4_length (xs : List Int) : (flat4 xs).length = 4 * xs.length := by
  induction xs with
  | nil => rfl
  | cons x xs ih => rw [show x :: xs = [x] ++ xs from rfl, flat4_app, List.length_append, ih]; simp [flat4]; omega
theorem isBytes_flat4 (xs : List Int) : IsBytes (flat4 xs) := fun y h => by
  obtain ⟨x, _, hx⟩ := List.mem_flatMap.1 h
  exact be_mem 4 x y hx

theorem putL4 {n : Int} (h0 : 0 ≤ n) (h1 : n < 4294967296) : putNo n 4 = 0 ∧ putL n 4 = be 4 n := by
  have hz : putNo n 4 = 0 := by
    unfold putNo
    rw [if_neg (by simp [W3]), if_neg]
    have : (256 : Int) ^ (4 : Int).toNat = 4294967296 := by decide
    rw [this, Int.ediv_eq_zero_of_lt h0 h1]
    decide
  exact ⟨hz, by unfold putL; rw [if_pos hz]; rfl⟩

theorem read_flat4 {xs : List Int} (hx : ∀ x ∈ xs, 0 ≤ x ∧ x < 4294967296) {i : Nat} (hi : i < xs.length) : readNo (flat4 xs) ((4 * i : Nat) : Int) 4 = 0 ∧ readN (flat4 xs) ((4 * i : Nat) : Int) 4 = xs[i]'hi := by
  have hs : xs = xs.take i ++ ([xs[i]'hi] ++ xs.drop (i + 1)) := by
    rw [List.singleton_append, ← List.drop_eq_getElem_cons hi, List.take_append_drop]
  have hr := hx _ (List.getElem_mem hi)
  obtain ⟨z1, z2⟩ := putL4 hr.1 hr.2
  have h := put_read hr.1 hr.2 z1 (flat4 (xs.take i)) (flat4 (xs.drop (i + 1)))
  rw [z2] at h
  have hl : (flat4 (xs.take i)).length = 4 * i := by rw [flat4_length]; simp; omega
  have he : flat4 (xs.take i) ++ be 4 (xs[i]'hi) ++ flat4 (xs.drop (i + 1)) = flat4 xs := by
    conv => rhs; rw [hs, flat4_app, flat4_app]
    simp [flat4]
  rw [he, hl] at h
  exact h

theorem puts_order {m n k : Int} (m0 : 0 ≤ m) (m1 : m < 4294967296) (n0 : 0 ≤ n) (n1 : n < 4294967296) (hm : putNo m k = 0) (hn : putNo n k = 0) : Op.bytesLess (strOfNums (putL m k)).toList (strOfNums (putL n k)).toList = decide (m < n) := by
  rw [strNums_lt _ _ (isBytes_putL _ _) (isBytes_putL _ _)]
  have hk : W3 k := Classical.byContradiction fun hw => by unfold putNo at hm; rw [if_pos hw] at hm; cases hm
  obtain ⟨j, rfl, hj⟩ := hk.nat
  have low : ∀ x : Int, 0 ≤ x → x < 4294967296 → putNo x j = 0 → x < 256 ^ j := fun x x0 x1 hx => by
    unfold putNo at hx
    rw [if_neg (by simpa using hk), Int.toNat_natCast] at hx
    by_cases hg : x / 256 ^ j > 0
    · rw [if_pos hg] at hx; cases hx
    · rcases hj with rfl | rfl | rfl
      · simp only [Int.pow_one] at *; omega
      · have : (256 : Int) ^ 2 = 65536 := by decide
        rw [this] at *; omega
      · have : (256 : Int) ^ 4 = 4294967296 := by decide
        rw [this] at *; omega
  unfold putL
  rw [if_pos hm, if_pos hn, Int.toNat_natCast]
  exact ltB_be hj m0 (low m m0 m1 hm) n0 (low n n0 n1 hn)
theorem putNo_nonneg (n k : Int) : 0 ≤ putNo n k ∧ putNo n k ≤ 4 := by
  unfold putNo; split
  · decide
  · split <;> decide

end Go.Proofs.YtfbfdjcdjogefaaDoor
