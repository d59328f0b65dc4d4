/- Layer 3: numbers as bytes, in plain words. -/
import Derived.Test.YtfbfdjcdjogefaaDoorA0
import Derived.Laws.BytesArg
namespace Go.Proofs.YtfbfdjcdjogefaaDoor
open Go Go.RowKit

/-- Is a width one? -/
def W3 (k : Int) : Prop := k = 1 ∨ k = 2 ∨ k = 4
instance (k : Int) : Decidable (W3 k) := inferInstanceAs (Decidable (_ ∨ _ ∨ _))
theorem W3.nat {k : Int} (h : W3 k) : ∃ m : Nat, k = m ∧ (m = 1 ∨ m = 2 ∨ m = 4) := by
  rcases h with rfl | rfl | rfl
  · exact ⟨1, rfl, .inl rfl⟩
  · exact ⟨2, rfl, .inr (.inl rfl)⟩
  · exact ⟨4, rfl, .inr (.inr rfl)⟩

/-- A number's low bytes, so many, the highest one first. -/
def be : Nat → Int → List Int
  | 0, _ => []
  | k + 1, n => (n / 256 ^ k % 256) :: be k n
@[simp] theorem be_length (k : Nat) (n : Int) : (be k n).length = k := by
  induction k with
  | zero => rfl
  | succ k ih => simp [be, ih]
theorem be_mem (k : Nat) (n x : Int) (h : x ∈ be k n) : 0 ≤ x ∧ x < 256 := by
  induction k with
  | zero => cases h
  | succ k ih =>
    rcases List.mem_cons.1 h with rfl | h
    · exact ⟨Int.emod_nonneg _ (by decide), Int.emod_lt_of_pos _ (by decide)⟩
    · exact ih h
/-- The number that bytes tell. -/
def valB (l : List Int) : Int := l.foldl (fun a b => 256 * a + b) 0

def IsBytes (l : List Int) : Prop := ∀ x ∈ l, 0 ≤ x ∧ x < 256

theorem be1 (n : Int) : be 1 n = [n % 256] := by simp [be]
theorem be2 (n : Int) : be 2 n = [n / 256 % 256, n % 256] := by simp [be]
theorem be4 (n : Int) : be 4 n = [n / 16777216 % 256, n / 65536 % 256, n / 256 % 256, n % 256] := by simp [be]

theorem val_be {k : Nat} (hk : k = 1 ∨ k = 2 ∨ k = 4) {n : Int} (h0 : 0 ≤ n) (h : n < 256 ^ k) : valB (be k n) = n := by
  rcases hk with rfl | rfl | rfl
  · rw [be1]; simp only [valB, List.foldl_cons, List.foldl_nil]; omega
  · rw [be2]; simp only [valB, List.foldl_cons, List.foldl_nil]; omega
  · rw [be4]; simp only [valB, List.foldl_cons, List.foldl_nil]; omega

theorem be_val {k : Nat} (hk : k = 1 ∨ k = 2 ∨ k = 4) {l : List Int} (hl : l.length = k) (hb : IsBytes l) : be k (valB l) = l ∧ 0 ≤ valB l ∧ valB l < 256 ^ k := by
  rcases hk with rfl | rfl | rfl
  · match l, hl with
    | [a], _ =>
      have ha := hb a (by simp)
      rw [be1]; simp only [valB, List.foldl_cons, List.foldl_nil, List.cons.injEq, and_true]; omega
  · match l, hl with
    | [a, b], _ =>
      have ha := hb a (by simp)
      have hc := hb b (by simp)
      rw [be2]; simp only [valB, List.foldl_cons, List.foldl_nil, List.cons.injEq, and_true]; omega
  · match l, hl with
    | [a, b, c, d], _ =>
      have ha := hb a (by simp)
      have hc := hb b (by simp)
      have hd := hb c (by simp)
      have he := hb d (by simp)
      rw [be4]; simp only [valB, List.foldl_cons, List.foldl_nil, List.cons.injEq, and_true]; omega

theorem be_inj {k : Nat} (hk : k = 1 ∨ k = 2 ∨ k = 4) {m n : Int} (hm : 0 ≤ m) (hm' : m < 256 ^ k) (hn : 0 ≤ n) (hn' : n < 256 ^ k) (h : be k m = be k n) : m = n := by
  rw [← val_be hk hm hm', h, val_be hk hn hn']

theorem u8_lt {a b : Int} (ha : 0 ≤ a ∧ a < 256) (hb : 0 ≤ b ∧ b < 256) : (UInt8.ofNat a.toNat < UInt8.ofNat b.toNat) ↔ a < b := by
  rw [UInt8.lt_iff_toNat_lt]
  simp only [UInt8.toNat_ofNat']
  omega
theorem u8_eq {a b : Int} (ha : 0 ≤ a ∧ a < 256) (hb : 0 ≤ b ∧ b < 256) : (UInt8.ofNat a.toNat = UInt8.ofNat b.toNat) ↔ a = b := by
  rw [← UInt8.toNat_inj]
  simp only [UInt8.toNat_ofNat']
  omega

/-- Which of two rows of bytes is less. -/
def ltB : List Int → List Int → Bool
  | _, [] => false
  | [], _ :: _ => true
  | a :: x, b :: y => decide (a < b) || (decide (a = b) && ltB x y)

theorem bytesLess_nums : ∀ (x y : List Int), IsBytes x → IsBytes y → Op.bytesLess (x.map fun n => UInt8.ofNat n.toNat) (y.map fun n => UInt8.ofNat n.toNat) = ltB x y
  | _, [], _, _ => by cases ‹List Int› <;> simp [Op.bytesLess, ltB]
  | [], _ :: _, _, _ => by simp [Op.bytesLess, ltB]
  | a :: x, b :: y, hx, hy => by
    have ha := hx a (by simp)
    have hb := hy b (by simp)
    have ih := bytesLess_nums x y (fun z hz => hx z (by simp [hz])) (fun z hz => hy z (by simp [hz]))
    simp only [List.map_cons, Op.bytesLess, ltB, ih]
    congr 1
    · exact decide_eq_decide.2 (u8_lt ha hb)
    · congr 1
      rw [Bool.eq_iff_iff]
      simp only [beq_iff_eq, decide_eq_true_eq]
      exact u8_eq ha hb

theorem ltB_be {k : Nat} (hk : k = 1 ∨ k = 2 ∨ k = 4) {m n : Int} (hm : 0 ≤ m) (hm' : m < 256 ^ k) (hn : 0 ≤ n) (hn' : n < 256 ^ k) : ltB (be k m) (be k n) = decide (m < n) := by
  rw [Bool.eq_iff_iff]
  rcases hk with rfl | rfl | rfl
  · rw [be1, be1]; simp [ltB]; omega
  · rw [be2, be2]; simp [ltB]; omega
  · obtain ⟨p, q, r, s, e1, e2, e3, e4, e5⟩ : ∃ p q r s, m / 16777216 % 256 = p ∧ m / 65536 % 256 = q ∧ m / 256 % 256 = r ∧ m % 256 = s ∧ m = 16777216 * p + 65536 * q + 256 * r + s ∧ 0 ≤ p ∧ p < 256 ∧ 0 ≤ q ∧ q < 256 ∧ 0 ≤ r ∧ r < 256 ∧ 0 ≤ s ∧ s < 256 := ⟨_, _, _, _, rfl, rfl, rfl, rfl, by omega, by omega, by omega, by omega, by omega, by omega, by omega, by omega, by omega⟩
    obtain ⟨p', q', r', s', f1, f2, f3, f4, f5⟩ : ∃ p q r s, n / 16777216 % 256 = p ∧ n / 65536 % 256 = q ∧ n / 256 % 256 = r ∧ n % 256 = s ∧ n = 16777216 * p + 65536 * q + 256 * r + s ∧ 0 ≤ p ∧ p < 256 ∧ 0 ≤ q ∧ q < 256 ∧ 0 ≤ r ∧ r < 256 ∧ 0 ≤ s ∧ s < 256 := ⟨_, _, _, _, rfl, rfl, rfl, rfl, by omega, by omega, by omega, by omega, by omega, by omega, by omega, by omega, by omega⟩
    rw [be4, be4, e1, e2, e3, e4, f1, f2, f3, f4]
    clear e1 e2 e3 e4 f1 f2 f3 f4
    simp [ltB]
    omega

/-- The strings of bytes. -/
theorem strNums_lt (x y : List Int) (hx : IsBytes x) (hy : IsBytes y) : Op.bytesLess (strOfNums x).toList (strOfNums y).toList = ltB x y := by
  rw [ByteArray.toList_eq, ByteArray.toList_eq, strOfNums_data, strOfNums_data, bytesLess_nums x y hx hy]
theorem strNums_inj {x y : List Int} (hx : IsBytes x) (hy : IsBytes y) (h : strOfNums x = strOfNums y) : x = y := by
  have h2 : x.map (fun n => UInt8.ofNat n.toNat) = y.map fun n => UInt8.ofNat n.toNat := by rw [← strOfNums_data, h, strOfNums_data]
  induction x generalizing y with
  | nil => cases y with
    | nil => rfl
    | cons b y => simp at h2
  | cons a x ih => cases y with
    | nil => simp at h2
    | cons b y =>
      simp only [List.map_cons, List.cons.injEq] at h2
      rw [(u8_eq (hx a (by simp)) (hy b (by simp))).1 h2.1, ih (y := y) (fun z hz => hx z (by simp [hz])) (fun z hz => hy z (by simp [hz])) (by unfold strOfNums; rw [h2.2]) h2.2]
theorem strNums_beq (x : List Int) : ((strOfNums x).toList == (strOfNums x).toList) = true := by simp

theorem rep_set (m : Nat) (z x : Value) (l : List Value) : (List.replicate (m + 1) z ++ l).set m x = List.replicate m z ++ x :: l := by
  rw [List.replicate_succ', List.append_assoc, List.set_append_right _ _ (by simp)]
  simp
theorem div_step (n : Int) (j : Nat) : n / 256 ^ j / 256 = n / 256 ^ (j + 1) := by
  rw [Int.pow_succ, Int.ediv_ediv_of_nonneg (Int.pow_nonneg (by decide))]

theorem isBytes_be (k : Nat) (n : Int) : IsBytes (be k n) := fun x h => be_mem k n x h
theorem IsBytes.take {l : List Int} (h : IsBytes l) (k : Nat) : IsBytes (l.take k) := fun x hx => h x (List.mem_of_mem_take hx)
theorem IsBytes.drop {l : List Int} (h : IsBytes l) (k : Nat) : IsBytes (l.drop k) := fun x hx => h x (List.mem_of_mem_drop hx)
theorem IsBytes.app {x y : List Int} (h : IsBytes x) (h' : IsBytes y) : IsBytes (x ++ y) := fun z hz => by
  rcases List.mem_append.1 hz with hz | hz
  · exact h z hz
  · exact h' z hz
end Go.Proofs.YtfbfdjcdjogefaaDoor
