/- Merged by tools/merge.py: O1, O2, O3, O4, O5, O6, O7, O8, O9. -/
import Derived.Test.YtehhablobfaplaaDoorA0
import Derived.Laws.BytesArg
import Derived.Test.YtehhablobfaplaaDoorChecked
import Derived.WalkKit
import Derived.WalkLawsBesides
import Derived.BigQuiet
import Derived.Deep.QuietTactic
import Derived.Deep.DeepFit
import Derived.ProofKit
import Derived.Lib.Hide
import Derived.WalkSmall
import Derived.Handy
import Derived.Lib.SlFresh
import Derived.Lib.LaidTab
import Derived.Lib.QuietBelow
import Derived.RegionTactic
import Derived.Deep.RegionHeld3
namespace Go.Proofs.YtehhablobfaplaaDoor
open Go Go.RowKit

/-- Is a width one? -/
def W3 (k : Int) : Prop := k = 1 ∨ k = 2 ∨ k = 4
instance (k : Int) : Decidable (W3 k) := inferInstanceAs (Decidable (_ ∨ _ ∨ _))
theorem W3.nat {k : Int} (h : W3 k) : ∃ m : Nat, k = m ∧ (m = 1 ∨ m = 2 ∨ m = 4) := by
  rcases h with rfl | rfl | rfl
  · exact ⟨1, rfl, .inl rfl⟩
  · exact ⟨2, rfl, .inr (.inl rfl)⟩
  · exact ⟨4, rfl, .inr (.inr rfl)⟩

/-- A number's low bytes, so many, the highest one first. -/
def be : Nat → Int → List Int
  | 0, _ => []
  | k + 1, n => (n / 256 ^ k % 256) :: be k n
@[simp] theorem be_length (k : Nat) (n : Int) : (be k n).length = k := by
  induction k with
  | zero => rfl
  | succ k ih => simp [be, ih]
theorem be_mem (k : Nat) (n x : Int) (h : x ∈ be k n) : 0 ≤ x ∧ x < 256 := by
  induction k with
  | zero => cases h
  | succ k ih =>
    rcases List.mem_cons.1 h with rfl | h
    · exact ⟨Int.emod_nonneg _ (by decide), Int.emod_lt_of_pos _ (by decide)⟩
    · exact ih h
/-- The number that bytes tell. -/
def valB (l : List Int) : Int := l.foldl (fun a b => 256 * a + b) 0

def IsBytes (l : List Int) : Prop := ∀ x ∈ l, 0 ≤ x ∧ x < 256

theorem be1 (n : Int) : be 1 n = [n % 256] := by simp [be]
theorem be2 (n : Int) : be 2 n = [n / 256 % 256, n % 256] := by simp [be]
theorem be4 (n : Int) : be 4 n = [n / 16777216 % 256, n / 65536 % 256, n / 256 % 256, n % 256] := by simp [be]

theorem val_be {k : Nat} (hk : k = 1 ∨ k = 2 ∨ k = 4) {n : Int} (h0 : 0 ≤ n) (h : n < 256 ^ k) : valB (be k n) = n := by
  rcases hk with rfl | rfl | rfl
  · rw [be1]; simp only [valB, List.foldl_cons, List.foldl_nil]; omega
  · rw [be2]; simp only [valB, List.foldl_cons, List.foldl_nil]; omega
  · rw [be4]; simp only [valB, List.foldl_cons, List.foldl_nil]; omega

theorem be_val {k : Nat} (hk : k = 1 ∨ k = 2 ∨ k = 4) {l : List Int} (hl : l.length = k) (hb : IsBytes l) : be k (valB l) = l ∧ 0 ≤ valB l ∧ valB l < 256 ^ k := by
  rcases hk with rfl | rfl | rfl
  · match l, hl with
    | [a], _ =>
      have ha := hb a (by simp)
      rw [be1]; simp only [valB, List.foldl_cons, List.foldl_nil, List.cons.injEq, and_true]; omega
  · match l, hl with
    | [a, b], _ =>
      have ha := hb a (by simp)
      have hc := hb b (by simp)
      rw [be2]; simp only [valB, List.foldl_cons, List.foldl_nil, List.cons.injEq, and_true]; omega
  · match l, hl with
    | [a, b, c, d], _ =>
      have ha := hb a (by simp)
      have hc := hb b (by simp)
      have hd := hb c (by simp)
      have he := hb d (by simp)
      rw [be4]; simp only [valB, List.foldl_cons, List.foldl_nil, List.cons.injEq, and_true]; omega

theorem be_inj {k : Nat} (hk : k = 1 ∨ k = 2 ∨ k = 4) {m n : Int} (hm : 0 ≤ m) (hm' : m < 256 ^ k) (hn : 0 ≤ n) (hn' : n < 256 ^ k) (h : be k m = be k n) : m = n := by
  rw [← val_be hk hm hm', h, val_be hk hn hn']

theorem u8_lt {a b : Int} (ha : 0 ≤ a ∧ a < 256) (hb : 0 ≤ b ∧ b < 256) : (UInt8.ofNat a.toNat < UInt8.ofNat b.toNat) ↔ a < b := by
  rw [UInt8.lt_iff_toNat_lt]
  simp only [UInt8.toNat_ofNat']
  omega
theorem u8_eq {a b : Int} (ha : 0 ≤ a ∧ a < 256) (hb : 0 ≤ b ∧ b < 256) : (UInt8.ofNat a.toNat = UInt8.ofNat b.toNat) ↔ a = b := by
  rw [← UInt8.toNat_inj]
  simp only [UInt8.toNat_ofNat']
  omega

/-- Which of two rows of bytes is less. -/
def ltB : List Int → List Int → Bool
  | _, [] => false
  | [], _ :: _ => true
  | a :: x, b :: y => decide (a < b) || (decide (a = b) && ltB x y)

theorem bytesLess_nums : ∀ (x y : List Int), IsBytes x → IsBytes y → Op.bytesLess (x.map fun n => UInt8.ofNat n.toNat) (y.map fun n => UInt8.ofNat n.toNat) = ltB x y
  | _, [], _, _ => by cases ‹List Int› <;> simp [Op.bytesLess, ltB]
  | [], _ :: _, _, _ => by simp [Op.bytesLess, ltB]
  | a :: x, b :: y, hx, hy => by
    have ha := hx a (by simp)
    have hb := hy b (by simp)
    have ih := bytesLess_nums x y (fun z hz => hx z (by simp [hz])) (fun z hz => hy z (by simp [hz]))
    simp only [List.map_cons, Op.bytesLess, ltB, ih]
    congr 1
    · exact decide_eq_decide.2 (u8_lt ha hb)
    · congr 1
      rw [Bool.eq_iff_iff]
      simp only [beq_iff_eq, decide_eq_true_eq]
      exact u8_eq ha hb

theorem ltB_be {k : Nat} (hk : k = 1 ∨ k = 2 ∨ k = 4) {m n : Int} (hm : 0 ≤ m) (hm' : m < 256 ^ k) (hn : 0 ≤ n) (hn' : n < 256 ^ k) : ltB (be k m) (be k n) = decide (m < n) := by
  rw [Bool.eq_iff_iff]
  rcases hk with rfl | rfl | rfl
  · rw [be1, be1]; simp [ltB]; omega
  · rw [be2, be2]; simp [ltB]; omega
  · obtain ⟨p, q, r, s, e1, e2, e3, e4, e5⟩ : ∃ p q r s, m / 16777216 % 256 = p ∧ m / 65536 % 256 = q ∧ m / 256 % 256 = r ∧ m % 256 = s ∧ m = 16777216 * p + 65536 * q + 256 * r + s ∧ 0 ≤ p ∧ p < 256 ∧ 0 ≤ q ∧ q < 256 ∧ 0 ≤ r ∧ r < 256 ∧ 0 ≤ s ∧ s < 256 := ⟨_, _, _, _, rfl, rfl, rfl, rfl, by omega, by omega, by omega, by omega, by omega, by omega, by omega, by omega, by omega⟩
    obtain ⟨p', q', r', s', f1, f2, f3, f4, f5⟩ : ∃ p q r s, n / 16777216 % 256 = p ∧ n / 65536 % 256 = q ∧ n / 256 % 256 = r ∧ n % 256 = s ∧ n = 16777216 * p + 65536 * q + 256 * r + s ∧ 0 ≤ p ∧ p < 256 ∧ 0 ≤ q ∧ q < 256 ∧ 0 ≤ r ∧ r < 256 ∧ 0 ≤ s ∧ s < 256 := ⟨_, _, _, _, rfl, rfl, rfl, rfl, by omega, by omega, by omega, by omega, by omega, by omega, by omega, by omega, by omega⟩
    rw [be4, be4, e1, e2, e3, e4, f1, f2, f3, f4]
    clear e1 e2 e3 e4 f1 f2 f3 f4
    simp [ltB]
    omega

/-- The strings of bytes. -/
theorem strNums_lt (x y : List Int) (hx : IsBytes x) (hy : IsBytes y) : Op.bytesLess (strOfNums x).toList (strOfNums y).toList = ltB x y := by
  rw [ByteArray.toList_eq, ByteArray.toList_eq, strOfNums_data, strOfNums_data, bytesLess_nums x y hx hy]
theorem strNums_inj {x y : List Int} (hx : IsBytes x) (hy : IsBytes y) (h : strOfNums x = strOfNums y) : x = y := by
  have h2 : x.map (fun n => UInt8.ofNat n.toNat) = y.map fun n => UInt8.ofNat n.toNat := by rw [← strOfNums_data, h, strOfNums_data]
  induction x generalizing y with
  | nil => cases y with
    | nil => rfl
    | cons b y => simp at h2
  | cons a x ih => cases y with
    | nil => simp at h2
    | cons b y =>
      simp only [List.map_cons, List.cons.injEq] at h2
      rw [(u8_eq (hx a (by simp)) (hy b (by simp))).1 h2.1, ih (y := y) (fun z hz => hx z (by simp [hz])) (fun z hz => hy z (by simp [hz])) (by unfold strOfNums; rw [h2.2]) h2.2]
theorem strNums_beq (x : List Int) : ((strOfNums x).toList == (strOfNums x).toList) = true := by simp

theorem rep_set (m : Nat) (z x : Value) (l : List Value) : (List.replicate (m + 1) z ++ l).set m x = List.replicate m z ++ x :: l := by
  rw [List.replicate_succ', List.append_assoc, List.set_append_right _ _ (by simp)]
  simp
theorem div_step (n : Int) (j : Nat) : n / 256 ^ j / 256 = n / 256 ^ (j + 1) := by
  rw [Int.pow_succ, Int.ediv_ediv_of_nonneg (Int.pow_nonneg (by decide))]

theorem isBytes_be (k : Nat) (n : Int) : IsBytes (be k n) := fun x h => be_mem k n x h
theorem IsBytes.take {l : List Int} (h : IsBytes l) (k : Nat) : IsBytes (l.take k) := fun x hx => h x (List.mem_of_mem_take hx)
theorem IsBytes.drop {l : List Int} (h : IsBytes l) (k : Nat) : IsBytes (l.drop k) := fun x hx => h x (List.mem_of_mem_drop hx)
theorem IsBytes.app {x y : List Int} (h : IsBytes x) (h' : IsBytes y) : IsBytes (x ++ y) := fun z hz => by
  rcases List.mem_append.1 hz with hz | hz
  · exact h z hz
  · exact h' z hz
end Go.Proofs.YtehhablobfaplaaDoor

namespace Go.Proofs.YtehhablobfaplaaDoor
open Go Go.RowKit
attribute [local go_sem] Oper.semAt_some

theorem right3_any (k : Int) (w : World) :
    Calls Tryd.prog 74 #[.int .i64 k] w fun e w' => e = .returned (.bool (decide (W3 k))) ∧ w' = w := by
  by_cases h1 : k = 1
  · subst h1
    go_enter Tryd.func74, Tryd.ntmps74
    go_wp2_with fail
    go_ret
    exact ⟨rfl, rfl⟩
  · by_cases h2 : k = 2
    · subst h2
      go_enter Tryd.func74, Tryd.ntmps74
      go_wp2_with fail
      go_ret
      exact ⟨rfl, rfl⟩
    · have hd : decide (W3 k) = decide (k = 4) := decide_eq_decide.2 ⟨fun h => by rcases h with h | h | h <;> first | contradiction | exact h, fun h => .inr (.inr h)⟩
      rw [hd]
      go_enter Tryd.func74, Tryd.ntmps74
      go_wp2_with fail
      go_ret
      exact ⟨by
        show Ending.returned (Value.bool (k == 1 || k == 2 || k == 4)) = _
        congr 2
        rw [Bool.eq_iff_iff]
        simp [h1, h2], rfl⟩

theorem infoU8 : (Tryd.prog.info? 5).map (fun i => (i.zero, i.size, i.bytes)) = some (some (.int .u8 0), 1, 1) := by kernel_rfl

set_option maxRecDepth 100000 in
/-- make([]byte, n). -/
theorem make_bytes (m : Nat) (hm : m ≤ 100000) (W : World) :
    (Instr.makeSlice 27 (.int .i64 (m : Int)) (.int .i64 (m : Int))).run Tryd.prog W = .ok (.slice (some ⟨W.heap.size, 0, none⟩) m m) (W.alloc (.cells (List.replicate m (Value.int .u8 0)).toArray 5)) := by
  obtain ⟨i0, hi, hz0, hz1, hz2⟩ := info_parts infoU8
  have h := run_make (P := Tryd.prog) W 27 5 i0 (.int .u8 0) Tryd.underlying27 hi hz0 .i64 .i64 (m : Int) (m : Int) (by omega) (by omega) (by rw [hz2]; omega) (by omega)
  rw [h, hz1]
  congr 3
  apply Array.ext
  · simp [madeCells]
  · intro i h1 h2
    simp [madeCells, Value.cells, Nat.mod_one]

theorem refPut_arg (n k : Int) (h : ¬ W3 k) (w : World) :
    Calls Tryd.prog 72 #[.int .u32 n, .int .i64 k] w fun e w' => e = .returned (.tuple #[.slice none 0 0, .int .i64 2]) ∧ w' = w := by
  have hr : ∀ W, Calls Tryd.prog 74 #[.int .i64 k] W fun e w' => e = .returned (.bool false) ∧ w' = W := fun W => by
    have := right3_any k W
    rwa [decide_eq_false h] at this
  have HR := Lib.hid hr
  clear hr h
  go_enter Tryd.func72, Tryd.ntmps72
  go_wp2_with fail
  refine (HR.out _).mono ?_
  rintro e w' ⟨rfl, rfl⟩
  go_wp2_with fail
  exact bodyPost_ret (v := .tuple #[.slice none 0 0, .int .i64 2]) (by simp [results, Tryd.results72, go_sem]) rfl ⟨rfl, rfl⟩

set_option maxRecDepth 100000 in
set_option maxHeartbeats 1600000 in
theorem refPut_any (n : Int) (h0 : 0 ≤ n) (h1 : n < 4294967296) (k : Nat) (hk : k = 1 ∨ k = 2 ∨ k = 4) (w : World) :
    Calls Tryd.prog 72 #[.int .u32 n, .int .i64 k] w fun e w' => (if n / 256 ^ k > 0 then e = .returned (.tuple #[.slice none 0 0, .int .i64 4]) else e = .returned (.tuple #[.slice (some ⟨w.heap.size, 0, none⟩) k k, .int .i64 0]) ∧ Blk w' w.heap.size 5 ((be k n).map (Value.int .u8)).toArray) ∧ Below w.heap.size w w' := by
  have hr : ∀ W, Calls Tryd.prog 74 #[.int .i64 k] W fun e w' => e = .returned (.bool true) ∧ w' = W := fun W => by
    have := right3_any k W
    rwa [decide_eq_true (show W3 (k : Int) by rcases hk with rfl | rfl | rfl <;> simp [W3])] at this
  have hmk := fun W => make_bytes k (by omega) W
  have HR := Lib.hid hr
  have HK := Lib.hid hk
  have H0 := Lib.hid h0
  have H1 := Lib.hid h1
  have hk4 : 1 ≤ k ∧ k ≤ 4 := by omega
  clear hr h0 h1 hk
  go_enter Tryd.func72, Tryd.ntmps72
  go_wp2_with fail
  refine (HR.out _).mono ?_
  rintro e w' ⟨rfl, rfl⟩
  go_wp2_with fail
  have bN := Blk.new w' 5 (List.replicate k (Value.int .u8 0)).toArray
  have HB0 : Below w'.heap.size w' (w'.alloc (.cells (List.replicate k (Value.int .u8 0)).toArray 5)) := (Below.refl w'.heap.size w').alloc (Nat.le_refl _) _
  rw [← List.toArray_replicate]
  generalize hv : w'.alloc (.cells (List.replicate k (Value.int .u8 0)).toArray 5) = v1 at *
  clear hv HR hmk
  have HB0 := Lib.hid HB0
  have HN0 := Lib.hid bN
  clear bN
  go_loopw [0, 7] (fun a i wr => ∃ j : Nat, j ≤ k ∧ a = .int .u32 (n / 256 ^ j) ∧ i = .int .i64 ((k : Int) - 1 - j) ∧ Hid (Blk wr w'.heap.size 5 (List.replicate (k - j) (Value.int .u8 0) ++ (be j n).map (Value.int .u8)).toArray) ∧ Hid (Below w'.heap.size w' wr)) (fun _ i _ => ((intOf i) + 1).toNat)
  case atStart => exact ⟨0, by omega, by simp, by simp, by have := HN0.out; simp only [be, List.map_nil, List.append_nil, Nat.sub_zero]; exact this, HB0⟩
  case round =>
    obtain ⟨j, hj, rfl, rfl, HBK, HBL⟩ := hrel
    clear HN0 HB0
    have hnn : 0 ≤ n / 256 ^ j := Int.ediv_nonneg H0.out (Int.pow_nonneg (by decide))
    have hnb : n / 256 ^ j < 4294967296 := Int.lt_of_le_of_lt (Int.ediv_le_self _ H0.out) H1.out
    have hst := div_step n j
    generalize hm : n / 256 ^ j = m at *
    by_cases hlt : j < k
    · have c0 : wr.cell? ⟨w'.heap.size, k - 1 - j, none⟩ = some (Value.int .u8 0) := by
        rw [HBK.out.cell, List.getElem?_toArray, List.getElem?_append_left (by simp; omega), List.getElem?_replicate]
        rw [if_pos (by omega)]
      have f0 := HBK.out.frozen (k - 1 - j)
      have e0 : ((k : Int) - 1 - j).toNat = k - 1 - j := by omega
      have p0 : (0 : Int) ≤ (k : Int) - 1 - j := by omega
      have p1 : (k : Int) - 1 - j < k := by omega
      go_wp2_with fail
      refine ⟨⟨j + 1, by omega, by rw [hst], by congr 1; omega, ?_, ?_⟩, ?_⟩
      · show Blk _ _ _ _
        have := HBK.out.set_ (k - 1 - j) (.int .u8 (m % 256))
        rw [show k - j = (k - 1 - j) + 1 by omega, List.setIfInBounds_toArray, rep_set] at this
        rw [show k - (j + 1) = k - 1 - j by omega, be, hm]
        exact this
      · show Below _ _ _
        exact HBL.out.setCell (Nat.le_refl _) _
      · simp only [intOf]; omega
    · have hjk : j = k := by omega
      subst hjk
      have p0 : ¬ (j : Int) ≤ (j : Int) - 1 := by omega
      by_cases hz : m > 0
      · go_wp2_with fail
        exact bodyPost_ret (v := .tuple #[.slice none 0 0, .int .i64 4]) (by simp [results, Tryd.results72, go_sem]) rfl ⟨rfl, HBL.out⟩
      · go_wp2_with fail
        exact bodyPost_ret (v := .tuple #[.slice (some ⟨w'.heap.size, 0, none⟩) j j, .int .i64 0]) (by simp [results, Tryd.results72, go_sem]) rfl ⟨⟨rfl, by have := HBK.out; simpa using this⟩, HBL.out⟩
end Go.Proofs.YtehhablobfaplaaDoor

namespace Go.Proofs.YtehhablobfaplaaDoor
open Go Go.RowKit
attribute [local go_sem] Oper.semAt_some

/-- Bytes that lie somewhere: told by numbers; none of none. -/
def ByS (w : World) (p : Option Addr) (xs : List Int) : Prop := 0 < xs.length → ∃ b o, p = some ⟨b, o, none⟩ ∧ b < w.heap.size ∧ ∀ i (h : i < xs.length), w.cell? ⟨b, o + i, none⟩ = some (.int .u8 (xs[i]'h))
theorem ByS.below {w w' : World} {p : Option Addr} {xs : List Int} (h : ByS w p xs) (hb : Below w.heap.size w w') : ByS w' p xs := fun hn => by
  obtain ⟨b, o, e, hlt, hc⟩ := h hn
  exact ⟨b, o, e, by have := hb.size; omega, fun i hi => (hb.cell (p := ⟨b, o + i, none⟩) hlt).trans (hc i hi)⟩
theorem ByS.nil (w : World) (p : Option Addr) : ByS w p [] := fun h => absurd h (by simp)
theorem ByS.ofBlk {w : World} {g : Nat} {t : TypeId} {xs : List Int} {r : List Value} (h : Blk w g t (xs.map (Value.int .u8) ++ r).toArray) : ByS w (some ⟨g, 0, none⟩) xs := fun _ => ⟨g, 0, rfl, h.lt, fun i hi => by
  rw [h.cell, List.getElem?_toArray, List.getElem?_append_left (by simpa using (by omega))]
  simp [List.getElem?_eq_getElem hi]⟩

/-- What Read tells: an error, or the number. -/
def readNo (xs : List Int) (at_ k : Int) : Int := if ¬ W3 k then 2 else if at_ < 0 then 4 else if at_ > xs.length ∨ (xs.length : Int) - at_ < k then 130 else 0
def readN (xs : List Int) (at_ k : Int) : Int := if readNo xs at_ k = 0 then valB ((xs.drop at_.toNat).take k.toNat) else 0

theorem valB_snoc (l : List Int) (x : Int) : valB (l ++ [x]) = 256 * valB l + x := by simp [valB]
theorem valB_lt {l : List Int} (hb : IsBytes l) (hl : l.length ≤ 4) : 0 ≤ valB l ∧ valB l < 256 ^ l.length := by
  match l, hl with
  | [], _ => simp [valB]
  | [a], _ => have := hb a (by simp); simp [valB]; omega
  | [a, b], _ => have := hb a (by simp); have := hb b (by simp); simp [valB]; omega
  | [a, b, c], _ => have := hb a (by simp); have := hb b (by simp); have := hb c (by simp); simp [valB]; omega
  | [a, b, c, d], _ => have := hb a (by simp); have := hb b (by simp); have := hb c (by simp); have := hb d (by simp); simp [valB]; omega

set_option maxRecDepth 100000 in
set_option maxHeartbeats 1600000 in
theorem refRead_any (p : Option Addr) (cap : Nat) (xs : List Int) (hb : IsBytes xs) (hn : xs.length ≤ 1000000) (at_ k : Int) (w : World) (hx : ByS w p xs) :
    Calls Tryd.prog 65 #[.slice p xs.length cap, .int .i64 at_, .int .i64 k] w fun e w' => e = .returned (.tuple #[.int .u32 (readN xs at_ k), .int .i64 (readNo xs at_ k)]) ∧ Below w.heap.size w w' := by
  by_cases hk : W3 k
  · have hr : ∀ W, Calls Tryd.prog 74 #[.int .i64 k] W fun e w' => e = .returned (.bool true) ∧ w' = W := fun W => by
      have := right3_any k W
      rwa [decide_eq_true hk] at this
    have HR := Lib.hid hr
    clear hr
    by_cases ha : at_ < 0
    · have e0 : readNo xs at_ k = 4 := by unfold readNo; rw [if_neg (by simpa using hk), if_pos ha]
      have e1 : readN xs at_ k = 0 := by unfold readN; rw [e0]; rfl
      rw [e0, e1]
      clear e0 e1 hk hb
      go_enter Tryd.func65, Tryd.ntmps65
      go_wp2_with fail
      refine (HR.out _).mono ?_
      rintro e w' ⟨rfl, rfl⟩
      go_wp2_with fail
      exact bodyPost_ret (v := .tuple #[.int .u32 0, .int .i64 4]) (by simp [results, Tryd.results65, go_sem]) rfl ⟨rfl, Below.refl _ _⟩
    · by_cases ha2 : at_ > xs.length ∨ (xs.length : Int) - at_ < k
      · have e0 : readNo xs at_ k = 130 := by unfold readNo; rw [if_neg (by simpa using hk), if_neg ha, if_pos ha2]
        have e1 : readN xs at_ k = 0 := by unfold readN; rw [e0]; rfl
        rw [e0, e1]
        have hk4 : 1 ≤ k ∧ k ≤ 4 := by obtain ⟨m, rfl, hm⟩ := hk.nat; omega
        clear e0 e1 hk hb
        by_cases hg : at_ > xs.length
        · go_enter Tryd.func65, Tryd.ntmps65
          go_wp2_with fail
          refine (HR.out _).mono ?_
          rintro e w' ⟨rfl, rfl⟩
          go_wp2_with fail
          exact bodyPost_ret (v := .tuple #[.int .u32 0, .int .i64 130]) (by simp [results, Tryd.results65, go_sem]) rfl ⟨rfl, Below.refl _ _⟩
        · have hs : (xs.length : Int) - at_ < k := by omega
          go_enter Tryd.func65, Tryd.ntmps65
          go_wp2_with fail
          refine (HR.out _).mono ?_
          rintro e w' ⟨rfl, rfl⟩
          go_wp2_with fail
          exact bodyPost_ret (v := .tuple #[.int .u32 0, .int .i64 130]) (by simp [results, Tryd.results65, go_sem]) rfl ⟨rfl, Below.refl _ _⟩
      · have e0 : readNo xs at_ k = 0 := by unfold readNo; rw [if_neg (by simpa using hk), if_neg ha, if_neg ha2]
        obtain ⟨m, rfl, hm⟩ := hk.nat
        obtain ⟨q, rfl⟩ : ∃ q : Nat, at_ = q := ⟨at_.toNat, by omega⟩
        have e1 : readN xs q m = valB ((xs.drop q).take m) := by unfold readN; rw [if_pos e0]; simp
        rw [e0, e1]
        have hqm : q + m ≤ xs.length := by omega
        have g1 : ¬ (q : Int) > xs.length := by omega
        have g2 : ¬ (xs.length : Int) - q < m := by omega
        have hm4 : 1 ≤ m ∧ m ≤ 4 := by omega
        obtain ⟨b, o, rfl, hlt, hc⟩ := hx (by omega)
        have HC := Lib.hid hc
        have HM := Lib.hid hm
        have HBY := Lib.hid hb
        clear e0 e1 hk ha ha2 hx hc hm hb
        go_enter Tryd.func65, Tryd.ntmps65
        go_wp2_with fail
        refine (HR.out _).mono ?_
        rintro e w' ⟨rfl, rfl⟩
        clear HR
        go_wp2_with fail
        go_loopw [8, 9] (fun a i wr => ∃ j : Nat, j ≤ m ∧ a = .int .u32 (valB ((xs.drop q).take j)) ∧ i = .int .i64 j ∧ wr = w') (fun _ i _ => m - (intOf i).toNat)
        case atStart => exact ⟨0, by omega, by simp [valB], rfl, rfl⟩
        case round =>
          obtain ⟨j, hj, rfl, rfl, rfl⟩ := hrel
          have hv := valB_lt (l := (xs.drop q).take j) ((HBY.out.drop q).take j) (by simp; omega)
          have hl : ((xs.drop q).take j).length = j := by simp; omega
          rw [hl] at hv
          by_cases hjl : j < m
          · have hxl : q + j < xs.length := by omega
            have hsn : (xs.drop q).take (j + 1) = (xs.drop q).take j ++ [xs[q + j]'hxl] := by
              rw [List.take_add_one, List.getElem?_drop, List.getElem?_eq_getElem hxl]; rfl
            have hsv : valB ((xs.drop q).take (j + 1)) = 256 * valB ((xs.drop q).take j) + xs[q + j]'hxl := by rw [hsn, valB_snoc]
            have hxr := HBY.out _ (List.getElem_mem hxl)
            have hc1 := HC.out (q + j) hxl
            generalize valB ((xs.drop q).take j) = v at *
            generalize xs[q + j]'hxl = x at *
            have hvb : v < 16777216 := by
              have : j = 0 ∨ j = 1 ∨ j = 2 ∨ j = 3 := by omega
              rcases this with rfl | rfl | rfl | rfl <;> omega
            have w1 : (q : Int) + (j : Int) < xs.length := by omega
            have w2 : ((q : Int) + (j : Int)).toNat = q + j := by omega
            have hv0 : 0 ≤ v := hv.1
            clear hv hl hsn
            go_wp2_with fail
            refine ⟨⟨j + 1, by omega, ?_, by simp, trivial⟩, by simp only [intOf]; omega⟩
            rw [hsv]
          · have hjm : j = m := by omega
            subst hjm
            go_wp2_with fail
            exact bodyPost_ret (v := .tuple #[.int .u32 (valB ((xs.drop q).take j)), .int .i64 0]) (by simp [results, Tryd.results65, go_sem]) rfl ⟨rfl, Below.refl _ _⟩
  · have e0 : readNo xs at_ k = 2 := by unfold readNo; rw [if_pos hk]
    have e1 : readN xs at_ k = 0 := by unfold readN; rw [e0]; rfl
    rw [e0, e1]
    have hr : ∀ W, Calls Tryd.prog 74 #[.int .i64 k] W fun e w' => e = .returned (.bool false) ∧ w' = W := fun W => by
      have := right3_any k W
      rwa [decide_eq_false hk] at this
    have HR := Lib.hid hr
    clear hr hk hb e0 e1
    go_enter Tryd.func65, Tryd.ntmps65
    go_wp2_with fail
    refine (HR.out _).mono ?_
    rintro e w' ⟨rfl, rfl⟩
    go_wp2_with fail
    exact bodyPost_ret (v := .tuple #[.int .u32 0, .int .i64 2]) (by simp [results, Tryd.results65, go_sem]) rfl ⟨rfl, Below.refl _ _⟩
end Go.Proofs.YtehhablobfaplaaDoor

namespace Go.Proofs.YtehhablobfaplaaDoor
open Go Go.RowKit
attribute [local go_sem] Oper.semAt_some

/-- A reader of the reference: its bytes' slice, its place. -/
abbrev rdr (p : Option Addr) (n cap : Nat) (at_ : Int) : Value := .agg #[.slice p n cap, .int .i64 at_]

/-- What Skip tells. -/
def skipNo (left many : Int) : Int := if many < 0 then 4 else if many > left then 130 else 0

end Go.Proofs.YtehhablobfaplaaDoor

namespace Go.Proofs.YtehhablobfaplaaDoor
open Go Go.RowKit
attribute [local go_sem] Oper.semAt_some

/-- A slice of the call's own that holds these bytes. -/
abbrev OwnB (base : Nat) (w : World) (v : Value) (l : List Int) : Prop := w.ownsRow base 5 1 v l.length (l.map (Value.int .u8))

theorem OwnB.byS {base : Nat} {w : World} {v : Value} {l : List Int} (h : OwnB base w v l) : ∃ p c, v = .slice p l.length c ∧ l.length ≤ c ∧ ByS w p l ∧ (∀ a, p = some a → base ≤ a.block) := by
  rcases h.2 with ⟨rfl, hn⟩ | ⟨g, cap, cur, rfl, hb, hg, hc, hm, hs, ht⟩
  · exact ⟨none, 0, by rw [hn], by omega, fun h => by omega, fun a h => by cases h⟩
  · refine ⟨some ⟨g, 0, none⟩, cap, rfl, hc, fun _ => ⟨g, 0, rfl, ?_, fun i hi => ?_⟩, fun a h => by cases h; exact hb⟩
    · rcases Nat.lt_or_ge g w.heap.size with h | h
      · exact h
      · rw [Array.getElem?_eq_none h] at hg; cases hg
    · rw [cell_of_row w g (0 + i) cur _ (0, 0) hg, Nat.zero_add]
      have h2 : (cur.toList.take (l.length * 1))[i]? = (l.map (Value.int .u8))[i]? := by rw [ht]
      rw [List.getElem?_take_of_lt (by omega), Array.getElem?_toList] at h2
      rw [h2]
      simp [List.getElem?_eq_getElem hi]

/-- string(b). -/
theorem conv_bytes {w : World} {p : Option Addr} {l : List Int} (h : ByS w p l) (c : Nat) : (convert 27 9 (.slice p l.length c)).run Tryd.prog w = .ok (.string (strOfNums l)) w := by
  by_cases hl : 0 < l.length
  · obtain ⟨b, o, rfl, _, hc⟩ := h hl
    refine run_convert_bytes_arg (P := Tryd.prog) w 27 5 Tryd.underlying27 Tryd.underlying5 b o l.length c l rfl (fun i hi => ?_) 9 Tryd.underlying9
    rw [hc i hi]
    simp [List.getD, List.getElem?_eq_getElem hi]
  · have h0 : l = [] := List.eq_nil_of_length_eq_zero (by omega)
    subst h0
    rcases p with _ | a
    · exact run_convert_bytes_nil (P := Tryd.prog) w 27 5 Tryd.underlying27 Tryd.underlying5 _ c 9 Tryd.underlying9
    · rw [run_convert_bytes_string w 27 9 5 (some a) _ c Tryd.underlying27 Tryd.underlying5 Tryd.underlying9]
      simp [Conv.bytesToString, loadCells, loadCellsFrom, strOfNums]
      rfl

theorem app_bytes (base : Nat) (ty : TypeId) {w : World} {v : Value} {xs : List Int} (hown : OwnB base w v xs) {p : Option Addr} {ys : List Int} (hy : ByS w p ys) (c : Nat) (hn : xs.length + ys.length ≤ 1000000) (hbase : base ≤ w.heap.size) :
    ∃ v' w', (Builtin.append_ #[27, 27] ty #[v, .slice p ys.length c]).run Tryd.prog w = .ok v' w' ∧ OwnB base w' v' (xs ++ ys) ∧ w.grownBy w' v.ownBlock ∧ (v' = .slice none 0 0 ↔ v = .slice none 0 0 ∧ ys.length = 0) := by
  obtain ⟨i0, hi, hz0, hz1, hz2⟩ := info_parts infoU8
  by_cases hl : 0 < ys.length
  · obtain ⟨b, o, rfl, _, hc⟩ := hy hl
    have := run_append_own (P := Tryd.prog) w base 27 ty 5 i0 (.int .u8 0) 1 1 Tryd.underlying27 hi hz0 hz1 hz2 rfl (by decide) v xs.length (xs.map (Value.int .u8)) hown ⟨b, o, none⟩ ys.length c (ys.map (Value.int .u8)) (by simp)
      (fun j u hj => by
        have hj' : j < ys.length := by simpa using (List.getElem?_eq_some_iff.1 hj).1
        rw [Addr.add_lit, hc j hj', ← hj]
        simp [List.getElem?_eq_getElem hj'])
      (fun u hu => by obtain ⟨x, _, rfl⟩ := List.mem_map.1 hu; rfl) (by unfold maxLen; omega) (by omega) hbase
    unfold OwnB
    rw [List.length_append, List.map_append]
    exact this
  · have h0 : ys = [] := List.eq_nil_of_length_eq_zero (by omega)
    subst h0
    refine ⟨v, w, ?_, by rw [List.append_nil]; exact hown, grown_refl _ _, by simp⟩
    have hi1 := hi
    rcases hown.2 with ⟨rfl, _⟩ | ⟨g, cap, cur, rfl, hb, hg, hcc, hm, hs, ht⟩
    · rcases p with _ | a <;> simp [Builtin.append_, run_underlying Tryd.underlying27, sizeOf, typeInfo, hi, Builtin.lenOf, Builtin.firstCells, loadCells, loadCellsFrom]
    · rcases p with _ | a <;> simp [Builtin.append_, run_underlying Tryd.underlying27, sizeOf, typeInfo, hi, Builtin.lenOf, Builtin.firstCells, loadCells, loadCellsFrom, hcc, storeCells]
end Go.Proofs.YtehhablobfaplaaDoor

namespace Go.Proofs.YtehhablobfaplaaDoor
open Go Go.RowKit
attribute [local go_sem] Oper.semAt_some

theorem gWid : Tryd.prog.globalNamed "waywarden/octet.widths" = some 0 := by kernel_rfl
/-- What layer 3's functions ask of a world: the widths lie. -/
structure Fit3 (w : World) : Prop where
  tab : Lib.TabIs Tryd.prog w "waywarden/octet.widths" .i64 [1, 2, 4]
theorem Fit3.below {w w' : World} (h : Fit3 w) (hb : Below w.heap.size w w') : Fit3 w' :=
  ⟨var?_below hb gWid (World.block_lt_of_cell? _ _ (h.tab.cell gWid 0 (by decide))) h.tab⟩

/-- What Put tells: an error, the bytes. -/
def putNo (n k : Int) : Int := if ¬ W3 k then 2 else if n / 256 ^ k.toNat > 0 then 4 else 0
def putL (n k : Int) : List Int := if putNo n k = 0 then be k.toNat n else []

theorem isBytes_putL (n k : Int) : IsBytes (putL n k) := by
  unfold putL
  split
  · exact isBytes_be _ _
  · intro x h; cases h
theorem putL_le (n k : Int) : (putL n k).length ≤ 4 := by
  unfold putL
  split
  · rename_i h
    have hk : W3 k := Classical.byContradiction fun hw => by unfold putNo at h; rw [if_pos hw] at h; cases h
    rw [be_length]
    rcases hk with rfl | rfl | rfl <;> decide
  · exact Nat.zero_le _

/-- What a function promises that is called Put. -/
def PutC (f : FuncId) : Prop := ∀ (n k : Int) (w : World), 0 ≤ n → n < 4294967296 → Fit3 w →
  Calls Tryd.prog f #[.int .u32 n, .int .i64 k] w fun e w' => ∃ p c, e = .returned (.tuple #[.slice p (putL n k).length c, .int .i64 (putNo n k)]) ∧ (putL n k).length ≤ c ∧ ByS w' p (putL n k) ∧ Below w.heap.size w w'
/-- What a function promises that is called Read. -/
def ReadC (f : FuncId) : Prop := ∀ (p : Option Addr) (cap : Nat) (xs : List Int) (at_ k : Int) (w : World), IsBytes xs → xs.length ≤ 1000000 → xs.length ≤ cap → ByS w p xs → at_ < 9223372036854775808 → Fit3 w →
  Calls Tryd.prog f #[.slice p xs.length cap, .int .i64 at_, .int .i64 k] w fun e w' => e = .returned (.tuple #[.int .u32 (readN xs at_ k), .int .i64 (readNo xs at_ k)]) ∧ Below w.heap.size w w'
def YesC (f : FuncId) : Prop := ∀ w : World, Fit3 w → Calls Tryd.prog f #[] w fun e w' => e = .returned (.bool true) ∧ Below w.heap.size w w'

theorem refPut_c : PutC 72 := fun n k w h0 h1 _ => by
  by_cases hk : W3 k
  · obtain ⟨m, rfl, hm⟩ := hk.nat
    refine (refPut_any n h0 h1 m hm w).mono ?_
    rintro e w' ⟨he, hb⟩
    by_cases hz : n / 256 ^ m > 0
    · rw [if_pos hz] at he
      have e0 : putNo n m = 4 := by unfold putNo; rw [if_neg (by simpa using hk), Int.toNat_natCast, if_pos hz]
      have e1 : putL n m = [] := by unfold putL; rw [e0]; rfl
      rw [e0, e1]
      exact ⟨none, 0, he, Nat.le_refl _, ByS.nil _ _, hb⟩
    · rw [if_neg hz] at he
      have e0 : putNo n m = 0 := by unfold putNo; rw [if_neg (by simpa using hk), Int.toNat_natCast, if_neg hz]
      have e1 : putL n m = be m n := by unfold putL; rw [e0, if_pos rfl, Int.toNat_natCast]
      rw [e0, e1]
      refine ⟨some ⟨w.heap.size, 0, none⟩, m, by rw [be_length]; exact he.1, by simp, ?_, hb⟩
      exact ByS.ofBlk (r := []) (by rw [List.append_nil]; exact he.2)
  · have e0 : putNo n k = 2 := by unfold putNo; rw [if_pos hk]
    have e1 : putL n k = [] := by unfold putL; rw [e0]; rfl
    rw [e0, e1]
    refine (refPut_arg n k hk w).mono ?_
    rintro e w' ⟨rfl, rfl⟩
    exact ⟨none, 0, rfl, Nat.le_refl _, ByS.nil _ _, Below.refl _ _⟩
theorem refRead_c : ReadC 65 := fun p cap xs at_ k w hb hn _ hx _ _ => refRead_any p cap xs hb hn at_ k w hx

theorem wpList_app_bytes {ops : Array Oper} {rest : List Oper} {o : Oper} {a : Act} {Q : Exit → Act → World → Prop} (hgd : o.guard = none) (s x : Operand)
    (ho : o.op = .call { callee := .builtin .append, args := #[s, x], argTypes := #[27, 27] }) (base : Nat) {w : World} {v : Value} {xs : List Int} (hs : a.eval s = v) (hown : OwnB base w v xs)
    {p : Option Addr} {ys : List Int} {c : Nat} (hx : a.eval x = .slice p ys.length c) (hy : ByS w p ys) (hn : xs.length + ys.length ≤ 1000000) (hbase : base ≤ w.heap.size)
    (h : ∀ v' w', OwnB base w' v' (xs ++ ys) → w.grownBy w' v.ownBlock → (v' = .slice none 0 0 ↔ v = .slice none 0 0 ∧ ys.length = 0) → wpList Tryd.prog ops Q rest (a.put o.dst v') w') : wpList Tryd.prog ops Q (o :: rest) a w := by
  obtain ⟨v', w', hr, h1, h2, h3⟩ := app_bytes base o.type hown hy c hn hbase
  exact Lib.wpList_append_run_sl w hgd s x 27 ho v _ hs hx hr (h v' w' h1 h2 h3)

/-- What was put is read back. -/
theorem put_read {n k : Int} (h0 : 0 ≤ n) (h1 : n < 4294967296) (hz : putNo n k = 0) (ahead behind : List Int) : readNo (ahead ++ putL n k ++ behind) ahead.length k = 0 ∧ readN (ahead ++ putL n k ++ behind) ahead.length k = n := by
  have hk : W3 k := Classical.byContradiction fun hw => by unfold putNo at hz; rw [if_pos hw] at hz; cases hz
  obtain ⟨m, rfl, hm⟩ := hk.nat
  have hlt : ¬ n / 256 ^ m > 0 := fun hgt => by
    unfold putNo at hz
    rw [if_neg (by simpa using hk), Int.toNat_natCast, if_pos hgt] at hz
    cases hz
  have hL : putL n m = be m n := by unfold putL; rw [if_pos hz, Int.toNat_natCast]
  have hn : n < 256 ^ m := by
    rcases hm with rfl | rfl | rfl
    · simp only [Int.pow_one] at *; omega
    · have : (256 : Int) ^ 2 = 65536 := by decide
      rw [this] at *; omega
    · have : (256 : Int) ^ 4 = 4294967296 := by decide
      rw [this] at *; omega
  have hno : readNo (ahead ++ putL n m ++ behind) ahead.length m = 0 := by
    unfold readNo
    rw [if_neg (by simpa using hk), if_neg (by omega), if_neg (by rw [hL]; simp; omega)]
  refine ⟨hno, ?_⟩
  unfold readN
  rw [if_pos hno, Int.toNat_natCast, Int.toNat_natCast, hL, List.append_assoc, List.drop_left, List.take_left' (by simp), val_be hm h0 hn]
end Go.Proofs.YtehhablobfaplaaDoor

namespace Go.Proofs.YtehhablobfaplaaDoor
open Go Go.RowKit
attribute [local go_sem] Oper.semAt_some

theorem own_below {base : Nat} {W0 w w' : World} {v : Value} {l : List Int} (hl : base ≤ w.heap.size) (hb : Below base W0 w) (ho : OwnB base w v l) (hg : w.grownBy w' v.ownBlock) : Below base W0 w' :=
  hb.grown hg hl (fun k hk => (ho.lt k hk).1)

end Go.Proofs.YtehhablobfaplaaDoor

namespace Go.Proofs.YtehhablobfaplaaDoor
open Go Go.RowKit Go.Sort
attribute [local go_sem] Oper.semAt_some
attribute [local irreducible] wpQuiet

theorem ByS.left {w : World} {p : Option Addr} {xs ys : List Int} (h : ByS w p (xs ++ ys)) : ByS w p xs := fun hn => by
  obtain ⟨b, o, e, hlt, hc⟩ := h (by simp; omega)
  refine ⟨b, o, e, hlt, fun i hi => ?_⟩
  rw [hc i (by simp; omega), List.getElem_append_left hi]
theorem ByS.window {w : World} {b o : Nat} {xs : List Int} (h : ByS w (some ⟨b, o, none⟩) xs) (q m : Nat) (hq : q + m ≤ xs.length) : ByS w (some ⟨b, o + q, none⟩) ((xs.drop q).take m) := fun hn => by
  have hl : ((xs.drop q).take m).length = m := by simp; omega
  obtain ⟨b', o', e, hlt, hc⟩ := h (by omega)
  cases e
  refine ⟨b, o + q, rfl, hlt, fun i hi => ?_⟩
  rw [Nat.add_assoc, hc (q + i) (by omega)]
  simp

/-- What is read, put again. -/
theorem read_put {xs : List Int} {at_ k : Int} (hb : IsBytes xs) (hz : readNo xs at_ k = 0) : ∃ q m : Nat, at_ = q ∧ k = m ∧ (m = 1 ∨ m = 2 ∨ m = 4) ∧ q + m ≤ xs.length ∧ 0 ≤ readN xs at_ k ∧ readN xs at_ k < 4294967296 ∧ putNo (readN xs at_ k) k = 0 ∧ putL (readN xs at_ k) k = (xs.drop q).take m := by
  have hk : W3 k := Classical.byContradiction fun hw => by unfold readNo at hz; rw [if_pos hw] at hz; cases hz
  have h2 := hz
  unfold readNo at h2
  rw [if_neg (by simpa using hk)] at h2
  by_cases ha : at_ < 0
  · rw [if_pos ha] at h2; cases h2
  · rw [if_neg ha] at h2
    by_cases hc : at_ > xs.length ∨ (xs.length : Int) - at_ < k
    · rw [if_pos hc] at h2; cases h2
    · obtain ⟨m, rfl, hm⟩ := hk.nat
      obtain ⟨q, rfl⟩ : ∃ q : Nat, at_ = q := ⟨at_.toNat, by omega⟩
      have hq : q + m ≤ xs.length := by omega
      have hv : readN xs q m = valB ((xs.drop q).take m) := by unfold readN; rw [if_pos hz]; simp
      have hl : ((xs.drop q).take m).length = m := by simp; omega
      obtain ⟨v1, v2, v3⟩ := be_val hm hl ((hb.drop q).take m)
      have hle : (256 : Int) ^ m ≤ 4294967296 := by rcases hm with rfl | rfl | rfl <;> decide
      have hno : putNo (readN xs q m) m = 0 := by
        unfold putNo
        rw [if_neg (by simpa using hk), Int.toNat_natCast, hv, if_neg]
        rw [Int.ediv_eq_zero_of_lt v2 v3]
        decide
      refine ⟨q, m, rfl, rfl, hm, hq, by rw [hv]; exact v2, by rw [hv]; omega, hno, ?_⟩
      unfold putL
      rw [if_pos hno, Int.toNat_natCast, hv, v1]

end Go.Proofs.YtehhablobfaplaaDoor

namespace Go.Proofs.YtehhablobfaplaaDoor
open Go Go.RowKit
attribute [local go_sem] Oper.semAt_some

/-- Numbers that came in. -/
def U32S (w : World) (p : Option Addr) (xs : List Int) : Prop := 0 < xs.length → ∃ b o, p = some ⟨b, o, none⟩ ∧ b < w.heap.size ∧ ∀ i (h : i < xs.length), w.cell? ⟨b, o + i, none⟩ = some (.int .u32 (xs[i]'h))
theorem U32S.below {w w' : World} {p : Option Addr} {xs : List Int} (h : U32S w p xs) (hb : Below w.heap.size w w') : U32S w' p xs := fun hn => by
  obtain ⟨b, o, e, hlt, hc⟩ := h hn
  exact ⟨b, o, e, by have := hb.size; omega, fun i hi => (hb.cell (p := ⟨b, o + i, none⟩) hlt).trans (hc i hi)⟩

/-- Numbers of four bytes, one behind the other. -/
def flat4 (xs : List Int) : List Int := xs.flatMap (be 4)
theorem flat4_snoc (xs : List Int) (x : Int) : flat4 (xs ++ [x]) = flat4 xs ++ be 4 x := by simp [flat4]
theorem flat4_app (xs ys : List Int) : flat4 (xs ++ ys) = flat4 xs ++ flat4 ys := by simp [flat4]
theorem flat4_length (xs : List Int) : (flat4 xs).length = 4 * xs.length := by
  induction xs with
  | nil => rfl
  | cons x xs ih => rw [show x :: xs = [x] ++ xs from rfl, flat4_app, List.length_append, ih]; simp [flat4]; omega
theorem isBytes_flat4 (xs : List Int) : IsBytes (flat4 xs) := fun y h => by
  obtain ⟨x, _, hx⟩ := List.mem_flatMap.1 h
  exact be_mem 4 x y hx

theorem putL4 {n : Int} (h0 : 0 ≤ n) (h1 : n < 4294967296) : putNo n 4 = 0 ∧ putL n 4 = be 4 n := by
  have hz : putNo n 4 = 0 := by
    unfold putNo
    rw [if_neg (by simp [W3]), if_neg]
    have : (256 : Int) ^ (4 : Int).toNat = 4294967296 := by decide
    rw [this, Int.ediv_eq_zero_of_lt h0 h1]
    decide
  exact ⟨hz, by unfold putL; rw [if_pos hz]; rfl⟩

theorem read_flat4 {xs : List Int} (hx : ∀ x ∈ xs, 0 ≤ x ∧ x < 4294967296) {i : Nat} (hi : i < xs.length) : readNo (flat4 xs) ((4 * i : Nat) : Int) 4 = 0 ∧ readN (flat4 xs) ((4 * i : Nat) : Int) 4 = xs[i]'hi := by
  have hs : xs = xs.take i ++ ([xs[i]'hi] ++ xs.drop (i + 1)) := by
    rw [List.singleton_append, ← List.drop_eq_getElem_cons hi, List.take_append_drop]
  have hr := hx _ (List.getElem_mem hi)
  obtain ⟨z1, z2⟩ := putL4 hr.1 hr.2
  have h := put_read hr.1 hr.2 z1 (flat4 (xs.take i)) (flat4 (xs.drop (i + 1)))
  rw [z2] at h
  have hl : (flat4 (xs.take i)).length = 4 * i := by rw [flat4_length]; simp; omega
  have he : flat4 (xs.take i) ++ be 4 (xs[i]'hi) ++ flat4 (xs.drop (i + 1)) = flat4 xs := by
    conv => rhs; rw [hs, flat4_app, flat4_app]
    simp [flat4]
  rw [he, hl] at h
  exact h

theorem puts_order {m n k : Int} (m0 : 0 ≤ m) (m1 : m < 4294967296) (n0 : 0 ≤ n) (n1 : n < 4294967296) (hm : putNo m k = 0) (hn : putNo n k = 0) : Op.bytesLess (strOfNums (putL m k)).toList (strOfNums (putL n k)).toList = decide (m < n) := by
  rw [strNums_lt _ _ (isBytes_putL _ _) (isBytes_putL _ _)]
  have hk : W3 k := Classical.byContradiction fun hw => by unfold putNo at hm; rw [if_pos hw] at hm; cases hm
  obtain ⟨j, rfl, hj⟩ := hk.nat
  have low : ∀ x : Int, 0 ≤ x → x < 4294967296 → putNo x j = 0 → x < 256 ^ j := fun x x0 x1 hx => by
    unfold putNo at hx
    rw [if_neg (by simpa using hk), Int.toNat_natCast] at hx
    by_cases hg : x / 256 ^ j > 0
    · rw [if_pos hg] at hx; cases hx
    · rcases hj with rfl | rfl | rfl
      · simp only [Int.pow_one] at *; omega
      · have : (256 : Int) ^ 2 = 65536 := by decide
        rw [this] at *; omega
      · have : (256 : Int) ^ 4 = 4294967296 := by decide
        rw [this] at *; omega
  unfold putL
  rw [if_pos hm, if_pos hn, Int.toNat_natCast]
  exact ltB_be hj m0 (low m m0 m1 hm) n0 (low n n0 n1 hn)
theorem putNo_nonneg (n k : Int) : 0 ≤ putNo n k ∧ putNo n k ≤ 4 := by
  unfold putNo; split
  · decide
  · split <;> decide

end Go.Proofs.YtehhablobfaplaaDoor
