/- Layer 5's program: commands, what follows the head, the head's numbers, and what bytes must be. -/
import Derived.Test.YtehhablobfaplaaDoorX1
import Derived.Test.YtehhablobfaplaaDoorN2
import Derived.Test.YtehhablobfaplaaDoorX2
namespace Go.Proofs.YtehhablobfaplaaDoor
open Go Go.RowKit
attribute [local go_sem] Oper.semAt_some

set_option maxHeartbeats 800000 in
theorem isCom5_any (c : Int) (w : World) :
    Calls Tryd.prog 45 #[.int .i64 c] w fun e w' => e = .returned (.bool (decide (comD c))) ∧ w = w' := by
  by_cases h1 : c = 1
  · have hd : decide (comD c) = true := by simp [comD, h1]
    rw [hd]
    subst h1
    clear hd
    go_enter Tryd.func45, Tryd.ntmps45
    go_wp2_with fail
    go_ret
    exact ⟨rfl, rfl⟩
  · by_cases h2 : c = 2
    · have hd : decide (comD c) = true := by simp [comD, h2]
      rw [hd]
      subst h2
      clear hd
      go_enter Tryd.func45, Tryd.ntmps45
      go_wp2_with fail
      go_ret
      exact ⟨rfl, rfl⟩
    · have hd : decide (comD c) = false := by simp [comD, h1, h2]
      rw [hd]
      clear hd
      go_enter Tryd.func45, Tryd.ntmps45
      go_wp2_with fail
      go_ret
      exact ⟨by simp [h1, h2], rfl⟩

set_option maxHeartbeats 800000 in
theorem behind5_any (p : Option Addr) (c : Nat) (xs : List Int) (hn : xs.length ≤ 1000000) (hc : xs.length ≤ c) (w : World) (hx : ByS w p xs) :
    Calls Tryd.prog 43 #[.slice p xs.length c] w fun e w' => (∃ q k, e = .returned (.slice q (xs.drop 4).length k) ∧ (xs.drop 4).length ≤ k ∧ ByS w q (xs.drop 4)) ∧ w = w' := by
  have hmin : min (4 : Int) xs.length = ((min 4 xs.length : Nat) : Int) := by omega
  have hl0 : (0 : Int) ≤ ((min 4 xs.length : Nat) : Int) := by omega
  have hl1 : ((min 4 xs.length : Nat) : Int) ≤ (xs.length : Int) := by omega
  have hlen : (xs.drop 4).length = xs.length - min 4 xs.length := by rw [List.length_drop]; omega
  have HX : Hid (∀ b o, p = some ⟨b, o, none⟩ → ByS w (some ⟨b, o + min 4 xs.length, none⟩) (xs.drop 4)) := Lib.hid (fun b o e => by
    subst e
    have := hx.window (min 4 xs.length) (xs.length - min 4 xs.length) (by omega)
    intro h0
    rw [List.length_drop] at h0
    rw [Nat.min_eq_left (by omega)] at this ⊢
    rw [List.take_of_length_le (by rw [List.length_drop]; omega)] at this
    exact this (by rw [List.length_drop]; omega))
  have HP : Hid (0 < xs.length → ∃ b o, p = some ⟨b, o, none⟩) := Lib.hid (fun h => by
    obtain ⟨b, o, e, _⟩ := hx h
    exact ⟨b, o, e⟩)
  rw [hlen]
  have hk : min 4 xs.length ≤ xs.length := by omega
  have H0 : Hid (xs.length ≤ 4 → xs.length - min 4 xs.length = 0) := Lib.hid (fun h => by omega)
  have H1 : Hid (xs.drop 4 = [] ∨ 0 < xs.length) := Lib.hid (by
    cases xs with
    | nil => exact .inl rfl
    | cons a l => exact .inr (by simp))
  have H2 : Hid (xs.length = min 4 xs.length → (xs.drop 4).length = 0) := Lib.hid (fun h => by rw [List.length_drop]; omega)
  clear hx hlen
  generalize xs.drop 4 = ys at *
  generalize hm : min 4 xs.length = k at *
  generalize xs.length = n at *
  go_enter Tryd.func43, Tryd.ntmps43
  go_wp2_with fail
  · go_ret
    have hk0 : ys.length = 0 := H2.out (by omega)
    exact ⟨⟨_, _, rfl, by omega, fun h0 => absurd h0 (by omega)⟩, rfl⟩
  · go_ret
    refine ⟨⟨_, _, rfl, by omega, fun h0 => ?_⟩, rfl⟩
    have hn0 : 0 < n := by
      rcases H1.out with h1 | h1
      · rw [h1] at h0; exact absurd h0 (by simp)
      · exact h1
    obtain ⟨b, o, rfl⟩ := HP.out hn0
    have := HX.out b o rfl h0
    simpa [Addr.add_lit] using this

set_option maxHeartbeats 800000 in
theorem isWhole5_any (m : Nat) (hm : m ≤ 1000000) (w : World) :
    Calls Tryd.prog 60 #[.int .i64 m] w fun e w' => e = .returned (.bool (decide (m % 20 = 0 ∧ m / 20 ≤ 25))) ∧ w = w' := by
  have e1 : (m : Int).tmod 20 = ((m % 20 : Nat) : Int) := by rw [Int.tmod_eq_emod_of_nonneg (by omega)]; rfl
  have e2 : (m : Int).tdiv 20 = ((m / 20 : Nat) : Int) := by rw [Int.tdiv_eq_ediv_of_nonneg (by omega)]; rfl
  have e3 : IntKind.i64.wrap ((m / 20 : Nat) : Int) = ((m / 20 : Nat) : Int) := by rw [IntKind.wrap_i64]; omega
  by_cases h1 : m % 20 = 0
  · rw [h1] at e1
    by_cases h2 : m / 20 ≤ 25
    · have hd : decide (m % 20 = 0 ∧ m / 20 ≤ 25) = true := by simp [h1, h2]
      rw [hd]
      have h3 : ((m / 20 : Nat) : Int) ≤ 25 := by omega
      generalize ((m / 20 : Nat) : Int) = y at *
      clear hd
      go_enter Tryd.func60, Tryd.ntmps60
      go_wp2_with fail
      go_ret
      exact ⟨rfl, rfl⟩
    · have hd : decide (m % 20 = 0 ∧ m / 20 ≤ 25) = false := by simp [h2]
      rw [hd]
      have h3 : ¬ ((m / 20 : Nat) : Int) ≤ 25 := by omega
      generalize ((m / 20 : Nat) : Int) = y at *
      clear hd
      go_enter Tryd.func60, Tryd.ntmps60
      go_wp2_with fail
      go_ret
      exact ⟨rfl, rfl⟩
  · have hd : decide (m % 20 = 0 ∧ m / 20 ≤ 25) = false := by simp [h1]
    rw [hd]
    have h4 : ¬ ((m % 20 : Nat) : Int) = 0 := by omega
    generalize ((m % 20 : Nat) : Int) = y at *
    generalize ((m / 20 : Nat) : Int) = z at *
    clear hd
    go_enter Tryd.func60, Tryd.ntmps60
    go_wp2_with fail
    go_ret
    exact ⟨rfl, rfl⟩

set_option maxHeartbeats 800000 in
theorem number5_any (p : Option Addr) (c : Nat) (xs : List Int) (hb : IsBytes xs) (hn : xs.length ≤ 1000000) (hc : xs.length ≤ c) (at_ k : Int) (hat : at_ < 9223372036854775808) (w : World) (hx : ByS w p xs) (hf : Fit3 w) :
    Calls Tryd.prog 62 #[.slice p xs.length c, .int .i64 at_, .int .i64 k] w fun e w' => e = .returned (.int .u32 (readN xs at_ k)) ∧ w = w' := by
  have HR := Lib.hid (oread_any p c xs hb hn hc at_ k hat w hx hf)
  clear hb hx hf
  generalize readN xs at_ k = v at *
  generalize readNo xs at_ k = no at *
  go_enter Tryd.func62, Tryd.ntmps62
  go_wp2_with fail
  refine HR.out.mono ?_
  rintro e w' ⟨rfl, rfl⟩
  go_wp2_with fail
  go_ret
  exact ⟨rfl, rfl⟩

/-- A number of one byte, or two. -/
theorem readN_one {xs : List Int} {i : Nat} (h : i < xs.length) : readN xs i 1 = xs.getD i 0 := by
  have e : readNo xs i 1 = 0 := by
    unfold readNo
    rw [if_neg (by simp [W3]), if_neg (by omega), if_neg (by omega)]
  unfold readN
  rw [if_pos e, Int.toNat_natCast, show (1 : Int).toNat = 1 from rfl, List.take_one, List.head?_drop, List.getElem?_eq_getElem h]
  simp [valB, List.getD_eq_getElem?_getD, List.getElem?_eq_getElem h]
theorem readN_two {xs : List Int} {i : Nat} (h : i + 1 < xs.length) : readN xs i 2 = 256 * xs.getD i 0 + xs.getD (i + 1) 0 := by
  have e : readNo xs i 2 = 0 := by
    unfold readNo
    rw [if_neg (by simp [W3]), if_neg (by omega), if_neg (by omega)]
  unfold readN
  have ed : xs.drop i = xs[i]'(by omega) :: xs[i + 1]'h :: xs.drop (i + 1 + 1) := by rw [List.drop_eq_getElem_cons (by omega), List.drop_eq_getElem_cons h]
  have ev : valB ((xs.drop i).take 2) = 256 * xs[i]'(by omega) + xs[i + 1]'h := by
    rw [ed]
    show 256 * (256 * 0 + _) + _ = _
    omega
  rw [if_pos e, Int.toNat_natCast, show (2 : Int).toNat = 2 from rfl, ev]
  simp [List.getD_eq_getElem?_getD, List.getElem?_eq_getElem h, List.getElem?_eq_getElem (show i < xs.length by omega)]
theorem readN_range {xs : List Int} (hb : IsBytes xs) (i k : Int) : 0 ≤ readN xs i k ∧ readN xs i k < 4294967296 := by
  unfold readN
  split
  · rename_i h
    obtain ⟨q, m, rfl, rfl, hm, hq, h0, h1, _⟩ := read_put hb h
    unfold readN at h0 h1
    rw [if_pos h] at h0 h1
    exact ⟨h0, h1⟩
  · omega

set_option maxHeartbeats 800000 in
theorem command5_any (p : Option Addr) (c : Nat) (xs : List Int) (hb : IsBytes xs) (hn : xs.length ≤ 1000000) (hc : xs.length ≤ c) (w : World) (hx : ByS w p xs) (hf : Fit3 w) :
    Calls Tryd.prog 51 #[.agg #[.slice p xs.length c]] w fun e w' => e = .returned (.int .i64 (readN xs 0 1)) ∧ Below w.heap.size w w' := by
  have hB0 : Below w.heap.size w (w.alloc (.cells #[.slice p xs.length c] 69)) := (Below.refl _ _).alloc (Nat.le_refl _) _
  have HR := Lib.hid (number5_any p c xs hb hn hc 0 1 (by decide) _ (hx.below hB0) (hf.below hB0))
  have HB := Lib.hid hB0
  obtain ⟨r0, r1⟩ := readN_range hb 0 1
  have hw : IntKind.i64.wrap (readN xs 0 1) = readN xs 0 1 := by rw [IntKind.wrap_i64]; omega
  clear hb hx hf hB0
  generalize readN xs 0 1 = v at *
  go_enter Tryd.func51, Tryd.ntmps51
  go_wp2_with fail
  refine HR.out.mono ?_
  rintro e w' ⟨rfl, rfl⟩
  go_wp2_with fail
  go_ret
  exact ⟨rfl, HB.out⟩

/-- What bytes must be. -/
def must1 (xs : List Int) : Bool := decide (4 ≤ xs.length)
def must2 (xs : List Int) : Bool := decide ((xs.drop 4).length % 20 = 0 ∧ (xs.drop 4).length / 20 ≤ 25)
def must3 (xs : List Int) : Bool := decide (readN xs 1 1 = 2)
def must4 (xs : List Int) : Bool := decide (comD (readN xs 0 1))
def must5 (xs : List Int) : Bool := decide (readN xs 2 2 = 0)
theorem chk_musts {xs : List Int} (hb : IsBytes xs) : chkNo xs = if must1 xs = false then 150 else if must2 xs = false then 151 else if must3 xs = false then 152 else if must4 xs = false then 153 else if must5 xs = false then 154 else 0 := by
  unfold chkNo must1 must2
  by_cases h4 : xs.length < 4
  · have f4 : decide (4 ≤ xs.length) = false := by simp; omega
    rw [if_pos h4, f4, if_pos rfl]
  · have f4 : decide (4 ≤ xs.length) = true := by simp; omega
    rw [if_neg h4, f4, if_neg (show ¬ (true = false) by decide)]
    by_cases h2 : ¬ (xs.length - 4) % 20 = 0 ∨ 504 < xs.length
    · have f2 : decide ((xs.drop 4).length % 20 = 0 ∧ (xs.drop 4).length / 20 ≤ 25) = false := by simp only [decide_eq_false_iff_not, List.length_drop]; omega
      rw [if_pos h2, f2, if_pos rfl]
    · have f2 : decide ((xs.drop 4).length % 20 = 0 ∧ (xs.drop 4).length / 20 ≤ 25) = true := by simp only [decide_eq_true_eq, List.length_drop]; omega
      rw [if_neg h2, f2, if_neg (show ¬ (true = false) by decide)]
      have e1 : readN xs 1 1 = xs.getD 1 0 := readN_one (i := 1) (by omega)
      have e0 : readN xs 0 1 = xs.getD 0 0 := readN_one (i := 0) (by omega)
      have e2 : readN xs 2 2 = 256 * xs.getD 2 0 + xs.getD 3 0 := readN_two (i := 2) (by omega)
      have b2 : 0 ≤ xs.getD 2 0 := by
        rw [List.getD_eq_getElem?_getD, List.getElem?_eq_getElem (show 2 < xs.length by omega)]
        exact (hb _ (List.getElem_mem _)).1
      have b3 : 0 ≤ xs.getD 3 0 := by
        rw [List.getD_eq_getElem?_getD, List.getElem?_eq_getElem (show 3 < xs.length by omega)]
        exact (hb _ (List.getElem_mem _)).1
      have hk : (xs.getD 2 0 ≠ 0 ∨ xs.getD 3 0 ≠ 0) ↔ must5 xs = false := by
        unfold must5
        rw [e2]
        simp only [decide_eq_false_iff_not]
        omega
      have h3 : xs.getD 1 0 ≠ 2 ↔ must3 xs = false := by unfold must3; rw [e1]; simp
      have hc : ¬ comD (xs.getD 0 0) ↔ must4 xs = false := by unfold must4; rw [e0]; simp
      simp only [h3, hc, hk]

set_option maxHeartbeats 800000 in
theorem must1_any (p : Option Addr) (c : Nat) (xs : List Int) (w : World) :
    Calls Tryd.prog 58 #[.agg #[.slice p xs.length c]] w fun e w' => e = .returned (.bool (must1 xs)) ∧ Below w.heap.size w w' := by
  have hB0 : Below w.heap.size w (w.alloc (.cells #[.slice p xs.length c] 69)) := (Below.refl _ _).alloc (Nat.le_refl _) _
  have HB := Lib.hid hB0
  clear hB0
  have hd : must1 xs = decide (4 ≤ (xs.length : Int)) := by unfold must1; rw [Bool.eq_iff_iff]; simp; omega
  rw [hd]
  clear hd
  go_enter Tryd.func58, Tryd.ntmps58
  go_wp2_with fail
  go_ret
  exact ⟨rfl, HB.out⟩
set_option maxHeartbeats 800000 in
theorem must2_any (p : Option Addr) (c : Nat) (xs : List Int) (hn : xs.length ≤ 1000000) (hc : xs.length ≤ c) (w : World) (hx : ByS w p xs) :
    Calls Tryd.prog 59 #[.agg #[.slice p xs.length c]] w fun e w' => e = .returned (.bool (must2 xs)) ∧ Below w.heap.size w w' := by
  have hB0 : Below w.heap.size w (w.alloc (.cells #[.slice p xs.length c] 69)) := (Below.refl _ _).alloc (Nat.le_refl _) _
  have HR := Lib.hid (behind5_any p c xs hn hc _ (hx.below hB0))
  have HB := Lib.hid hB0
  have HW := Lib.hid (fun W => isWhole5_any (xs.drop 4).length (by rw [List.length_drop]; omega) W)
  have hd : must2 xs = decide ((xs.drop 4).length % 20 = 0 ∧ (xs.drop 4).length / 20 ≤ 25) := rfl
  rw [hd]
  generalize decide ((xs.drop 4).length % 20 = 0 ∧ (xs.drop 4).length / 20 ≤ 25) = y at *
  generalize (xs.drop 4) = ys at *
  clear hx hB0 hd
  go_enter Tryd.func59, Tryd.ntmps59
  go_wp2_with fail
  refine HR.out.mono ?_
  rintro e w' ⟨⟨q, k, rfl, -, -⟩, rfl⟩
  go_wp2_with fail
  refine (HW.out _).mono ?_
  rintro e w' ⟨rfl, rfl⟩
  go_wp2_with fail
  go_ret
  exact ⟨rfl, HB.out⟩
set_option maxHeartbeats 800000 in
theorem must3_any (p : Option Addr) (c : Nat) (xs : List Int) (hb : IsBytes xs) (hn : xs.length ≤ 1000000) (hc : xs.length ≤ c) (w : World) (hx : ByS w p xs) (hf : Fit3 w) :
    Calls Tryd.prog 61 #[.agg #[.slice p xs.length c]] w fun e w' => e = .returned (.bool (must3 xs)) ∧ Below w.heap.size w w' := by
  have hB0 : Below w.heap.size w (w.alloc (.cells #[.slice p xs.length c] 69)) := (Below.refl _ _).alloc (Nat.le_refl _) _
  have HR := Lib.hid (number5_any p c xs hb hn hc 1 1 (by decide) _ (hx.below hB0) (hf.below hB0))
  have HB := Lib.hid hB0
  have hd : must3 xs = decide (readN xs 1 1 = 2) := rfl
  rw [hd]
  clear hb hx hf hB0 hd
  generalize readN xs 1 1 = v at *
  go_enter Tryd.func61, Tryd.ntmps61
  go_wp2_with fail
  refine HR.out.mono ?_
  rintro e w' ⟨rfl, rfl⟩
  go_wp2_with fail
  go_ret
  exact ⟨rfl, HB.out⟩
set_option maxHeartbeats 800000 in
theorem must4_any (p : Option Addr) (c : Nat) (xs : List Int) (hb : IsBytes xs) (hn : xs.length ≤ 1000000) (hc : xs.length ≤ c) (w : World) (hx : ByS w p xs) (hf : Fit3 w) :
    Calls Tryd.prog 63 #[.agg #[.slice p xs.length c]] w fun e w' => e = .returned (.bool (must4 xs)) ∧ Below w.heap.size w w' := by
  have hB0 : Below w.heap.size w (w.alloc (.cells #[.slice p xs.length c] 69)) := (Below.refl _ _).alloc (Nat.le_refl _) _
  have HR := Lib.hid (command5_any p c xs hb hn hc _ (hx.below hB0) (hf.below hB0))
  have HC := Lib.hid (fun W => isCom5_any (readN xs 0 1) W)
  have HB := Lib.hid hB0
  have hd : must4 xs = decide (comD (readN xs 0 1)) := rfl
  rw [hd]
  clear hb hx hf hB0 hd
  generalize decide (comD (readN xs 0 1)) = y at *
  generalize readN xs 0 1 = v at *
  go_enter Tryd.func63, Tryd.ntmps63
  go_wp2_with fail
  refine HR.out.mono ?_
  rintro e w1 ⟨rfl, hb1⟩
  have HB1 := Lib.hid (HB.out.trans (hb1.mono HB.out.size))
  clear hb1 HB
  go_wp2_with fail
  refine (HC.out _).mono ?_
  rintro e w' ⟨rfl, rfl⟩
  go_wp2_with fail
  go_ret
  exact ⟨rfl, HB1.out⟩
set_option maxHeartbeats 800000 in
theorem must5_any (p : Option Addr) (c : Nat) (xs : List Int) (hb : IsBytes xs) (hn : xs.length ≤ 1000000) (hc : xs.length ≤ c) (w : World) (hx : ByS w p xs) (hf : Fit3 w) :
    Calls Tryd.prog 64 #[.agg #[.slice p xs.length c]] w fun e w' => e = .returned (.bool (must5 xs)) ∧ Below w.heap.size w w' := by
  have hB0 : Below w.heap.size w (w.alloc (.cells #[.slice p xs.length c] 69)) := (Below.refl _ _).alloc (Nat.le_refl _) _
  have HR := Lib.hid (number5_any p c xs hb hn hc 2 2 (by decide) _ (hx.below hB0) (hf.below hB0))
  have HB := Lib.hid hB0
  have hd : must5 xs = decide (readN xs 2 2 = 0) := rfl
  rw [hd]
  clear hb hx hf hB0 hd
  generalize readN xs 2 2 = v at *
  go_enter Tryd.func64, Tryd.ntmps64
  go_wp2_with fail
  refine HR.out.mono ?_
  rintro e w' ⟨rfl, rfl⟩
  go_wp2_with fail
  go_ret
  exact ⟨rfl, HB.out⟩

/-- The list of them. -/
def mustCs : Array Value := #[.func (.func 58) #[] #[], .int .i64 150, .func (.func 59) #[] #[], .int .i64 151, .func (.func 61) #[] #[], .int .i64 152, .func (.func 63) #[] #[], .int .i64 153, .func (.func 64) #[] #[], .int .i64 154]
set_option maxHeartbeats 800000 in
theorem musts_any (w : World) :
    Calls Tryd.prog 50 #[] w fun e w' => e = .returned (.slice (some ⟨w.heap.size, 0, none⟩) 5 5) ∧ Blk w' w.heap.size 88 mustCs ∧ Below w.heap.size w w' := by
  have HB := Lib.hid ((Below.refl w.heap.size w).alloc (Nat.le_refl _) (.cells mustCs 88))
  have HK := Lib.hid (Blk.new w 88 mustCs)
  unfold mustCs at *
  go_enter Tryd.func50, Tryd.ntmps50
  go_wp2_with fail
  go_ret
  exact ⟨rfl, HK.out, HB.out⟩
end Go.Proofs.YtehhablobfaplaaDoor
