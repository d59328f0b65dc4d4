/- Merged by tools/merge.py: N1, N2. -/
import Derived.Test.YtehhablobfaplaaDoorO9
import Derived.Test.YtehhablobfaplaaDoorG0
import Derived.Lib.EndianBits
import Derived.Deep.AppendLies
namespace Go.Proofs.YtehhablobfaplaaDoor
open Go Go.RowKit Go.Sort
attribute [local go_sem] Oper.semAt_some

theorem ixW0 (w : World) : (Instr.index 114 (.agg #[.int .i64 1, .int .i64 2, .int .i64 4]) (.int .i64 0)).run Tryd.prog w = .ok (.int .i64 1) w := by kernel_rfl
theorem ixW1 (w : World) : (Instr.index 114 (.agg #[.int .i64 1, .int .i64 2, .int .i64 4]) (.int .i64 1)).run Tryd.prog w = .ok (.int .i64 2) w := by kernel_rfl
theorem ixW2 (w : World) : (Instr.index 114 (.agg #[.int .i64 1, .int .i64 2, .int .i64 4]) (.int .i64 2)).run Tryd.prog w = .ok (.int .i64 4) w := by kernel_rfl

set_option maxRecDepth 100000 in
set_option maxHeartbeats 1600000 in
theorem isWidth_any (k : Int) (w : World) (hf : Fit3 w) :
    Calls Tryd.prog 71 #[.int .i64 k] w fun e w' => e = .returned (.bool (decide (W3 k))) ∧ w = w' := by
  have c0 := hf.tab.cell gWid 0 (by decide)
  have c1 := hf.tab.cell gWid 1 (by decide)
  have c2 := hf.tab.cell gWid 2 (by decide)
  simp only [List.getD_cons_zero, List.getD_cons_succ] at c0 c1 c2
  have h0 := ixW0
  have h1 := ixW1
  have h2 := ixW2
  have hd : decide (W3 k) = (decide (k = 1) || (decide (k = 2) || decide (k = 4))) := by rw [← Bool.decide_or, ← Bool.decide_or]; exact decide_eq_decide.2 Iff.rfl
  rw [hd]
  clear hf hd
  go_enter Tryd.func71, Tryd.ntmps71
  go_wp2_with fail
  go_loopw [6] (fun i wr => ∃ j : Nat, j ≤ 3 ∧ i = .int .i64 j ∧ wr = w ∧ (1 ≤ j → k ≠ 1) ∧ (2 ≤ j → k ≠ 2) ∧ (3 ≤ j → k ≠ 4)) (fun i _ => 3 - (intOf i).toNat)
  case atStart => exact ⟨0, by omega, rfl, rfl, by omega, by omega, by omega⟩
  case round =>
    obtain ⟨j, hj, rfl, rfl, n1, n2, n3⟩ := hrel
    have hj4 : j = 0 ∨ j = 1 ∨ j = 2 ∨ j = 3 := by omega
    rcases hj4 with rfl | rfl | rfl | rfl
    · by_cases e : k = 1
      · subst e
        go_wp2_with fail
        go_ret
        exact ⟨rfl, rfl⟩
      · have e' : ¬ (1 : Int) = k := fun h => e h.symm
        go_wp2_with fail
        exact ⟨⟨1, by omega, rfl, trivial, fun _ => e, by omega, by omega⟩, by simp only [intOf]; omega⟩
    · have n1 := n1 (by omega)
      by_cases e : k = 2
      · subst e
        go_wp2_with fail
        go_ret
        exact ⟨rfl, rfl⟩
      · have e' : ¬ (2 : Int) = k := fun h => e h.symm
        go_wp2_with fail
        exact ⟨⟨2, by omega, rfl, trivial, fun _ => n1, fun _ => e, by omega⟩, by simp only [intOf]; omega⟩
    · have n1 := n1 (by omega)
      have n2 := n2 (by omega)
      by_cases e : k = 4
      · subst e
        go_wp2_with fail
        go_ret
        exact ⟨rfl, rfl⟩
      · have e' : ¬ (4 : Int) = k := fun h => e h.symm
        go_wp2_with fail
        exact ⟨⟨3, by omega, rfl, trivial, fun _ => n1, fun _ => n2, fun _ => e⟩, by simp only [intOf]; omega⟩
    · have n1 := n1 (by omega)
      have n2 := n2 (by omega)
      have n3 := n3 (by omega)
      go_wp2_with fail
      go_ret
      exact ⟨by simp [n1, n2, n3], rfl⟩

theorem or_byte (n b : Int) (h0 : 0 ≤ n) (h1 : n < 16777216) (b0 : 0 ≤ b) (b1 : b < 256) : bits .or .u32 (n * 256) b = 256 * n + b := by
  have hc : bits .or .u32 (n * 256) b = bits .or .u32 b (n * 256) := by simp only [bits, BitVec.or_comm]
  rw [hc, u32_or8 b (n * 256) b0 b1 (by omega) (by omega) (by omega)]
  omega
set_option maxRecDepth 100000 in
set_option maxHeartbeats 1600000 in
theorem number1_any (n b : Int) (h0 : 0 ≤ n) (h1 : n < 16777216) (b0 : 0 ≤ b) (b1 : b < 256) (w : World) :
    Calls Tryd.prog 82 #[.int .u32 n, .int .u8 b] w fun e w' => e = .returned (.int .u32 (256 * n + b)) ∧ w = w' := by
  go_enter Tryd.func82, Tryd.ntmps82
  go_wp2_with fail
  go_ret
  exact ⟨by rw [← or_byte n b h0 h1 b0 b1]; rfl, rfl⟩

set_option maxRecDepth 100000 in
set_option maxHeartbeats 1600000 in
theorem fold_any (p : Option Addr) (cap : Nat) (xs : List Int) (hb : IsBytes xs) (hn : xs.length ≤ 4) (w : World) (hx : ByS w p xs) :
    Calls Tryd.prog 81 #[.int .u32 0, .func (.func 82) #[] #[], .slice p xs.length cap] w fun e w' => e = .returned (.int .u32 (valB xs)) ∧ w = w' := by
  have HX := Lib.hid hx
  have HB := Lib.hid hb
  clear hx hb
  go_enter Tryd.func81, Tryd.ntmps81
  go_wp2_with fail
  go_loopw [0, 11] (fun a i wr => ∃ j : Nat, j ≤ xs.length ∧ a = .int .u32 (valB (xs.take j)) ∧ i = .int .i64 j ∧ wr = w) (fun _ i _ => xs.length - (intOf i).toNat)
  case atStart => exact ⟨0, by omega, by simp [valB], rfl, rfl⟩
  case round =>
    obtain ⟨j, hj, rfl, rfl, rfl⟩ := hrel
    by_cases hjl : j < xs.length
    · obtain ⟨b, o, rfl, _, hc⟩ := HX.out (by omega)
      have hc1 := hc j hjl
      have hv := valB_lt (HB.out.take j) (by simp; omega)
      have hlt : (xs.take j).length = j := by simp; omega
      rw [hlt] at hv
      have hsn : xs.take (j + 1) = xs.take j ++ [xs[j]'hjl] := by
        rw [List.take_add_one, List.getElem?_eq_getElem hjl]; rfl
      have hsv : valB (xs.take (j + 1)) = 256 * valB (xs.take j) + xs[j]'hjl := by rw [hsn, valB_snoc]
      have hxr := HB.out _ (List.getElem_mem hjl)
      generalize valB (xs.take j) = v at *
      generalize xs[j]'hjl = x at *
      have hvb : v < 16777216 := by
        have : j = 0 ∨ j = 1 ∨ j = 2 ∨ j = 3 := by omega
        rcases this with rfl | rfl | rfl | rfl <;> omega
      have jz : (j : Int) < (xs.length : Int) := by omega
      have hcall := number1_any v x hv.1 hvb hxr.1 hxr.2
      have HC := Lib.hid hcall
      clear hc hv hsn hlt hcall
      go_wp2_with (first | (refine (HC.out _).mono ?_; rintro e w' ⟨rfl, rfl⟩))
      exact ⟨⟨j + 1, by omega, by rw [hsv], by simp, trivial⟩, by simp only [intOf]; omega⟩
    · have hje : j = xs.length := by omega
      subst hje
      rw [List.take_length]
      have jz : ¬ (xs.length : Int) < (xs.length : Int) := by omega
      go_wp2_with fail
      go_ret
      exact ⟨rfl, rfl⟩

set_option maxRecDepth 100000 in
theorem number_any (p : Option Addr) (cap : Nat) (xs : List Int) (hb : IsBytes xs) (hn : xs.length ≤ 4) (w : World) (hx : ByS w p xs) :
    Calls Tryd.prog 80 #[.slice p xs.length cap] w fun e w' => e = .returned (.int .u32 (valB xs)) ∧ w = w' := by
  have HC := Lib.hid (fold_any p cap xs hb hn w hx)
  clear hx hb
  go_enter Tryd.func80, Tryd.ntmps80
  go_wp2_with (first | (refine (HC.out).mono ?_; rintro e w' ⟨rfl, rfl⟩))
  go_ret
  exact ⟨rfl, rfl⟩

/-- Where the bytes lie that are cut out. -/
def cutP (p : Option Addr) (at_ k : Int) : Option Addr := if k.toNat = 0 then p else p.map fun x => x.add at_.toNat
/-- What cut tells: an error. -/
def cutNo (n at_ many : Int) : Int := if at_ < 0 ∨ many < 0 then 4 else if many > n - at_ then 130 else 0

set_option maxRecDepth 100000 in
set_option maxHeartbeats 1600000 in
theorem cut_any (p : Option Addr) (cap : Nat) (xs : List Int) (hn : xs.length ≤ 1000000) (hcap : xs.length ≤ cap) (at_ k : Int) (hat : at_ < 9223372036854775808) (w : World) (hx : ByS w p xs) :
    Calls Tryd.prog 79 #[.slice p xs.length cap, .int .i64 at_, .int .i64 k] w fun e w' => (if cutNo xs.length at_ k = 0 then e = .returned (.tuple #[.slice (cutP p at_ k) k.toNat k.toNat, .int .i64 0]) ∧ ByS w (cutP p at_ k) ((xs.drop at_.toNat).take k.toNat) else e = .returned (.tuple #[.slice none 0 0, .int .i64 (cutNo xs.length at_ k)])) ∧ w = w' := by
  by_cases ha : at_ < 0
  · have e0 : cutNo xs.length at_ k = 4 := if_pos (.inl ha)
    rw [e0]
    clear e0
    go_enter Tryd.func79, Tryd.ntmps79
    go_wp2_with fail
    refine wp_scope_fwd 0 rfl ?_
    go_wp2_with fail
    go_step3
    refine ⟨rfl, ?_⟩
    go_wp2_with fail
    rw [Exit.noGoto_ret]
    go_ret2
    exact ⟨rfl, rfl⟩
  · by_cases hk : k < 0
    · have e0 : cutNo xs.length at_ k = 4 := if_pos (.inr hk)
      rw [e0]
      clear e0
      go_enter Tryd.func79, Tryd.ntmps79
      go_wp2_with fail
      refine wp_scope_fwd 0 rfl ?_
      go_wp2_with fail
      go_step3
      refine ⟨rfl, ?_⟩
      go_wp2_with fail
      rw [Exit.noGoto_ret]
      go_ret2
      exact ⟨rfl, rfl⟩
    · have hno : ¬ (at_ < 0 ∨ k < 0) := by omega
      by_cases hg : k > xs.length - at_
      · have e0 : cutNo xs.length at_ k = 130 := by unfold cutNo; rw [if_neg hno, if_pos hg]
        rw [e0]
        clear e0 hno
        go_enter Tryd.func79, Tryd.ntmps79
        go_wp2_with fail
        refine wp_scope_fwd 0 rfl ?_
        go_wp2_with fail
        go_step3
        refine ⟨rfl, ?_⟩
        go_wp2_with fail
        rw [Exit.noGoto_ret]
        go_ret2
        exact ⟨rfl, rfl⟩
      · have e0 : cutNo xs.length at_ k = 0 := by unfold cutNo; rw [if_neg hno, if_neg hg]
        rw [e0]
        clear e0 hno
        have a0 : 0 ≤ at_ := by omega
        have k0 : 0 ≤ k := by omega
        have hak : at_ + k ≤ xs.length := by omega
        clear hg hk ha
        by_cases hm : k = 0
        · subst hm
          go_enter Tryd.func79, Tryd.ntmps79
          go_wp2_with fail
          refine wp_scope_straight ?_
          go_wp2_with fail
          rw [Exit.noGoto_ret]
          go_ret2
          exact ⟨⟨rfl, by simpa using ByS.nil w _⟩, rfl⟩
        · have hqm : at_.toNat + k.toNat ≤ xs.length := by omega
          obtain ⟨b, o, rfl, hlt, hc⟩ := hx (by omega)
          have hw := (ByS.window (w := w) (b := b) (o := o) (xs := xs) (fun _ => ⟨b, o, rfl, hlt, hc⟩) at_.toNat k.toNat hqm)
          have HW := Lib.hid hw
          clear hw hx hc hqm
          have k1 : 1 ≤ k := by omega
          have t1 : at_ + k ≤ cap := by omega
          have t4 : ¬ (at_ + k).toNat = at_.toNat := by omega
          go_enter Tryd.func79, Tryd.ntmps79
          go_wp2_with fail
          refine wp_scope_straight ?_
          go_wp2_with fail
          have e2 : (at_ + k).toNat - at_.toNat = k.toNat := by omega
          rw [Exit.noGoto_ret, e2]
          go_ret2
          have e3 : cutP (some ⟨b, o, none⟩) at_ k = some ⟨b, o + at_.toNat, none⟩ := by unfold cutP; rw [if_neg (by omega)]; simp [Addr.add_lit]
          rw [e3]
          exact ⟨⟨rfl, HW.out⟩, rfl⟩

theorem readNo_cut {xs : List Int} {at_ k : Int} (hk : W3 k) : readNo xs at_ k = cutNo xs.length at_ k := by
  have hk4 : 1 ≤ k ∧ k ≤ 4 := by obtain ⟨m, rfl, hm⟩ := hk.nat; omega
  unfold readNo cutNo
  rw [if_neg (not_not_intro hk)]
  split
  · rename_i h
    rw [if_pos (.inl h)]
  · rename_i h
    rw [if_neg (show ¬ (at_ < 0 ∨ k < 0) by omega)]
    by_cases h2 : k > xs.length - at_
    · rw [if_pos h2, if_pos (show at_ > xs.length ∨ (xs.length : Int) - at_ < k from .inr h2)]
    · rw [if_neg h2, if_neg (show ¬ (at_ > xs.length ∨ (xs.length : Int) - at_ < k) by omega)]

set_option maxRecDepth 100000 in
set_option maxHeartbeats 1600000 in
theorem read_any (p : Option Addr) (cap : Nat) (xs : List Int) (hb : IsBytes xs) (hn : xs.length ≤ 1000000) (hcap : xs.length ≤ cap) (at_ k : Int) (hat : at_ < 9223372036854775808) (w : World) (hx : ByS w p xs) (hf : Fit3 w) :
    Calls Tryd.prog 77 #[.slice p xs.length cap, .int .i64 at_, .int .i64 k] w fun e w' => e = .returned (.tuple #[.int .u32 (readN xs at_ k), .int .i64 (readNo xs at_ k)]) ∧ w = w' := by
  have hW := isWidth_any k w hf
  by_cases hk : W3 k
  · have hcut := cut_any p cap xs hn hcap at_ k hat w hx
    rw [decide_eq_true hk] at hW
    have hnc := readNo_cut (xs := xs) (at_ := at_) hk
    rw [← hnc] at hcut
    by_cases hz : readNo xs at_ k = 0
    · have e1 : readN xs at_ k = valB ((xs.drop at_.toNat).take k.toNat) := if_pos hz
      simp only [if_pos hz] at hcut
      rw [hz, e1]
      have hL := readNo_cut (xs := xs) (at_ := at_) hk
      rw [hz] at hL
      have hk4 : 1 ≤ k ∧ k ≤ 4 := by obtain ⟨m, rfl, hm⟩ := hk.nat; omega
      have hBy := (hb.drop at_.toNat).take k.toNat
      have hlen : ((xs.drop at_.toNat).take k.toNat).length = k.toNat := by
        have h3 : ¬ (at_ < 0 ∨ k < 0) := fun h => by unfold cutNo at hL; rw [if_pos h] at hL; cases hL
        have h4 : ¬ k > xs.length - at_ := fun h => by unfold cutNo at hL; rw [if_neg h3, if_pos h] at hL; cases hL
        simp; omega
      generalize (xs.drop at_.toNat).take k.toNat = ys at *
      have HW := Lib.hid hW
      have HC := Lib.hid hcut
      have HL := Lib.hid (And.intro hBy hlen)
      clear hW hcut hnc hz hL hBy hlen e1 hb hx hf
      go_enter Tryd.func77, Tryd.ntmps77
      go_wp2_with fail
      refine wp_scope_straight ?_
      go_wp2_with fail
      refine HW.out.mono ?_
      rintro e w' ⟨rfl, rfl⟩
      go_wp2_with fail
      refine HC.out.mono ?_
      rintro e w' ⟨⟨rfl, hq⟩, rfl⟩
      have hnum := number_any (cutP p at_ k) k.toNat ys HL.out.1 (by have := HL.out.2; omega) w hq
      rw [HL.out.2] at hnum
      have HN := Lib.hid hnum
      clear hnum hq
      go_wp2_with fail
      refine HN.out.mono ?_
      rintro e w' ⟨rfl, rfl⟩
      go_wp2_with fail
      rw [Exit.noGoto_ret]
      go_ret2
      exact ⟨rfl, rfl⟩
    · have e1 : readN xs at_ k = 0 := if_neg hz
      simp only [if_neg hz] at hcut
      rw [e1]
      generalize readNo xs at_ k = no at *
      have HW := Lib.hid hW
      have HC := Lib.hid hcut
      clear hW hcut hnc e1 hb hx hf
      go_enter Tryd.func77, Tryd.ntmps77
      go_wp2_with fail
      refine wp_scope_fwd 0 rfl ?_
      go_wp2_with fail
      refine HW.out.mono ?_
      rintro e w' ⟨rfl, rfl⟩
      go_wp2_with fail
      refine HC.out.mono ?_
      rintro e w' ⟨rfl, rfl⟩
      go_wp2_with fail
      go_step3
      refine ⟨rfl, ?_⟩
      go_wp2_with fail
      rw [Exit.noGoto_ret]
      go_ret2
      exact ⟨rfl, rfl⟩
  · have e0 : readNo xs at_ k = 2 := by unfold readNo; rw [if_pos hk]
    have e1 : readN xs at_ k = 0 := by unfold readN; rw [e0]; rfl
    rw [decide_eq_false hk] at hW
    rw [e0, e1]
    have HW := Lib.hid hW
    clear hW e0 e1 hb hx hf
    go_enter Tryd.func77, Tryd.ntmps77
    go_wp2_with fail
    refine wp_scope_fwd 0 rfl ?_
    go_wp2_with fail
    refine HW.out.mono ?_
    rintro e w' ⟨rfl, rfl⟩
    go_wp2_with fail
    go_step3
    refine ⟨rfl, ?_⟩
    go_wp2_with fail
    rw [Exit.noGoto_ret]
    go_ret2
    exact ⟨rfl, rfl⟩

theorem oread_any (p : Option Addr) (cap : Nat) (xs : List Int) (hb : IsBytes xs) (hn : xs.length ≤ 1000000) (hcap : xs.length ≤ cap) (at_ k : Int) (hat : at_ < 9223372036854775808) (w : World) (hx : ByS w p xs) (hf : Fit3 w) :
    Calls Tryd.prog 73 #[.slice p xs.length cap, .int .i64 at_, .int .i64 k] w fun e w' => e = .returned (.tuple #[.int .u32 (readN xs at_ k), .int .i64 (readNo xs at_ k)]) ∧ w = w' := by
  have HR := Lib.hid (read_any p cap xs hb hn hcap at_ k hat w hx hf)
  clear hb hx hf
  generalize readN xs at_ k = v at *
  generalize readNo xs at_ k = no at *
  go_enter Tryd.func73, Tryd.ntmps73
  go_wp2_with fail
  refine HR.out.mono ?_
  rintro e w' ⟨rfl, rfl⟩
  go_wp2_with fail
  go_ret2
  exact ⟨rfl, rfl⟩
theorem oread_c : ReadC 73 := fun p cap xs at_ k w hb hn hc hx hat hf => (oread_any p cap xs hb hn hc at_ k hat w hx hf).mono fun e w' ⟨he, hw⟩ => ⟨he, by subst hw; exact Below.refl _ _⟩

theorem be_get : ∀ (k : Nat) (n : Int) (j : Nat), j < k → (be k n)[j]? = some (n / 256 ^ (k - 1 - j) % 256)
  | 0, _, _, h => by omega
  | k + 1, n, 0, _ => by simp [be]
  | k + 1, n, j + 1, h => by
    rw [be, List.getElem?_cons_succ, be_get k n j (by omega)]
    congr 4
    omega

set_option maxRecDepth 100000 in
set_option maxHeartbeats 1600000 in
theorem oput_any (n k : Int) (w : World) (h0 : 0 ≤ n) (h1 : n < 4294967296) (hf : Fit3 w) :
    Calls Tryd.prog 56 #[.int .u32 n, .int .i64 k] w fun e w' => ∃ v, e = .returned (.tuple #[v, .int .i64 (putNo n k)]) ∧ OwnB w.heap.size w' v (putL n k) ∧ Below w.heap.size w w' := by
  have hW := isWidth_any k w hf
  by_cases hk : W3 k
  · obtain ⟨m, rfl, hm⟩ := hk.nat
    rw [decide_eq_true hk] at hW
    have HW := Lib.hid hW
    by_cases hz : n / 256 ^ m > 0
    · have e0 : putNo n m = 4 := by unfold putNo; rw [if_neg (by simpa using hk), Int.toNat_natCast, if_pos hz]
      have e1 : putL n m = [] := by unfold putL; rw [e0]; rfl
      rw [e0, e1]
      clear hW e0 e1 hf hk
      have hzz : (m = 1 ∧ (n / 256 != 0) = true) ∨ (m = 2 ∧ (n / 65536 != 0) = true) := by
        rcases hm with rfl | rfl | rfl
        · left; refine ⟨rfl, ?_⟩; simp only [Int.pow_one] at hz; simp; omega
        · right; refine ⟨rfl, ?_⟩
          have : (256 : Int) ^ 2 = 65536 := by decide
          rw [this] at hz; simp; omega
        · have : (256 : Int) ^ 4 = 4294967296 := by decide
          rw [this] at hz; omega
      clear hm hz
      rcases hzz with ⟨rfl, hz⟩ | ⟨rfl, hz⟩
      all_goals
        go_enter Tryd.func56, Tryd.ntmps56
        go_wp2_with fail
        refine wp_scope_fwd 0 rfl ?_
        go_wp2_with fail
        refine HW.out.mono ?_
        rintro e w' ⟨rfl, rfl⟩
        go_wp2_with fail
        go_step3
        refine ⟨rfl, ?_⟩
        go_wp2_with fail
        rw [Exit.noGoto_ret]
        go_ret2
        exact ⟨_, rfl, World.ownsRow_nil _ _ _ _, Below.refl _ _⟩
    · have e0 : putNo n m = 0 := by unfold putNo; rw [if_neg (by simpa using hk), Int.toNat_natCast, if_neg hz]
      have e1 : putL n m = be m n := by unfold putL; rw [e0, if_pos rfl, Int.toNat_natCast]
      rw [e0, e1]
      clear hW e0 e1 hf hk
      have hzz : (m = 1 ∧ (n / 256 != 0) = false) ∨ (m = 2 ∧ (n / 65536 != 0) = false) ∨ (m = 4 ∧ (n / 4294967296 != 0) = false) := by
        rcases hm with rfl | rfl | rfl
        · left; refine ⟨rfl, ?_⟩; simp only [Int.pow_one] at hz; simp; omega
        · right; left; refine ⟨rfl, ?_⟩
          have : (256 : Int) ^ 2 = 65536 := by decide
          rw [this] at hz; simp; omega
        · right; right; refine ⟨rfl, ?_⟩
          simp; omega
      clear hm hz
      have hlen := be_length m n
      rcases hzz with ⟨rfl, hz⟩ | ⟨rfl, hz⟩ | ⟨rfl, hz⟩
      · go_enter Tryd.func56, Tryd.ntmps56
        go_wp2_with fail
        refine wp_scope_straight ?_
        go_wp2_with fail
        refine HW.out.mono ?_
        rintro e w' ⟨rfl, rfl⟩
        clear HW
        go_wp2_with fail
        have HO0 : Hid (OwnB w.heap.size w (.slice none 0 0) ((be 1 n).take 0)) := World.ownsRow_nil _ _ _ _
        have HB0 : Hid (Below w.heap.size w w) := Below.refl _ _
        go_loopw [4, 6] (fun v i wr => ∃ (j : Nat) (z : Int), j ≤ 1 ∧ z = 0 - (j : Int) ∧ i = .int .i64 z ∧ Hid (OwnB w.heap.size wr v ((be 1 n).take j)) ∧ Hid (Below w.heap.size w wr)) (fun _ i _ => ((intOf i) + 1).toNat)
        case atStart => exact ⟨0, 0, by omega, rfl, rfl, HO0, HB0⟩
        case round =>
          clear HO0 HB0
          obtain ⟨j, z, hj, hzj, rfl, HO, HB⟩ := hrel
          have hjs : j = 0 ∨ j = 1 := by omega
          rcases hjs with rfl | rfl
          · obtain rfl : z = 0 := by omega
            have hx : (be 1 n)[0]? = some (n % 256) := be_get 1 n 0 (by decide) |>.trans (by simp)
            have hsn : (be 1 n).take 1 = [n % 256] := by rw [List.take_add_one, hx]; rfl
            have HSN := Lib.hid hsn
            have HO4 : Hid (OwnB w.heap.size (wr.alloc (.cells #[.int .u8 (n % 256)] 5)) u4 []) := (show OwnB w.heap.size wr u4 [] from HO.out).alloc _
            have HY4 : Hid (ByS (wr.alloc (.cells #[.int .u8 (n % 256)] 5)) (some ⟨wr.heap.size, 0, none⟩) [n % 256]) := ByS.ofBlk (t := 5) (r := []) (Blk.new wr 5 #[.int .u8 (n % 256)])
            have HB4 : Hid (Below w.heap.size w (wr.alloc (.cells #[.int .u8 (n % 256)] 5))) := HB.out.alloc HB.out.size _
            have l4 := HB4.out.size
            have K4 : ([] : List Int).length + [n % 256].length ≤ 1000000 := by simp <;> omega
            clear hx hsn HO HB hj hzj
            go_wp2_with (first | (at_builtin; refine wpList_app_bytes (v := u4) (xs := []) (p := some ⟨wr.heap.size, 0, none⟩) (ys := [n % 256]) (c := 1) rfl _ _ rfl w.heap.size rfl HO4.out rfl HY4.out K4 l4 ?_))
            intro v5 w5 o5 g5 _
            have HB5 := Lib.hid (own_below l4 HB4.out HO4.out g5)
            rw [← HSN.out] at o5
            have HO5 := Lib.hid o5
            clear o5 g5 K4 HO4 HY4 HB4
            go_wp2_with fail
            exact ⟨⟨1, -1, by omega, by omega, rfl, HO5, HB5⟩, by simp only [intOf]; omega⟩
          · obtain rfl : z = -1 := by omega
            have hob := HO.out
            rw [List.take_of_length_le (by omega)] at hob
            have HO2 := Lib.hid hob
            clear hob hj hzj
            go_wp2_with fail
            rw [Exit.noGoto_ret]
            go_ret2
            exact ⟨_, rfl, HO2.out, HB.out⟩
      · go_enter Tryd.func56, Tryd.ntmps56
        go_wp2_with fail
        refine wp_scope_straight ?_
        go_wp2_with fail
        refine HW.out.mono ?_
        rintro e w' ⟨rfl, rfl⟩
        clear HW
        go_wp2_with fail
        have HO0 : Hid (OwnB w.heap.size w (.slice none 0 0) ((be 2 n).take 0)) := World.ownsRow_nil _ _ _ _
        have HB0 : Hid (Below w.heap.size w w) := Below.refl _ _
        go_loopw [4, 6] (fun v i wr => ∃ (j : Nat) (z : Int), j ≤ 2 ∧ z = 1 - (j : Int) ∧ i = .int .i64 z ∧ Hid (OwnB w.heap.size wr v ((be 2 n).take j)) ∧ Hid (Below w.heap.size w wr)) (fun _ i _ => ((intOf i) + 1).toNat)
        case atStart => exact ⟨0, 1, by omega, rfl, rfl, HO0, HB0⟩
        case round =>
          clear HO0 HB0
          obtain ⟨j, z, hj, hzj, rfl, HO, HB⟩ := hrel
          have hjs : j = 0 ∨ j = 1 ∨ j = 2 := by omega
          rcases hjs with rfl | rfl | rfl
          · obtain rfl : z = 1 := by omega
            have hx : (be 2 n)[0]? = some (n / 256 % 256) := by have := be_get 2 n 0 (by decide); simpa using this
            have hsn : (be 2 n).take 1 = [n / 256 % 256] := by rw [List.take_add_one, hx]; rfl
            have HSN := Lib.hid hsn
            have HO4 : Hid (OwnB w.heap.size (wr.alloc (.cells #[.int .u8 (n / 256 % 256)] 5)) u4 []) := (show OwnB w.heap.size wr u4 [] from HO.out).alloc _
            have HY4 : Hid (ByS (wr.alloc (.cells #[.int .u8 (n / 256 % 256)] 5)) (some ⟨wr.heap.size, 0, none⟩) [n / 256 % 256]) := ByS.ofBlk (t := 5) (r := []) (Blk.new wr 5 #[.int .u8 (n / 256 % 256)])
            have HB4 : Hid (Below w.heap.size w (wr.alloc (.cells #[.int .u8 (n / 256 % 256)] 5))) := HB.out.alloc HB.out.size _
            have l4 := HB4.out.size
            have K4 : ([] : List Int).length + [n / 256 % 256].length ≤ 1000000 := by simp <;> omega
            clear hx hsn HO HB hj hzj
            go_wp2_with (first | (at_builtin; refine wpList_app_bytes (v := u4) (xs := []) (p := some ⟨wr.heap.size, 0, none⟩) (ys := [n / 256 % 256]) (c := 1) rfl _ _ rfl w.heap.size rfl HO4.out rfl HY4.out K4 l4 ?_))
            intro v5 w5 o5 g5 _
            have HB5 := Lib.hid (own_below l4 HB4.out HO4.out g5)
            rw [← HSN.out] at o5
            have HO5 := Lib.hid o5
            clear o5 g5 K4 HO4 HY4 HB4
            go_wp2_with fail
            exact ⟨⟨1, 0, by omega, by omega, rfl, HO5, HB5⟩, by simp only [intOf]; omega⟩
          · obtain rfl : z = 0 := by omega
            have hx : (be 2 n)[1]? = some (n % 256) := by have := be_get 2 n 1 (by decide); simpa using this
            have hsn : (be 2 n).take 2 = (be 2 n).take 1 ++ [n % 256] := by rw [List.take_add_one, hx]; rfl
            have HSN := Lib.hid hsn
            have HO4 : Hid (OwnB w.heap.size (wr.alloc (.cells #[.int .u8 (n % 256)] 5)) u4 ((be 2 n).take 1)) := HO.out.alloc _
            have HY4 : Hid (ByS (wr.alloc (.cells #[.int .u8 (n % 256)] 5)) (some ⟨wr.heap.size, 0, none⟩) [n % 256]) := ByS.ofBlk (t := 5) (r := []) (Blk.new wr 5 #[.int .u8 (n % 256)])
            have HB4 : Hid (Below w.heap.size w (wr.alloc (.cells #[.int .u8 (n % 256)] 5))) := HB.out.alloc HB.out.size _
            have l4 := HB4.out.size
            have K4 : ((be 2 n).take 1).length + [n % 256].length ≤ 1000000 := by simp <;> omega
            clear hx hsn HO HB hj hzj
            go_wp2_with (first | (at_builtin; refine wpList_app_bytes (v := u4) (xs := (be 2 n).take 1) (p := some ⟨wr.heap.size, 0, none⟩) (ys := [n % 256]) (c := 1) rfl _ _ rfl w.heap.size rfl HO4.out rfl HY4.out K4 l4 ?_))
            intro v5 w5 o5 g5 _
            have HB5 := Lib.hid (own_below l4 HB4.out HO4.out g5)
            rw [← HSN.out] at o5
            have HO5 := Lib.hid o5
            clear o5 g5 K4 HO4 HY4 HB4
            go_wp2_with fail
            exact ⟨⟨2, -1, by omega, by omega, rfl, HO5, HB5⟩, by simp only [intOf]; omega⟩
          · obtain rfl : z = -1 := by omega
            have hob := HO.out
            rw [List.take_of_length_le (by omega)] at hob
            have HO2 := Lib.hid hob
            clear hob hj hzj
            go_wp2_with fail
            rw [Exit.noGoto_ret]
            go_ret2
            exact ⟨_, rfl, HO2.out, HB.out⟩
      · go_enter Tryd.func56, Tryd.ntmps56
        go_wp2_with fail
        refine wp_scope_straight ?_
        go_wp2_with fail
        refine HW.out.mono ?_
        rintro e w' ⟨rfl, rfl⟩
        clear HW
        go_wp2_with fail
        have HO0 : Hid (OwnB w.heap.size w (.slice none 0 0) ((be 4 n).take 0)) := World.ownsRow_nil _ _ _ _
        have HB0 : Hid (Below w.heap.size w w) := Below.refl _ _
        go_loopw [4, 6] (fun v i wr => ∃ (j : Nat) (z : Int), j ≤ 4 ∧ z = 3 - (j : Int) ∧ i = .int .i64 z ∧ Hid (OwnB w.heap.size wr v ((be 4 n).take j)) ∧ Hid (Below w.heap.size w wr)) (fun _ i _ => ((intOf i) + 1).toNat)
        case atStart => exact ⟨0, 3, by omega, rfl, rfl, HO0, HB0⟩
        case round =>
          clear HO0 HB0
          obtain ⟨j, z, hj, hzj, rfl, HO, HB⟩ := hrel
          have hjs : j = 0 ∨ j = 1 ∨ j = 2 ∨ j = 3 ∨ j = 4 := by omega
          rcases hjs with rfl | rfl | rfl | rfl | rfl
          · obtain rfl : z = 3 := by omega
            have hx : (be 4 n)[0]? = some (n / 16777216) := by
              rw [be_get 4 n 0 (by decide)]
              congr 1
              have e3 : (256 : Int) ^ (4 - 1 - 0) = 16777216 := by decide
              rw [e3]; omega
            have hsn : (be 4 n).take 1 = [n / 16777216] := by rw [List.take_add_one, hx]; rfl
            have HSN := Lib.hid hsn
            have HO4 : Hid (OwnB w.heap.size (wr.alloc (.cells #[.int .u8 (n / 16777216)] 5)) u4 []) := (show OwnB w.heap.size wr u4 [] from HO.out).alloc _
            have HY4 : Hid (ByS (wr.alloc (.cells #[.int .u8 (n / 16777216)] 5)) (some ⟨wr.heap.size, 0, none⟩) [n / 16777216]) := ByS.ofBlk (t := 5) (r := []) (Blk.new wr 5 #[.int .u8 (n / 16777216)])
            have HB4 : Hid (Below w.heap.size w (wr.alloc (.cells #[.int .u8 (n / 16777216)] 5))) := HB.out.alloc HB.out.size _
            have l4 := HB4.out.size
            have K4 : ([] : List Int).length + [n / 16777216].length ≤ 1000000 := by simp <;> omega
            clear hx hsn HO HB hj hzj
            go_wp2_with (first | (at_builtin; refine wpList_app_bytes (v := u4) (xs := []) (p := some ⟨wr.heap.size, 0, none⟩) (ys := [n / 16777216]) (c := 1) rfl _ _ rfl w.heap.size rfl HO4.out rfl HY4.out K4 l4 ?_))
            intro v5 w5 o5 g5 _
            have HB5 := Lib.hid (own_below l4 HB4.out HO4.out g5)
            rw [← HSN.out] at o5
            have HO5 := Lib.hid o5
            clear o5 g5 K4 HO4 HY4 HB4
            go_wp2_with fail
            exact ⟨⟨1, 2, by omega, by omega, rfl, HO5, HB5⟩, by simp only [intOf]; omega⟩
          · obtain rfl : z = 2 := by omega
            have hx : (be 4 n)[1]? = some (n / 65536 % 256) := by have := be_get 4 n 1 (by decide); simpa using this
            have hsn : (be 4 n).take 2 = (be 4 n).take 1 ++ [n / 65536 % 256] := by rw [List.take_add_one, hx]; rfl
            have HSN := Lib.hid hsn
            have HO4 : Hid (OwnB w.heap.size (wr.alloc (.cells #[.int .u8 (n / 65536 % 256)] 5)) u4 ((be 4 n).take 1)) := HO.out.alloc _
            have HY4 : Hid (ByS (wr.alloc (.cells #[.int .u8 (n / 65536 % 256)] 5)) (some ⟨wr.heap.size, 0, none⟩) [n / 65536 % 256]) := ByS.ofBlk (t := 5) (r := []) (Blk.new wr 5 #[.int .u8 (n / 65536 % 256)])
            have HB4 : Hid (Below w.heap.size w (wr.alloc (.cells #[.int .u8 (n / 65536 % 256)] 5))) := HB.out.alloc HB.out.size _
            have l4 := HB4.out.size
            have K4 : ((be 4 n).take 1).length + [n / 65536 % 256].length ≤ 1000000 := by simp <;> omega
            clear hx hsn HO HB hj hzj
            go_wp2_with (first | (at_builtin; refine wpList_app_bytes (v := u4) (xs := (be 4 n).take 1) (p := some ⟨wr.heap.size, 0, none⟩) (ys := [n / 65536 % 256]) (c := 1) rfl _ _ rfl w.heap.size rfl HO4.out rfl HY4.out K4 l4 ?_))
            intro v5 w5 o5 g5 _
            have HB5 := Lib.hid (own_below l4 HB4.out HO4.out g5)
            rw [← HSN.out] at o5
            have HO5 := Lib.hid o5
            clear o5 g5 K4 HO4 HY4 HB4
            go_wp2_with fail
            exact ⟨⟨2, 1, by omega, by omega, rfl, HO5, HB5⟩, by simp only [intOf]; omega⟩
          · obtain rfl : z = 1 := by omega
            have hx : (be 4 n)[2]? = some (n / 256 % 256) := by have := be_get 4 n 2 (by decide); simpa using this
            have hsn : (be 4 n).take 3 = (be 4 n).take 2 ++ [n / 256 % 256] := by rw [List.take_add_one, hx]; rfl
            have HSN := Lib.hid hsn
            have HO4 : Hid (OwnB w.heap.size (wr.alloc (.cells #[.int .u8 (n / 256 % 256)] 5)) u4 ((be 4 n).take 2)) := HO.out.alloc _
            have HY4 : Hid (ByS (wr.alloc (.cells #[.int .u8 (n / 256 % 256)] 5)) (some ⟨wr.heap.size, 0, none⟩) [n / 256 % 256]) := ByS.ofBlk (t := 5) (r := []) (Blk.new wr 5 #[.int .u8 (n / 256 % 256)])
            have HB4 : Hid (Below w.heap.size w (wr.alloc (.cells #[.int .u8 (n / 256 % 256)] 5))) := HB.out.alloc HB.out.size _
            have l4 := HB4.out.size
            have K4 : ((be 4 n).take 2).length + [n / 256 % 256].length ≤ 1000000 := by simp <;> omega
            clear hx hsn HO HB hj hzj
            go_wp2_with (first | (at_builtin; refine wpList_app_bytes (v := u4) (xs := (be 4 n).take 2) (p := some ⟨wr.heap.size, 0, none⟩) (ys := [n / 256 % 256]) (c := 1) rfl _ _ rfl w.heap.size rfl HO4.out rfl HY4.out K4 l4 ?_))
            intro v5 w5 o5 g5 _
            have HB5 := Lib.hid (own_below l4 HB4.out HO4.out g5)
            rw [← HSN.out] at o5
            have HO5 := Lib.hid o5
            clear o5 g5 K4 HO4 HY4 HB4
            go_wp2_with fail
            exact ⟨⟨3, 0, by omega, by omega, rfl, HO5, HB5⟩, by simp only [intOf]; omega⟩
          · obtain rfl : z = 0 := by omega
            have hx : (be 4 n)[3]? = some (n % 256) := by have := be_get 4 n 3 (by decide); simpa using this
            have hsn : (be 4 n).take 4 = (be 4 n).take 3 ++ [n % 256] := by rw [List.take_add_one, hx]; rfl
            have HSN := Lib.hid hsn
            have HO4 : Hid (OwnB w.heap.size (wr.alloc (.cells #[.int .u8 (n % 256)] 5)) u4 ((be 4 n).take 3)) := HO.out.alloc _
            have HY4 : Hid (ByS (wr.alloc (.cells #[.int .u8 (n % 256)] 5)) (some ⟨wr.heap.size, 0, none⟩) [n % 256]) := ByS.ofBlk (t := 5) (r := []) (Blk.new wr 5 #[.int .u8 (n % 256)])
            have HB4 : Hid (Below w.heap.size w (wr.alloc (.cells #[.int .u8 (n % 256)] 5))) := HB.out.alloc HB.out.size _
            have l4 := HB4.out.size
            have K4 : ((be 4 n).take 3).length + [n % 256].length ≤ 1000000 := by simp <;> omega
            clear hx hsn HO HB hj hzj
            go_wp2_with (first | (at_builtin; refine wpList_app_bytes (v := u4) (xs := (be 4 n).take 3) (p := some ⟨wr.heap.size, 0, none⟩) (ys := [n % 256]) (c := 1) rfl _ _ rfl w.heap.size rfl HO4.out rfl HY4.out K4 l4 ?_))
            intro v5 w5 o5 g5 _
            have HB5 := Lib.hid (own_below l4 HB4.out HO4.out g5)
            rw [← HSN.out] at o5
            have HO5 := Lib.hid o5
            clear o5 g5 K4 HO4 HY4 HB4
            go_wp2_with fail
            exact ⟨⟨4, -1, by omega, by omega, rfl, HO5, HB5⟩, by simp only [intOf]; omega⟩
          · obtain rfl : z = -1 := by omega
            have hob := HO.out
            rw [List.take_of_length_le (by omega)] at hob
            have HO2 := Lib.hid hob
            clear hob hj hzj
            go_wp2_with fail
            rw [Exit.noGoto_ret]
            go_ret2
            exact ⟨_, rfl, HO2.out, HB.out⟩
  · have e0 : putNo n k = 2 := by unfold putNo; rw [if_pos hk]
    have e1 : putL n k = [] := by unfold putL; rw [e0]; rfl
    rw [decide_eq_false hk] at hW
    rw [e0, e1]
    have HW := Lib.hid hW
    clear hW e0 e1 hf
    go_enter Tryd.func56, Tryd.ntmps56
    go_wp2_with fail
    refine wp_scope_fwd 0 rfl ?_
    go_wp2_with fail
    refine HW.out.mono ?_
    rintro e w' ⟨rfl, rfl⟩
    go_wp2_with fail
    go_step3
    refine ⟨rfl, ?_⟩
    go_wp2_with fail
    rw [Exit.noGoto_ret]
    go_ret2
    exact ⟨_, rfl, World.ownsRow_nil _ _ _ _, Below.refl _ _⟩
theorem oput_c : PutC 56 := fun n k w h0 h1 hf => (oput_any n k w h0 h1 hf).mono fun e w' ⟨v, he, ho, hb⟩ => by
  obtain ⟨p, c, rfl, hc, hq, _⟩ := ho.byS
  exact ⟨p, c, he, hc, hq, hb⟩

theorem append_types {P : Program} {t1 t2 t e ty : TypeId} (h1 : P.underlying t1 = some (.slice e)) (h2 : P.underlying t2 = some (.slice e)) (h : P.underlying t = some (.slice e)) (v u : Value) (w : World) :
    (Builtin.append_ #[t1, t2] ty #[v, u]).run P w = (Builtin.append_ #[t, t] ty #[v, u]).run P w := by
  cases v <;> simp [Builtin.append_, run_underlying h1, run_underlying h2, run_underlying h, Sem.run_bind]

theorem wpList_append_run2 {P : Program} (w : World) {ops : Array Oper} {rest : List Oper} {o : Oper} {a : Act} {Q : Exit → Act → World → Prop} (hgd : o.guard = none) (s x : Operand) (t1 t2 : TypeId)
    (ho : o.op = .call { callee := .builtin .append, args := #[s, x], argTypes := #[t1, t2] }) (v u : Value) (hs : a.eval s = v) (hx : a.eval x = u) {v' : Value} {w' : World}
    (hr : (Builtin.append_ #[t1, t2] o.type #[v, u]).run P w = .ok v' w') (h : wpList P ops Q rest (a.put o.dst v') w') : wpList P ops Q (o :: rest) a w :=
  wpList_plain hgd fun K hK => by
    unfold Oper.wp execOp
    simp only [ho, resolve, invoke, builtin, Sem.run_bind, Sem.run_pure, Result.andThen_ok, List.map_toArray, List.map_cons, List.map_nil, hs, hx, hr]
    exact hK _ _ h

theorem wpList_app_bytes2 (t1 t2 : TypeId) (ht1 : Tryd.prog.underlying t1 = some (.slice 5)) (ht2 : Tryd.prog.underlying t2 = some (.slice 5)) {ops : Array Oper} {rest : List Oper} {o : Oper} {a : Act} {Q : Exit → Act → World → Prop} (hgd : o.guard = none) (s x : Operand)
    (ho : o.op = .call { callee := .builtin .append, args := #[s, x], argTypes := #[t1, t2] }) (base : Nat) {w : World} {v : Value} {xs : List Int} (hs : a.eval s = v) (hown : OwnB base w v xs)
    {p : Option Addr} {ys : List Int} {c : Nat} (hx : a.eval x = .slice p ys.length c) (hy : ByS w p ys) (hn : xs.length + ys.length ≤ 1000000) (hbase : base ≤ w.heap.size)
    (h : ∀ v' w', OwnB base w' v' (xs ++ ys) → w.grownBy w' v.ownBlock → (v' = .slice none 0 0 ↔ v = .slice none 0 0 ∧ ys.length = 0) → wpList Tryd.prog ops Q rest (a.put o.dst v') w') : wpList Tryd.prog ops Q (o :: rest) a w := by
  obtain ⟨v', w', hr, h1, h2, h3⟩ := app_bytes base o.type hown hy c hn hbase
  rw [← append_types ht1 ht2 Tryd.underlying27] at hr
  exact wpList_append_run2 w hgd s x t1 t2 ho v _ hs hx hr (h v' w' h1 h2 h3)
end Go.Proofs.YtehhablobfaplaaDoor

namespace Go.Proofs.YtehhablobfaplaaDoor
open Go Go.RowKit Go.Sort
attribute [local go_sem] Oper.semAt_some
attribute [local irreducible] wpQuiet

/-- A reader: its bytes lie in a block of its own, its place is told; both lie from base on. -/
def Rd3 (base : Nat) (w : World) (r : Nat) (xs : List Int) (a : Nat) : Prop := ∃ b c, Blk w r 111 #[.slice (some ⟨b, 0, none⟩) xs.length c, .int .i64 a] ∧ b < r ∧ b < w.heap.size ∧ xs.length ≤ c ∧ xs.length ≤ 1000000 ∧ IsBytes xs ∧ ByS w (some ⟨b, 0, none⟩) xs ∧ base ≤ b ∧ base ≤ r
theorem Rd3.keep {base : Nat} {w w' : World} {r : Nat} {xs : List Int} {a : Nat} (h : Rd3 base w r xs a) (hb : Below w.heap.size w w') : Rd3 base w' r xs a := by
  obtain ⟨b, c, h1, h2, h3, h4, h5, h6, h7, h8⟩ := h
  exact ⟨b, c, h1.below hb h1.lt, h2, by have := hb.size; omega, h4, h5, h6, h7.below hb, h8⟩
theorem Rd3.lt {base : Nat} {w : World} {r : Nat} {xs : List Int} {a : Nat} (h : Rd3 base w r xs a) : r < w.heap.size := by
  obtain ⟨b, c, h1, _⟩ := h
  exact h1.lt
theorem Rd3.ge {base : Nat} {w : World} {r : Nat} {xs : List Int} {a : Nat} (h : Rd3 base w r xs a) : base ≤ r := by
  obtain ⟨b, c, _, _, _, _, _, _, _, _, h9⟩ := h
  exact h9
theorem Rd3.mono {base base' : Nat} {w : World} {r : Nat} {xs : List Int} {a : Nat} (h : Rd3 base w r xs a) (hb : base' ≤ base) : Rd3 base' w r xs a := by
  obtain ⟨b, c, h1, h2, h3, h4, h5, h6, h7, h8, h9⟩ := h
  exact ⟨b, c, h1, h2, h3, h4, h5, h6, h7, by omega, by omega⟩
/-- A block ahead of it is turned. -/
theorem Rd3.other {base : Nat} {w w' : World} {r : Nat} {xs : List Int} {a : Nat} (h : Rd3 base w r xs a) {g : Nat} (hg : w.grownBy w' (some g)) (hgb : g < base) : Rd3 base w' r xs a := by
  obtain ⟨b, c, h1, h2, h3, h4, h5, h6, h7, h8, h9⟩ := h
  refine ⟨b, c, h1.grown hg (by simp; omega), h2, by have := hg.size; omega, h4, h5, h6, fun hn => ?_, h8, h9⟩
  obtain ⟨b', o', e, hl, hc⟩ := h7 hn
  cases e
  refine ⟨b, 0, rfl, by have := hg.size; omega, fun i hi => ?_⟩
  rw [hg.cell_far _ (by simpa using hl) (by simp; omega)]
  exact hc i hi
/-- The place moves on. -/
theorem Rd3.move {base : Nat} {w : World} {r : Nat} {xs : List Int} {a : Nat} (h : Rd3 base w r xs a) (z : Nat) : Rd3 base (w.setCell ⟨r, 1, none⟩ (.int .i64 z)) r xs z := by
  obtain ⟨b, c, h1, h2, h3, h4, h5, h6, h7, h8⟩ := h
  refine ⟨b, c, by simpa using h1.set_ 1 (.int .i64 z), h2, by simpa using h3, h4, h5, h6, fun hn => ?_, h8⟩
  obtain ⟨b', o', e, hl, hc⟩ := h7 hn
  cases e
  refine ⟨b, 0, rfl, by simpa using hl, fun i hi => ?_⟩
  rw [World.cell?_setCell_far _ _ _ _ (show r ≠ b by omega)]
  exact hc i hi
/-- A block behind it is turned. -/
theorem Rd3.far {base : Nat} {w : World} {r : Nat} {xs : List Int} {a : Nat} (h : Rd3 base w r xs a) (p : Addr) (v : Value) (hp : r < p.block) : Rd3 base (w.setCell p v) r xs a := by
  obtain ⟨b, c, h1, h2, h3, h4, h5, h6, h7, h8⟩ := h
  refine ⟨b, c, h1.far (by omega) v, h2, by simpa using h3, h4, h5, h6, fun hn => ?_, h8⟩
  obtain ⟨b', o', e, hl, hc⟩ := h7 hn
  cases e
  refine ⟨b, 0, rfl, by simpa using hl, fun i hi => ?_⟩
  rw [World.cell?_setCell_far _ _ _ _ (show p.block ≠ b by omega)]
  exact hc i hi

theorem undO : Tryd.prog.underlying 109 = some (.slice 5) := by kernel_rfl
set_option maxRecDepth 100000 in
set_option maxHeartbeats 1600000 in
theorem new3_any (p : Option Addr) (c : Nat) (xs : List Int) (w : World) (hb : IsBytes xs) (hn : xs.length ≤ 1000000) (hx : ByS w p xs) :
    Calls Tryd.prog 69 #[.slice p xs.length c] w fun e w' => ∃ r, e = .returned (.pointer (some ⟨r, 0, none⟩)) ∧ Rd3 w.heap.size w' r xs 0 ∧ w.heap.size ≤ r ∧ Below w.heap.size w w' := by
  have HE : OwnB w.heap.size (w.alloc (.cells #[] 5)) (.slice (some ⟨w.heap.size, 0, none⟩) 0 0) [] := World.ownsRow_made w #[] 0 (Nat.le_refl _) (Nat.zero_le _) (by simp)
  have HW0 : Below w.heap.size w (w.alloc (.cells #[] 5)) := (Below.refl _ _).alloc (Nat.le_refl _) _
  have K1 : ([] : List Int).length + xs.length ≤ 1000000 := by simpa using hn
  have HY := Lib.hid (hx.below HW0)
  have HB := Lib.hid hb
  have HHE := Lib.hid HE
  have HHW := Lib.hid HW0
  clear hx hb HE HW0
  go_enter Tryd.func69, Tryd.ntmps69
  go_wp2_with (first | (at_builtin; refine wpList_app_bytes2 109 27 undO Tryd.underlying27 (v := .slice (some ⟨w.heap.size, 0, none⟩) 0 0) (xs := []) (p := p) (ys := xs) (c := c) rfl _ _ rfl w.heap.size rfl HHE.out rfl HY.out K1 (by simp) ?_))
  intro v2 w2 o2 g2 n2
  have hb2 := own_below (by simp) HHW.out HHE.out g2
  have hne : v2 ≠ .slice none 0 0 := n2
  obtain ⟨g, cap, cur, rfl, hg1, hg2, hg3, hg4⟩ : ∃ g cap cur, v2 = .slice (some ⟨g, 0, none⟩) xs.length cap ∧ w.heap.size ≤ g ∧ w2.heap[g]? = some (.cells cur 5 (0, 0)) ∧ xs.length ≤ cap ∧ cur.toList.take (xs.length * 1) = xs.map (Value.int .u8) := by
    rcases o2.2 with ⟨e, _⟩ | ⟨g, cap, cur, e, hb, hg, hc, hm, hs, ht⟩
    · exact absurd e hne
    · exact ⟨g, cap, cur, e, hb, hg, hc, ht⟩
  obtain ⟨p', c', he', hc', hy', _⟩ := o2.byS
  cases he'
  have hgl : g < w2.heap.size := (Array.getElem?_eq_some_iff.1 hg2).1
  have HY2 := Lib.hid hy'
  have HB2 := Lib.hid hb2
  clear o2 g2 n2 hb2 hne hg2 hg4 hy' HHE HHW HY
  go_wp2_with fail
  go_ret
  refine ⟨w2.heap.size, rfl, ⟨g, cap, by simpa using Blk.new w2 111 #[.slice (some ⟨g, 0, none⟩) xs.length cap, .int .i64 0], by omega, by simp; omega, hg3, hn, HB.out, HY2.out.below ((Below.refl _ w2).alloc (Nat.le_refl _) _), hg1, HB2.out.size⟩, HB2.out.size, HB2.out.alloc HB2.out.size _⟩

theorem eqO (a : Addr) (n c : Nat) (w : World) : (binOp .eql 109 (.slice (some a) n c) (.slice none 0 0)).run Tryd.prog w = .ok (.bool false) w := by kernel_rfl

set_option maxRecDepth 100000 in
theorem none3_any {base : Nat} (w : World) (r : Nat) (xs : List Int) (a : Nat) (h : Rd3 base w r xs a) :
    Calls Tryd.prog 78 #[.pointer (some ⟨r, 0, none⟩)] w fun e w' => e = .returned (.bool false) ∧ w = w' := by
  obtain ⟨b, c, h1, _⟩ := h
  have c0 := h1.cell 0
  simp only [List.getElem?_toArray, List.getElem?_cons_zero] at c0
  have hq := eqO ⟨b, 0, none⟩ xs.length c
  clear h1
  go_enter Tryd.func78, Tryd.ntmps78
  go_wp2_with fail
  go_ret
  exact ⟨rfl, rfl⟩
set_option maxRecDepth 100000 in
theorem none3_nil (w : World) :
    Calls Tryd.prog 78 #[.pointer none] w fun e w' => e = .returned (.bool true) ∧ w = w' := by
  go_enter Tryd.func78, Tryd.ntmps78
  go_wp2_with fail
  go_ret
  exact ⟨rfl, rfl⟩

theorem grown_trans {a w w' : World} {row : Option Nat} (h : a.grownBy w row) (k : w.grownBy w' row) : a.grownBy w' row :=
  ⟨k.os.trans h.os, k.tape.trans h.tape, k.output.trans h.output, Nat.le_trans h.size k.size, fun i hi hne => (k.block i (Nat.lt_of_lt_of_le hi h.size) hne).trans (h.block i hi hne)⟩
/-- Nothing that a drawn region allocates comes near. -/
theorem Rd3.regrown {base : Nat} {w : World} {r : Nat} {xs : List Int} {a : Nat} (h : Rd3 base w r xs a) (d : Nat) (os : Array Obj) : Rd3 base (grow (redrawn w d) os) r xs a := h.keep (below_regrown w d os)

set_option maxRecDepth 100000 in
set_option maxHeartbeats 1600000 in
theorem take3_any {base : Nat} (w : World) (r : Nat) (xs : List Int) (a : Nat) (k : Int) (h : Rd3 base w r xs a) (ha : a ≤ xs.length) (hf : Fit3 w) :
    Calls Tryd.prog 76 #[.pointer (some ⟨r, 0, none⟩), .int .i64 k] w fun e w' => e = .returned (.tuple #[.int .u32 (readN xs a k), .int .i64 (readNo xs a k)]) ∧ Rd3 base w' r xs (if readNo xs a k = 0 then a + k.toNat else a) ∧ w.grownBy w' (some r) := by
  have HN := Lib.hid (none3_any w r xs a h)
  have HH := Lib.hid h
  obtain ⟨b, c, h1, h2, h3, h4, h5, h6, h7, _⟩ := h
  have c0 := h1.cell 0
  have c1 := h1.cell 1
  have f1 := h1.frozen 1
  simp only [List.getElem?_toArray, List.getElem?_cons_zero, List.getElem?_cons_succ] at c0 c1
  have hrd := fun W (hW : ByS W (some ⟨b, 0, none⟩) xs) (hF : Fit3 W) => read_any (some ⟨b, 0, none⟩) c xs h6 h5 h4 a k (by omega) W hW hF
  have hbd : readNo xs a k = 0 → 1 ≤ k ∧ k ≤ 4 ∧ a + k ≤ xs.length := fun hz => by
    have hk : W3 k := Classical.byContradiction fun hw => by unfold readNo at hz; rw [if_pos hw] at hz; cases hz
    obtain ⟨q, m, e1, rfl, hm, hq, _⟩ := read_put h6 hz
    omega
  have k0 := cell_regrown c0
  have k1 := cell_regrown c1
  have hv0 : readNo xs a k ≠ 0 → readN xs a k = 0 := fun hz => if_neg hz
  generalize readN xs a k = v at *
  generalize readNo xs a k = no at *
  have cR : ∀ d os, Calls Tryd.prog 77 #[.slice (some ⟨b, 0, none⟩) xs.length c, .int .i64 a, .int .i64 k] (grow (redrawn w d) os) fun e w'' => e = .returned (.tuple #[.int .u32 v, .int .i64 no]) ∧ ∃ p : Regrown, w'' = grow (redrawn w p.d) p.os :=
    fun d os => Calls.regrown_of ((hrd _ (h7.below (below_regrown w d os)) (hf.below (below_regrown w d os))).mono fun _ _ ⟨he, hw⟩ => ⟨he, by subst hw; exact Below.refl _ _⟩)
  clear hrd h1 h2 h3 h4 h5 h6 h7 hf c0 c1 f1
  by_cases hz : no = 0
  · subst hz
    simp only [if_true]
    obtain ⟨b1, b2, b3⟩ := hbd rfl
    clear hbd hv0
    go_enter Tryd.func76, Tryd.ntmps76
    go_wp2_with fail
    refine wp_scope_straight ?_
    go_wp2_with fail
    refine HN.out.mono ?_
    rintro e w' ⟨rfl, rfl⟩
    clear HN
    go_wp2_with fail
    refine wp_region_quiet_below (by kernel_rfl) (by kernel_rfl) ?_
    repeat (quiet_step (first | (with_reducible exact cR _ _)))
    refine wpQuiet_nil ?_
    intro wq hwq
    obtain ⟨⟨dq, osq⟩, rfl⟩ := hwq
    have hb := below_regrown w dq osq
    have HR := HH.out.regrown dq osq
    have HW := Lib.hid hb
    clear cR k0 k1 hb HH
    generalize grow (redrawn w dq) osq = w9 at *
    have HR9 := Lib.hid HR
    obtain ⟨b', c', h1, _⟩ := HR
    have c1 := h1.cell 1
    have f1 := h1.frozen 1
    simp only [List.getElem?_toArray, List.getElem?_cons_zero, List.getElem?_cons_succ] at c1
    clear h1
    go_wp2_with fail
    have hw : (a : Int) + k = ((a + k.toNat : Nat) : Int) := by omega
    rw [Exit.noGoto_ret, hw]
    go_ret2
    exact ⟨rfl, HR9.out.move _, grown_trans (grown_below HW.out _) (grown_set _ _ _ _)⟩
  · simp only [if_neg hz]
    have hzb : (no != 0) = true := by simpa using hz
    obtain rfl := hv0 hz
    clear hbd hv0
    go_enter Tryd.func76, Tryd.ntmps76
    go_wp2_with fail
    refine wp_scope_fwd 0 rfl ?_
    go_wp2_with fail
    refine HN.out.mono ?_
    rintro e w' ⟨rfl, rfl⟩
    clear HN
    go_wp2_with fail
    refine wp_region_quiet_below (by kernel_rfl) (by kernel_rfl) ?_
    repeat (quiet_step (first | (with_reducible exact cR _ _)))
    refine wpQuiet_nil ?_
    intro wq hwq
    obtain ⟨⟨dq, osq⟩, rfl⟩ := hwq
    have hb := below_regrown w dq osq
    have HR := Lib.hid (HH.out.regrown dq osq)
    have HW := Lib.hid hb
    clear cR k0 k1 hb HH
    generalize grow (redrawn w dq) osq = w9 at *
    go_wp2_with fail
    go_step3
    refine ⟨rfl, ?_⟩
    go_wp2_with fail
    rw [Exit.noGoto_ret]
    go_ret2
    exact ⟨rfl, HR.out, grown_below HW.out _⟩

theorem cutNo_skip {n a : Nat} {k : Int} : cutNo n a k = skipNo ((n : Int) - a) k := by
  unfold cutNo skipNo
  by_cases hk : k < 0
  · rw [if_pos (show (a : Int) < 0 ∨ k < 0 from .inr hk), if_pos hk]
  · rw [if_neg (show ¬ ((a : Int) < 0 ∨ k < 0) by omega), if_neg hk]

/-- Of no reader. -/
theorem nil3_take (k : Int) (w : World) : Calls Tryd.prog 76 #[.pointer none, .int .i64 k] w fun e w' => e = .returned (.tuple #[.int .u32 0, .int .i64 1]) ∧ w = w' := by
  have HN := Lib.hid (none3_nil w)
  go_enter Tryd.func76, Tryd.ntmps76
  go_wp2_with fail
  refine wp_scope_fwd 0 rfl ?_
  go_wp2_with fail
  refine HN.out.mono ?_
  rintro e w' ⟨rfl, rfl⟩
  go_wp2_with fail
  go_step3
  refine ⟨rfl, ?_⟩
  go_wp2_with fail
  rw [Exit.noGoto_ret]
  go_ret2
  exact ⟨rfl, rfl⟩
end Go.Proofs.YtehhablobfaplaaDoor
