/- Layer 4's program: isShort, put, join. -/
import Derived.Test.YtehhablobfaplaaDoorN2
import Derived.Test.YtehhablobfaplaaDoorW5
namespace Go.Proofs.YtehhablobfaplaaDoor
open Go Go.RowKit
attribute [local go_sem] Oper.semAt_some

def shortB (n : Int) : Bool := decide (0 ≤ n) && decide (n < 65536)
theorem rightE_short (e : Ent) : decide (rightE e) = (shortB e.f && shortB e.t) := by
  rw [Bool.eq_iff_iff, decide_eq_true_iff]
  unfold rightE shortB
  simp
  omega
set_option maxHeartbeats 400000 in
theorem short_any (n : Int) (w : World) :
    Calls Tryd.prog 46 #[.int .i64 n] w fun e w' => e = .returned (.bool (shortB n)) ∧ w = w' := by
  unfold shortB
  by_cases h : 0 ≤ n
  · have hd : decide (0 ≤ n) = true := decide_eq_true h
    rw [hd, Bool.true_and]
    go_enter Tryd.func46, Tryd.ntmps46
    go_wp2_with fail
    go_ret
    exact ⟨rfl, rfl⟩
  · have hd : decide (0 ≤ n) = false := decide_eq_false h
    rw [hd, Bool.false_and]
    go_enter Tryd.func46, Tryd.ntmps46
    go_wp2_with fail
    go_ret
    exact ⟨rfl, rfl⟩

theorem put_be {n : Int} {k : Nat} (hk : k = 1 ∨ k = 2 ∨ k = 4) (h0 : 0 ≤ n) (h1 : n < 256 ^ k) : putNo n k = 0 ∧ putL n k = be k n := by
  have hz : putNo n k = 0 := by
    unfold putNo
    rw [if_neg (by rcases hk with rfl | rfl | rfl <;> simp [W3]), Int.toNat_natCast, Int.ediv_eq_zero_of_lt h0 h1]
    rfl
  exact ⟨hz, by unfold putL; rw [if_pos hz, Int.toNat_natCast]⟩

set_option maxHeartbeats 800000 in
theorem put4_any (n : Int) (k : Nat) (hk : k = 1 ∨ k = 2 ∨ k = 4) (h0 : 0 ≤ n) (h1 : n < 256 ^ k) (h2 : n < 4294967296) (w : World) (hf : Fit3 w) :
    Calls Tryd.prog 48 #[.int .u32 n, .int .i64 k] w fun e w' => ∃ p c, e = .returned (.slice p k c) ∧ k ≤ c ∧ ByS w' p (be k n) ∧ Below w.heap.size w w' := by
  have hp := oput_c n k w h0 h2 hf
  obtain ⟨e1, e2⟩ := put_be hk h0 h1
  rw [e1, e2, be_length] at hp
  have HP := Lib.hid hp
  clear hp e1 e2 h0 h1 h2 hk
  go_enter Tryd.func48, Tryd.ntmps48
  go_wp2_with fail
  refine HP.out.mono ?_
  rintro e w' ⟨p, c, rfl, hc, hq, hb⟩
  have HQ := Lib.hid hq
  have HB := Lib.hid hb
  clear hq hb HP
  go_wp2_with fail
  go_ret
  exact ⟨p, c, rfl, hc, HQ.out, HB.out⟩

/-- Lists that lie somewhere, one beside the other. -/
structure Lst where
  p : Option Addr
  c : Nat
  l : List Int
def flatL (ls : List Lst) : List Int := ls.flatMap Lst.l
theorem flatL_snoc (ls : List Lst) (x : Lst) : flatL (ls ++ [x]) = flatL ls ++ x.l := by simp [flatL]
theorem flatL_le (ls : List Lst) (j : Nat) : (flatL (ls.take j)).length ≤ (flatL ls).length := by
  conv => rhs; rw [← List.take_append_drop j ls]
  unfold flatL
  rw [List.flatMap_append, List.length_append]
  omega
theorem flatL_next (ls : List Lst) {j : Nat} (h : j < ls.length) : flatL (ls.take (j + 1)) = flatL (ls.take j) ++ (ls[j]'h).l := by
  rw [List.take_add_one, List.getElem?_eq_getElem h]
  exact flatL_snoc _ _

set_option maxRecDepth 100000 in
set_option maxHeartbeats 1600000 in
theorem join_any (b : Nat) (ls : List Lst) (cap : Nat) (w : World) (hn : (flatL ls).length ≤ 1000000) (hm : ls.length ≤ 1000) (hbl : b < w.heap.size)
    (hc : ∀ j (h : j < ls.length), w.cell? ⟨b, j, none⟩ = some (.slice (ls[j]'h).p (ls[j]'h).l.length (ls[j]'h).c)) (hy : ∀ j (h : j < ls.length), ByS w (ls[j]'h).p (ls[j]'h).l) :
    Calls Tryd.prog 47 #[.slice (some ⟨b, 0, none⟩) ls.length cap] w fun e w' => ∃ v, e = .returned v ∧ OwnB w.heap.size w' v (flatL ls) ∧ Below w.heap.size w w' := by
  have HC := Lib.hid hc
  have HY := Lib.hid hy
  have HN := Lib.hid hn
  clear hc hy hn
  go_enter Tryd.func47, Tryd.ntmps47
  go_wp2_with fail
  go_loopw [3, 8] (fun v i wr => ∃ j : Nat, j ≤ ls.length ∧ i = .int .i64 j ∧ Hid (OwnB w.heap.size wr v (flatL (ls.take j))) ∧ Hid (Below w.heap.size w wr)) (fun _ i _ => ls.length - (intOf i).toNat)
  case atStart => exact ⟨0, by omega, rfl, World.ownsRow_nil _ _ _ _, Below.refl _ _⟩
  case round =>
    obtain ⟨j, hj, rfl, HO, HB⟩ := hrel
    by_cases hjl : j < ls.length
    · have c0 := (HB.out.cell (p := ⟨b, j, none⟩) hbl).trans (HC.out j hjl)
      have hq := (HY.out j hjl).below HB.out
      have hnx := flatL_next ls hjl
      have hle := flatL_le ls (j + 1)
      have hnn := HN.out
      have hlen : (flatL (ls.take j)).length + (ls[j]'hjl).l.length ≤ 1000000 := by rw [hnx, List.length_append] at hle; omega
      generalize (ls[j]'hjl) = x at *
      obtain ⟨p, c, l⟩ := x
      dsimp only at *
      have HX := Lib.hid hnx
      have HQ := Lib.hid hq
      have K1 := Lib.hid hlen
      have l3 := HB.out.size
      have jz : (j : Int) < (ls.length : Int) := by omega
      clear hnx hq hle hnn hlen
      go_wp2_with (first | (at_builtin; refine wpList_app_bytes (v := u3) (xs := flatL (ls.take j)) (p := p) (ys := l) (c := c) rfl _ _ rfl w.heap.size rfl HO.out rfl HQ.out K1.out l3 ?_))
      intro v4 w4 o4 g4 _
      have HB4 := Lib.hid (own_below l3 HB.out HO.out g4)
      have HO4 : Hid (OwnB w.heap.size w4 v4 (flatL (ls.take (j + 1)))) := by rw [HX.out]; exact o4
      clear o4 g4 HO HB HQ K1 l3 c0
      go_wp2_with fail
      exact ⟨⟨j + 1, by omega, by simp, HO4, HB4⟩, by simp only [intOf]; omega⟩
    · have hje : j = ls.length := by omega
      subst hje
      have jz : ¬ (ls.length : Int) < (ls.length : Int) := by omega
      have ho := HO.out
      rw [List.take_length] at ho
      have HO2 := Lib.hid ho
      clear ho HO
      go_wp2_with fail
      go_ret
      exact ⟨_, rfl, HO2.out, HB.out⟩
end Go.Proofs.YtehhablobfaplaaDoor
