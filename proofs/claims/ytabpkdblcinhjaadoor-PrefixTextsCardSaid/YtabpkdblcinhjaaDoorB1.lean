/- Contracts of layer 1's reference: number, Head, Parse. -/
import Derived.Test.YtabpkdblcinhjaaDoorA1
namespace Go.Proofs.YtabpkdblcinhjaaDoor
open Go Go.RowKit

/-- The number with which bytes go on, behind n of m digits: it, and how many digits it has then. -/
def numFrom : List UInt8 → Int → Nat → Int × Nat
  | [], n, m => (n, m)
  | c :: r, n, m => if (48 ≤ (c.toNat : Int) ∧ (c.toNat : Int) ≤ 57) ∧ ¬ ((0 < m ∧ n = 0) ∨ 255 < 10 * n + ((c.toNat : Int) - 48)) then numFrom r (10 * n + ((c.toNat : Int) - 48)) (m + 1) else (n, m)

theorem numFrom_stop {c : UInt8} {r : List UInt8} {n : Int} {m : Nat} (h : ¬ ((48 ≤ (c.toNat : Int) ∧ (c.toNat : Int) ≤ 57) ∧ ¬ ((0 < m ∧ n = 0) ∨ 255 < 10 * n + ((c.toNat : Int) - 48)))) : numFrom (c :: r) n m = (n, m) := by
  rw [numFrom, if_neg h]
theorem numFrom_go {c : UInt8} {r : List UInt8} {n : Int} {m : Nat} (h : (48 ≤ (c.toNat : Int) ∧ (c.toNat : Int) ≤ 57) ∧ ¬ ((0 < m ∧ n = 0) ∨ 255 < 10 * n + ((c.toNat : Int) - 48))) : numFrom (c :: r) n m = numFrom r (10 * n + ((c.toNat : Int) - 48)) (m + 1) := by
  rw [numFrom, if_pos h]

def numEnd (x : Int × Nat) : Ending := .returned (.tuple #[.int .i64 x.1, .int .i64 x.2])

set_option maxRecDepth 100000 in
set_option maxHeartbeats 1600000 in
theorem number_any (s : ByteArray) (at_ : Nat) (ha : at_ ≤ s.size) (hs : s.size ≤ maxLen) (w : World) :
    Calls Tryd.prog 34 #[.string s, .int .i64 at_, .int .i64 255] w fun e w' => e = numEnd (numFrom (s.data.toList.drop at_) 0 0) ∧ w = w' := by
  unfold maxLen at hs
  go_enter Tryd.func34, Tryd.ntmps34
  go_wp2_with fail
  go_loop [8, 9] (fun n i => ∃ (k : Nat) (v : Int), at_ + k ≤ s.size ∧ i = .int .i64 k ∧ n = .int .i64 v ∧ 0 ≤ v ∧ v ≤ 255 ∧ Hid (numFrom (s.data.toList.drop at_) 0 0 = numFrom (s.data.toList.drop (at_ + k)) v k)) (fun _ i => s.size - (intOf i).toNat)
  case atStart => exact ⟨0, 0, ha, rfl, rfl, by omega, by omega, rfl⟩
  case round =>
    obtain ⟨k, v, hk, rfl, rfl, hv0, hv1, HN⟩ := hrel
    by_cases hlt : at_ + k < s.size
    · have hdrop : s.data.toList.drop (at_ + k) = (s[at_ + k]'hlt) :: s.data.toList.drop (at_ + k + 1) := by
        rw [List.drop_eq_getElem_cons (by simpa using hlt)]
        rfl
      have hN := HN.out
      rw [hdrop] at hN
      have hc : ((s[at_ + k]'hlt).toNat : Int) < 256 := by have := (s[at_ + k]'hlt).toNat_lt; omega
      by_cases h48 : 48 ≤ ((s[at_ + k]'hlt).toNat : Int)
      · by_cases h57 : ((s[at_ + k]'hlt).toNat : Int) ≤ 57
        · by_cases h0 : 0 < (k : Int)
          · have hkn : 0 < k := by omega
            by_cases hv : v = 0
            · have hvb : (v == 0) = true := by simpa using hv
              rw [numFrom_stop (fun x => x.2 (.inl ⟨hkn, hv⟩))] at hN
              have HN2 := Lib.hid hN
              clear hN hdrop HN hv
              go_wp2
              go_ret2
              exact ⟨by rw [HN2.out]; rfl, rfl⟩
            · have hvb : (v == 0) = false := by simpa using hv
              by_cases hbig : 255 < 10 * v + (((s[at_ + k]'hlt).toNat : Int) - 48)
              · rw [numFrom_stop (fun x => x.2 (.inr hbig))] at hN
                have HN2 := Lib.hid hN
                clear hN hdrop HN hv
                go_wp2
                go_ret2
                exact ⟨by rw [HN2.out]; rfl, rfl⟩
              · rw [numFrom_go ⟨⟨h48, h57⟩, fun x => x.elim (fun y => hv y.2) hbig⟩] at hN
                have hN2 : numFrom (s.data.toList.drop at_) 0 0 = numFrom (s.data.toList.drop (at_ + (k + 1))) (10 * v + (((s[at_ + k]'hlt).toNat : Int) - 48)) (k + 1) := hN
                have HN2 := Lib.hid hN2
                clear hN hN2 hdrop HN hv
                go_wp2
                go_round
                case rel => exact ⟨k + 1, 10 * v + (((s[at_ + k]'hlt).toNat : Int) - 48), by omega, by go_num, by go_num, by omega, by omega, HN2⟩
                case measure => simp [intOf]; omega
          · have hkn : ¬ 0 < k := by omega
            by_cases hbig : 255 < 10 * v + (((s[at_ + k]'hlt).toNat : Int) - 48)
            · rw [numFrom_stop (fun x => x.2 (.inr hbig))] at hN
              have HN2 := Lib.hid hN
              clear hN hdrop HN
              go_wp2
              go_ret2
              exact ⟨by rw [HN2.out]; rfl, rfl⟩
            · rw [numFrom_go ⟨⟨h48, h57⟩, fun x => x.elim (fun y => hkn y.1) hbig⟩] at hN
              have hN2 : numFrom (s.data.toList.drop at_) 0 0 = numFrom (s.data.toList.drop (at_ + (k + 1))) (10 * v + (((s[at_ + k]'hlt).toNat : Int) - 48)) (k + 1) := hN
              have HN2 := Lib.hid hN2
              clear hN hN2 hdrop HN
              go_wp2
              go_round
              case rel => exact ⟨k + 1, 10 * v + (((s[at_ + k]'hlt).toNat : Int) - 48), by omega, by go_num, by go_num, by omega, by omega, HN2⟩
              case measure => simp [intOf]; omega
        · rw [numFrom_stop (fun x => h57 x.1.2)] at hN
          have HN2 := Lib.hid hN
          clear hN hdrop HN
          go_wp2
          go_ret2
          exact ⟨by rw [HN2.out]; rfl, rfl⟩
      · rw [numFrom_stop (fun x => h48 x.1.1)] at hN
        have HN2 := Lib.hid hN
        clear hN hdrop HN
        go_wp2
        go_ret2
        exact ⟨by rw [HN2.out]; rfl, rfl⟩
    · have hke : at_ + k = s.size := by omega
      have hd : s.data.toList.drop (at_ + k) = [] := List.drop_of_length_le (by simp; omega)
      have hN := HN.out
      rw [hd] at hN
      have HN2 := Lib.hid hN
      clear hN hd HN
      go_wp2
      go_ret2
      exact ⟨by rw [HN2.out]; rfl, rfl⟩
end Go.Proofs.YtabpkdblcinhjaaDoor
