/- Contracts of layer 1's reference: Head and Parse. -/
import Derived.Test.YtabpkdblcinhjaaDoorB1
namespace Go.Proofs.YtabpkdblcinhjaaDoor
open Go Go.RowKit

/-- What Head tells of bytes where a part is to begin: so many parts are to come, n is of the parts behind, the place. -/
def headFrom : Nat → Int → List UInt8 → Nat → Int × Nat × Bool
  | 0, n, _, i => (n, i, true)
  | r + 1, n, l, i =>
    if (numFrom l 0 0).2 = 0 then (0, i, false)
    else if r = 0 then (256 * n + (numFrom l 0 0).1, i + (numFrom l 0 0).2, true)
    else match l.drop (numFrom l 0 0).2 with
      | [] => (0, i + (numFrom l 0 0).2, false)
      | c :: l' => if (c.toNat : Int) = 46 then headFrom r (256 * n + (numFrom l 0 0).1) l' (i + (numFrom l 0 0).2 + 1) else (0, i + (numFrom l 0 0).2, false)

/-- Behind a part. -/
def behind (r : Nat) (n : Int) (l : List UInt8) (i : Nat) : Int × Nat × Bool :=
  if r = 0 then (n, i, true)
  else match l with
    | [] => (0, i, false)
    | c :: l' => if (c.toNat : Int) = 46 then headFrom r n l' (i + 1) else (0, i, false)

theorem headFrom_none {r : Nat} {n : Int} {l : List UInt8} {i : Nat} (h : (numFrom l 0 0).2 = 0) : headFrom (r + 1) n l i = (0, i, false) := by
  rw [headFrom, if_pos h]
theorem headFrom_some {r : Nat} {n : Int} {l : List UInt8} {i : Nat} (h : ¬ (numFrom l 0 0).2 = 0) : headFrom (r + 1) n l i = behind r (256 * n + (numFrom l 0 0).1) (l.drop (numFrom l 0 0).2) (i + (numFrom l 0 0).2) := by
  rw [headFrom, if_neg h]
  rfl

theorem numFrom_bound : ∀ (l : List UInt8) (n : Int) (m : Nat), 0 ≤ n → n ≤ 255 → 0 ≤ (numFrom l n m).1 ∧ (numFrom l n m).1 ≤ 255 ∧ m ≤ (numFrom l n m).2 ∧ (numFrom l n m).2 ≤ m + l.length
  | [], n, m, h0, h1 => by simp [numFrom, h0, h1]
  | c :: r, n, m, h0, h1 => by
    rw [numFrom]
    split
    · rename_i h
      have := numFrom_bound r (10 * n + ((c.toNat : Int) - 48)) (m + 1) (by omega) (by omega)
      simp only [List.length_cons]
      omega
    · simp only [List.length_cons]
      omega

def headEnd (x : Int × Nat × Bool) : Ending := .returned (.tuple #[.int .u32 x.1, .int .i64 x.2.1, .bool x.2.2])

theorem pow_small (k : Nat) (hk : k ≤ 3) : (256 : Int) ^ k ≤ 16777216 := by
  match k, hk with
  | 0, _ => decide
  | 1, _ => decide
  | 2, _ => decide
  | 3, _ => decide

set_option maxRecDepth 100000 in
set_option maxHeartbeats 1600000 in
theorem head_any (s : ByteArray) (at0 : Nat) (ha : at0 ≤ s.size) (hs : s.size ≤ maxLen) (w : World) :
    Calls Tryd.prog 22 #[.string s, .int .i64 at0] w fun e w' => e = headEnd (headFrom 4 0 (s.data.toList.drop at0) at0) ∧ w = w' := by
  have hm := hs
  unfold maxLen at hm
  have HM := Lib.hid hs
  clear hs
  go_enter Tryd.func22, Tryd.ntmps22
  go_wp2_with fail
  go_loop [1, 7, 8] (fun a n i => ∃ (k at_ : Nat) (v : Int), k ≤ 4 ∧ at_ ≤ s.size ∧ i = .int .i64 k ∧ a = .int .i64 at_ ∧ n = .int .i64 v ∧ 0 ≤ v ∧ v < 256 ^ k ∧ Hid (headFrom 4 0 (s.data.toList.drop at0) at0 = if k = 0 then headFrom 4 v (s.data.toList.drop at_) at_ else behind (4 - k) v (s.data.toList.drop at_) at_)) (fun _ _ i => 4 - (intOf i).toNat)
  case atStart => exact ⟨0, at0, 0, by omega, ha, rfl, rfl, rfl, by omega, by decide, rfl⟩
  case round =>
    obtain ⟨k, at_, v, hk, hat, rfl, rfl, rfl, hv0, hv1, HN⟩ := hrel
    by_cases hk0 : k = 0
    · subst hk0
      have hN := HN.out
      rw [if_pos rfl] at hN
      have hb := numFrom_bound (s.data.toList.drop (at_)) 0 0 (by omega) (by omega)
      have hl : (s.data.toList.drop (at_)).length = s.size - (at_) := by simp
      rw [hl] at hb
      have hnum : Calls Tryd.prog 34 #[.string s, .int .i64 ((at_ : Int)), .int .i64 255] w fun e w' => e = .returned (.tuple #[.int .i64 (numFrom (s.data.toList.drop (at_)) 0 0).1, .int .i64 ((numFrom (s.data.toList.drop (at_)) 0 0).2 : Nat)]) ∧ w = w' := by
        have h := number_any s (at_) (by omega) HM.out w
        rw [show (((at_) : Nat) : Int) = (at_ : Int) from by omega] at h
        exact h
      by_cases hz : (numFrom (s.data.toList.drop (at_)) 0 0).2 = 0
      · rw [headFrom_none hz] at hN
        rw [hz] at hnum
        generalize (numFrom (s.data.toList.drop (at_)) 0 0).1 = p at *
        have HNum := Lib.hid hnum
        have HN2 := Lib.hid hN
        clear hN hnum HN hz hb hl
        go_wp2_with fail
        refine HNum.out.mono ?_
        rintro e w' ⟨rfl, rfl⟩
        go_wp2
        go_ret3
        exact ⟨by rw [HN2.out]; rfl, rfl⟩
      · rw [headFrom_some hz, List.drop_drop] at hN
        generalize (numFrom (s.data.toList.drop (at_)) 0 0).1 = p at *
        generalize (numFrom (s.data.toList.drop (at_)) 0 0).2 = m at *
        have hzb : ((m : Int) == 0) = false := by simpa using hz
        have HNum := Lib.hid hnum
        have HN2 := Lib.hid hN
        obtain ⟨hp0, hp1, _, hm1⟩ := hb
        clear hN hnum HN hz hl
        go_wp2_with fail
        refine HNum.out.mono ?_
        rintro e w' ⟨rfl, rfl⟩
        go_wp2
        go_round
        case rel => exact ⟨0 + 1, at_ + m, 256 * v + p, by omega, by omega, by go_num, by go_num, rfl, by omega, by omega, HN2⟩
        case measure => first | (simp [intOf]; done) | (simp [intOf]; omega)
    · have hN := HN.out
      rw [if_neg hk0] at hN
      by_cases hk4 : k = 4
      · subst hk4
        have hN2 : headFrom 4 0 (s.data.toList.drop at0) at0 = (v, at_, true) := hN
        have hv2 : v < 4294967296 := hv1
        have HN2 := Lib.hid hN2
        clear hN hN2 HN hv1
        go_wp2
        go_ret3
        exact ⟨by rw [HN2.out]; rfl, rfl⟩
      · obtain ⟨r, hr⟩ : ∃ r, 4 - k = r + 1 := ⟨3 - k, by omega⟩
        have hr0 : r = 3 - k := by omega
        rw [hr] at hN
        unfold behind at hN
        rw [if_neg (by omega)] at hN
        have hv2 : v < 16777216 := by have := pow_small k (by omega); omega
        have hkp : 0 < (k : Int) := by omega
        have hk4' : (k : Int) < 4 := by omega
        by_cases hend : at_ < s.size
        · have hdrop : s.data.toList.drop at_ = (s[at_]'hend) :: s.data.toList.drop (at_ + 1) := by
            rw [List.drop_eq_getElem_cons (by simpa using hend)]
            rfl
          rw [hdrop] at hN
          simp only at hN
          by_cases hdot : ((s[at_]'hend).toNat : Int) = 46
          · rw [if_pos hdot] at hN
            have hd1 : (((s[at_]'hend).toNat : Int) == 46) = true := by simpa using hdot
            have hd2 : (((s[at_]'hend).toNat : Int) != 46) = false := by simpa using hdot
            have hbe : ¬ (s.size : Int) ≤ (at_ : Int) := by omega
            clear hdrop hdot
            have hb := numFrom_bound (s.data.toList.drop (at_ + 1)) 0 0 (by omega) (by omega)
            have hl : (s.data.toList.drop (at_ + 1)).length = s.size - (at_ + 1) := by simp
            rw [hl] at hb
            have hnum : Calls Tryd.prog 34 #[.string s, .int .i64 ((at_ : Int) + 1), .int .i64 255] w fun e w' => e = .returned (.tuple #[.int .i64 (numFrom (s.data.toList.drop (at_ + 1)) 0 0).1, .int .i64 ((numFrom (s.data.toList.drop (at_ + 1)) 0 0).2 : Nat)]) ∧ w = w' := by
              have h := number_any s (at_ + 1) (by omega) HM.out w
              rw [show (((at_ + 1) : Nat) : Int) = (at_ : Int) + 1 from by omega] at h
              exact h
            by_cases hz : (numFrom (s.data.toList.drop (at_ + 1)) 0 0).2 = 0
            · rw [headFrom_none hz] at hN
              rw [hz] at hnum
              generalize (numFrom (s.data.toList.drop (at_ + 1)) 0 0).1 = p at *
              have HNum := Lib.hid hnum
              have HN2 := Lib.hid hN
              clear hN hnum HN hz hb hl
              go_wp2_with fail
              refine HNum.out.mono ?_
              rintro e w' ⟨rfl, rfl⟩
              go_wp2
              go_ret3
              exact ⟨by rw [HN2.out]; rfl, rfl⟩
            · rw [headFrom_some hz, List.drop_drop] at hN
              generalize (numFrom (s.data.toList.drop (at_ + 1)) 0 0).1 = p at *
              generalize (numFrom (s.data.toList.drop (at_ + 1)) 0 0).2 = m at *
              have hzb : ((m : Int) == 0) = false := by simpa using hz
              have HNum := Lib.hid hnum
              rw [← show 4 - (k + 1) = r from by omega] at hN
              have HN3 : Hid (headFrom 4 0 (s.data.toList.drop at0) at0 = if k + 1 = 0 then headFrom 4 (256 * v + p) (s.data.toList.drop (at_ + 1 + m)) (at_ + 1 + m) else behind (4 - (k + 1)) (256 * v + p) (s.data.toList.drop (at_ + 1 + m)) (at_ + 1 + m)) := by rw [if_neg (by omega)]; exact hN
              obtain ⟨hp0, hp1, _, hm1⟩ := hb
              clear hN hnum HN hz hl hr hr0
              go_wp2_with fail
              refine HNum.out.mono ?_
              rintro e w' ⟨rfl, rfl⟩
              go_wp2
              go_round
              case rel => exact ⟨k + 1, at_ + 1 + m, 256 * v + p, by omega, by omega, by go_num, by go_num, rfl, by omega, by rw [Int.pow_succ]; omega, HN3⟩
              case measure => first | (simp [intOf]; done) | (simp [intOf]; omega)
          · rw [if_neg hdot] at hN
            have hd1 : (((s[at_]'hend).toNat : Int) == 46) = false := by simpa using hdot
            have hd2 : (((s[at_]'hend).toNat : Int) != 46) = true := by simpa using hdot
            have hbe : ¬ (s.size : Int) ≤ (at_ : Int) := by omega
            have HN2 := Lib.hid hN
            clear hdrop hdot hN HN hr hr0
            go_wp2
            go_ret3
            exact ⟨by rw [HN2.out]; rfl, rfl⟩
        · have hdrop : s.data.toList.drop at_ = [] := List.drop_of_length_le (by simp; omega)
          rw [hdrop] at hN
          simp only at hN
          have hbe : (s.size : Int) ≤ (at_ : Int) := by omega
          have HN2 := Lib.hid hN
          clear hdrop hN HN hr hr0
          go_wp2
          go_ret3
          exact ⟨by rw [HN2.out]; rfl, rfl⟩
end Go.Proofs.YtabpkdblcinhjaaDoor
