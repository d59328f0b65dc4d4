/- Contract of layer 3's reference Read: the number that stands at a place. -/
import Derived.Test.YtfbfdjcdjogefaaDoorO2
namespace Go.Proofs.YtfbfdjcdjogefaaDoor
open Go Go.RowKit
attribute [local go_sem] Oper.semAt_some

/-- Bytes that lie somewhere: told by numbers; none of none. -/
def ByS (w : World) (p : Option Addr) (xs : List Int) : Prop := 0 < xs.length → ∃ b o, p = some ⟨b, o, none⟩ ∧ b < w.heap.size ∧ ∀ i (h : i < xs.length), w.cell? ⟨b, o + i, none⟩ = some (.int .u8 (xs[i]'h))
theorem ByS.below {w w' : World} {p : Option Addr} {xs : List Int} (h : ByS w p xs) (hb : Below w.heap.size w w') : ByS w' p xs := fun hn => by
  obtain ⟨b, o, e, hlt, hc⟩ := h hn
  exact ⟨b, o, e, by have := hb.size; omega, fun i hi => (hb.cell (p := ⟨b, o + i, none⟩) hlt).trans (hc i hi)⟩
theorem ByS.nil (w : World) (p : Option Addr) : ByS w p [] := fun h => absurd h (by simp)
theorem ByS.ofBlk {w : World} {g : Nat} {t : TypeId} {xs : List Int} {r : List Value} (h : Blk w g t (xs.map (Value.int .u8) ++ r).toArray) : ByS w (some ⟨g, 0, none⟩) xs := fun _ => ⟨g, 0, rfl, h.lt, fun i hi => by
  rw [h.cell, List.getElem?_toArray, List.getElem?_append_left (by simpa using (by omega))]
  simp [List.getElem?_eq_getElem hi]⟩

/-- What Read tells: an error, or the number. -/
def readNo (xs : List Int) (at_ k : Int) : Int := if ¬ W3 k then 2 else if at_ < 0 then 4 else if at_ > xs.length ∨ (xs.length : Int) - at_ < k then 130 else 0
def readN (xs : List Int) (at_ k : Int) : Int := if readNo xs at_ k = 0 then valB ((xs.drop at_.toNat).take k.toNat) else 0

theorem valB_snoc (l : List Int) (x : Int) : valB (l ++ [x]) = 256 * valB l + x := by simp [valB]
theorem valB_lt {l : List Int} (hb : IsBytes l) (hl : l.length ≤ 4) : 0 ≤ valB l ∧ valB l < 256 ^ l.length := by
  match l, hl with
  | [], _ => simp [valB]
  | [a], _ => have := hb a (by simp); simp [valB]; omega
  | [a, b], _ => have := hb a (by simp); have := hb b (by simp); simp [valB]; omega
  | [a, b, c], _ => have := hb a (by simp); have := hb b (by simp); have := hb c (by simp); simp [valB]; omega
  | [a, b, c, d], _ => have := hb a (by simp); have := hb b (by simp); have := hb c (by simp); have := hb d (by simp); simp [valB]; omega

set_option maxRecDepth 100000 in
set_option maxHeartbeats 1600000 in
theorem refRead_any (p : Option Addr) (cap : Nat) (xs : List Int) (hb : IsBytes xs) (hn : xs.length ≤ 1000000) (at_ k : Int) (w : World) (hx : ByS w p xs) :
    Calls Tryd.prog 31 #[.slice p xs.length cap, .int .i64 at_, .int .i64 k] w fun e w' => e = .returned (.tuple #[.int .u32 (readN xs at_ k), .int .i64 (readNo xs at_ k)]) ∧ Below w.heap.size w w' := by
  by_cases hk : W3 k
  · have hr : ∀ W, Calls Tryd.prog 51 #[.int .i64 k] W fun e w' => e = .returned (.bool true) ∧ w' = W := fun W => by
      have := right3_any k W
      rwa [decide_eq_true hk] at this
    have HR := Lib.hid hr
    clear hr
    by_cases ha : at_ < 0
    · have e0 : readNo xs at_ k = 4 := by unfold readNo; rw [if_neg (by simpa using hk), if_pos ha]
      have e1 : readN xs at_ k = 0 := by unfold readN; rw [e0]; rfl
      rw [e0, e1]
      clear e0 e1 hk hb
      go_enter Tryd.func31, Tryd.ntmps31
      go_wp2_with fail
      refine (HR.out _).mono ?_
      rintro e w' ⟨rfl, rfl⟩
      go_wp2_with fail
      exact bodyPost_ret (v := .tuple #[.int .u32 0, .int .i64 4]) (by simp [results, Tryd.results31, go_sem]) rfl ⟨rfl, Below.refl _ _⟩
    · by_cases ha2 : at_ > xs.length ∨ (xs.length : Int) - at_ < k
      · have e0 : readNo xs at_ k = 130 := by unfold readNo; rw [if_neg (by simpa using hk), if_neg ha, if_pos ha2]
        have e1 : readN xs at_ k = 0 := by unfold readN; rw [e0]; rfl
        rw [e0, e1]
        have hk4 : 1 ≤ k ∧ k ≤ 4 := by obtain ⟨m, rfl, hm⟩ := hk.nat; omega
        clear e0 e1 hk hb
        by_cases hg : at_ > xs.length
        · go_enter Tryd.func31, Tryd.ntmps31
          go_wp2_with fail
          refine (HR.out _).mono ?_
          rintro e w' ⟨rfl, rfl⟩
          go_wp2_with fail
          exact bodyPost_ret (v := .tuple #[.int .u32 0, .int .i64 130]) (by simp [results, Tryd.results31, go_sem]) rfl ⟨rfl, Below.refl _ _⟩
        · have hs : (xs.length : Int) - at_ < k := by omega
          go_enter Tryd.func31, Tryd.ntmps31
          go_wp2_with fail
          refine (HR.out _).mono ?_
          rintro e w' ⟨rfl, rfl⟩
          go_wp2_with fail
          exact bodyPost_ret (v := .tuple #[.int .u32 0, .int .i64 130]) (by simp [results, Tryd.results31, go_sem]) rfl ⟨rfl, Below.refl _ _⟩
      · have e0 : readNo xs at_ k = 0 := by unfold readNo; rw [if_neg (by simpa using hk), if_neg ha, if_neg ha2]
        obtain ⟨m, rfl, hm⟩ := hk.nat
        obtain ⟨q, rfl⟩ : ∃ q : Nat, at_ = q := ⟨at_.toNat, by omega⟩
        have e1 : readN xs q m = valB ((xs.drop q).take m) := by unfold readN; rw [if_pos e0]; simp
        rw [e0, e1]
        have hqm : q + m ≤ xs.length := by omega
        have g1 : ¬ (q : Int) > xs.length := by omega
        have g2 : ¬ (xs.length : Int) - q < m := by omega
        have hm4 : 1 ≤ m ∧ m ≤ 4 := by omega
        obtain ⟨b, o, rfl, hlt, hc⟩ := hx (by omega)
        have HC := Lib.hid hc
        have HM := Lib.hid hm
        have HBY := Lib.hid hb
        clear e0 e1 hk ha ha2 hx hc hm hb
        go_enter Tryd.func31, Tryd.ntmps31
        go_wp2_with fail
        refine (HR.out _).mono ?_
        rintro e w' ⟨rfl, rfl⟩
        clear HR
        go_wp2_with fail
        go_loopw [8, 9] (fun a i wr => ∃ j : Nat, j ≤ m ∧ a = .int .u32 (valB ((xs.drop q).take j)) ∧ i = .int .i64 j ∧ wr = w') (fun _ i _ => m - (intOf i).toNat)
        case atStart => exact ⟨0, by omega, by simp [valB], rfl, rfl⟩
        case round =>
          obtain ⟨j, hj, rfl, rfl, rfl⟩ := hrel
          have hv := valB_lt (l := (xs.drop q).take j) ((HBY.out.drop q).take j) (by simp; omega)
          have hl : ((xs.drop q).take j).length = j := by simp; omega
          rw [hl] at hv
          by_cases hjl : j < m
          · have hxl : q + j < xs.length := by omega
            have hsn : (xs.drop q).take (j + 1) = (xs.drop q).take j ++ [xs[q + j]'hxl] := by
              rw [List.take_add_one, List.getElem?_drop, List.getElem?_eq_getElem hxl]; rfl
            have hsv : valB ((xs.drop q).take (j + 1)) = 256 * valB ((xs.drop q).take j) + xs[q + j]'hxl := by rw [hsn, valB_snoc]
            have hxr := HBY.out _ (List.getElem_mem hxl)
            have hc1 := HC.out (q + j) hxl
            generalize valB ((xs.drop q).take j) = v at *
            generalize xs[q + j]'hxl = x at *
            have hvb : v < 16777216 := by
              have : j = 0 ∨ j = 1 ∨ j = 2 ∨ j = 3 := by omega
              rcases this with rfl | rfl | rfl | rfl <;> omega
            have w1 : (q : Int) + (j : Int) < xs.length := by omega
            have w2 : ((q : Int) + (j : Int)).toNat = q + j := by omega
            have hv0 : 0 ≤ v := hv.1
            clear hv hl hsn
            go_wp2_with fail
            refine ⟨⟨j + 1, by omega, ?_, by simp, trivial⟩, by simp only [intOf]; omega⟩
            rw [hsv]
          · have hjm : j = m := by omega
            subst hjm
            go_wp2_with fail
            exact bodyPost_ret (v := .tuple #[.int .u32 (valB ((xs.drop q).take j)), .int .i64 0]) (by simp [results, Tryd.results31, go_sem]) rfl ⟨rfl, Below.refl _ _⟩
  · have e0 : readNo xs at_ k = 2 := by unfold readNo; rw [if_pos hk]
    have e1 : readN xs at_ k = 0 := by unfold readN; rw [e0]; rfl
    rw [e0, e1]
    have hr : ∀ W, Calls Tryd.prog 51 #[.int .i64 k] W fun e w' => e = .returned (.bool false) ∧ w' = W := fun W => by
      have := right3_any k W
      rwa [decide_eq_false hk] at this
    have HR := Lib.hid hr
    clear hr hk hb e0 e1
    go_enter Tryd.func31, Tryd.ntmps31
    go_wp2_with fail
    refine (HR.out _).mono ?_
    rintro e w' ⟨rfl, rfl⟩
    go_wp2_with fail
    exact bodyPost_ret (v := .tuple #[.int .u32 0, .int .i64 2]) (by simp [results, Tryd.results31, go_sem]) rfl ⟨rfl, Below.refl _ _⟩
end Go.Proofs.YtfbfdjcdjogefaaDoor
