/- Contracts of layer 2's program: compare, Order, meet, Stands. -/
import Derived.Test.YtabpkdblcinhjaaDoorD3
import Derived.RegionTactic
import Derived.Deep.RegionHeld3
namespace Go.Proofs.YtabpkdblcinhjaaDoor
open Go Go.RowKit Go.Sort
attribute [local go_sem] Oper.semAt_some
attribute [local irreducible] wpQuiet

def cmpI (x y : Int) : Int := if x < y then -1 else if y < x then 1 else 0

def orI (x y : Int) : Int := if x = 0 then y else x

theorem ord_cmp (x n y m : Int) : ordF x n y m = orI (cmpI x y) (cmpI n m) := by
  unfold ordF orI cmpI
  by_cases h1 : x < y
  · rw [if_neg (by omega), if_pos (.inl h1), if_pos h1, if_neg (by decide)]
  · by_cases h2 : y < x
    · rw [if_neg (by omega), if_neg (by omega), if_neg h1, if_pos h2, if_neg (by decide)]
    · obtain rfl : x = y := by omega
      rw [if_neg h1, if_pos (show (if x < x then (1 : Int) else 0) = 0 by rw [if_neg h1])]
      by_cases h3 : n < m
      · rw [if_neg (by omega), if_pos (.inr ⟨rfl, h3⟩), if_pos h3]
      · by_cases h4 : m < n
        · rw [if_neg (by omega), if_neg (by omega), if_neg h3, if_pos h4]
        · rw [if_pos (by omega), if_neg h3, if_neg h4]

/-- Is an address in both? -/
def meets (x n y m : Int) : Int := if hasP x n y ∨ hasP y m x then 1 else 0

set_option maxHeartbeats 1600000 in
theorem meet_any (x n y m : Int) (x0 : 0 ≤ x) (x1 : x < 4294967296) (y0 : 0 ≤ y) (y1 : y < 4294967296) (w : World) :
    Calls Tryd.prog 26 #[pfx x n, pfx y m] w fun e w' => e = .returned (.int .i64 (meets x n y m)) ∧ Below w.heap.size w w' := by
  have HB := Lib.hid (two_below w (.cells #[.int .u32 x, .int .i64 n] 25) (.cells #[.int .u32 y, .int .i64 m] 25))
  by_cases h1 : hasP x n y
  · have hm : meets x n y m = 1 := if_pos (.inl h1)
    have hd : decide (hasP x n y) = true := decide_eq_true h1
    have HD := Lib.hid hd
    rw [hm]
    clear hm hd
    go_enter Tryd.func26, Tryd.ntmps26
    go_wp2_with fail
    refine (has2_any x n y y0 y1 _).mono ?_
    rw [HD.out]
    rintro e w1 ⟨rfl, hb⟩
    have HB2 := Lib.hid (HB.out.trans (hb.mono HB.out.size))
    clear hb
    go_wp2_with fail
    go_ret
    exact ⟨rfl, HB2.out⟩
  · have hd : decide (hasP x n y) = false := decide_eq_false h1
    have HD := Lib.hid hd
    clear hd
    by_cases h2 : hasP y m x
    · have hm : meets x n y m = 1 := if_pos (.inr h2)
      have hd : decide (hasP y m x) = true := decide_eq_true h2
      have HE := Lib.hid hd
      rw [hm]
      clear hm hd
      go_enter Tryd.func26, Tryd.ntmps26
      go_wp2_with fail
      refine (has2_any x n y y0 y1 _).mono ?_
      rw [HD.out]
      rintro e w1 ⟨rfl, hb⟩
      have HB2 := Lib.hid (HB.out.trans (hb.mono HB.out.size))
      have b1 : Blk w1 w.heap.size 25 #[.int .u32 x, .int .i64 n] := ((Blk.new w _ _).alloc _).below hb (by simp; omega)
      have b2 : Blk w1 (w.heap.size + 1) 25 #[.int .u32 y, .int .i64 m] := by
        have := (Blk.new (w.alloc (.cells #[.int .u32 x, .int .i64 n] 25)) 25 #[.int .u32 y, .int .i64 m]).below hb (by simp)
        simpa using this
      have c0 := b1.cell 0
      have d0 := b2.cell 0
      have d1 := b2.cell 1
      simp only [List.getElem?_toArray, List.getElem?_cons_zero, List.getElem?_cons_succ] at c0 d0 d1
      clear hb b1 b2
      go_wp2_with fail
      refine (has2_any y m x x0 x1 _).mono ?_
      rw [HE.out]
      rintro e w2 ⟨rfl, hb⟩
      have HB3 := Lib.hid (HB2.out.trans (hb.mono HB2.out.size))
      clear hb c0 d0 d1
      go_wp2_with fail
      go_ret
      exact ⟨rfl, HB3.out⟩
    · have hm : meets x n y m = 0 := if_neg (fun e => e.elim h1 h2)
      have hd : decide (hasP y m x) = false := decide_eq_false h2
      have HE := Lib.hid hd
      rw [hm]
      clear hm hd
      go_enter Tryd.func26, Tryd.ntmps26
      go_wp2_with fail
      refine (has2_any x n y y0 y1 _).mono ?_
      rw [HD.out]
      rintro e w1 ⟨rfl, hb⟩
      have HB2 := Lib.hid (HB.out.trans (hb.mono HB.out.size))
      have b1 : Blk w1 w.heap.size 25 #[.int .u32 x, .int .i64 n] := ((Blk.new w _ _).alloc _).below hb (by simp; omega)
      have b2 : Blk w1 (w.heap.size + 1) 25 #[.int .u32 y, .int .i64 m] := by
        have := (Blk.new (w.alloc (.cells #[.int .u32 x, .int .i64 n] 25)) 25 #[.int .u32 y, .int .i64 m]).below hb (by simp)
        simpa using this
      have c0 := b1.cell 0
      have d0 := b2.cell 0
      have d1 := b2.cell 1
      simp only [List.getElem?_toArray, List.getElem?_cons_zero, List.getElem?_cons_succ] at c0 d0 d1
      clear hb b1 b2
      go_wp2_with fail
      refine (has2_any y m x x0 x1 _).mono ?_
      rw [HE.out]
      rintro e w2 ⟨rfl, hb⟩
      have HB3 := Lib.hid (HB2.out.trans (hb.mono HB2.out.size))
      clear hb c0 d0 d1
      go_wp2_with fail
      go_ret
      exact ⟨rfl, HB3.out⟩
end Go.Proofs.YtabpkdblcinhjaaDoor
