/- Contracts of layer 2's program: compare, Order, meet, Stands. -/
import Derived.Test.YtghkacciihocdaaD3
import Derived.RegionTactic
import Derived.Deep.RegionHeld3
namespace Go.Proofs.Ytghkacciihocdaa
open Go Go.RowKit Go.Sort
attribute [local go_sem] Oper.semAt_some
attribute [local irreducible] wpQuiet

def cmpI (x y : Int) : Int := if x < y then -1 else if y < x then 1 else 0

set_option maxHeartbeats 400000 in
theorem isNaNA_any (x : Int) (w : World) :
    Calls Try.prog 92 #[.int .u32 x] w fun e w' => e = .returned (.bool false) ∧ w = w' := by
  go_enter Try.func92, Try.ntmps92
  go_wp2
  go_ret
  exact ⟨rfl, rfl⟩

set_option maxRecDepth 100000 in
set_option maxHeartbeats 800000 in
theorem cmpA_any (x y : Int) (w : World) :
    Calls Try.prog 83 #[.int .u32 x, .int .u32 y] w fun e w' => e = .returned (.int .i64 (cmpI x y)) ∧ w = w' := by
  by_cases h : x < y
  · have hc : cmpI x y = -1 := if_pos h
    rw [hc]
    clear hc
    go_enter Try.func83, Try.ntmps83
    go_wp2_with (first | (refine (isNaNA_any x _).mono ?_; rintro e w1 ⟨rfl, rfl⟩) | (refine (isNaNA_any y _).mono ?_; rintro e w1 ⟨rfl, rfl⟩))
    go_ret
    exact ⟨rfl, rfl⟩
  · by_cases h2 : y < x
    · have hc : cmpI x y = 1 := by unfold cmpI; rw [if_neg h, if_pos h2]
      rw [hc]
      clear hc
      go_enter Try.func83, Try.ntmps83
      go_wp2_with (first | (refine (isNaNA_any x _).mono ?_; rintro e w1 ⟨rfl, rfl⟩) | (refine (isNaNA_any y _).mono ?_; rintro e w1 ⟨rfl, rfl⟩))
      go_ret
      exact ⟨rfl, rfl⟩
    · have hc : cmpI x y = 0 := by unfold cmpI; rw [if_neg h, if_neg h2]
      rw [hc]
      clear hc
      go_enter Try.func83, Try.ntmps83
      go_wp2_with (first | (refine (isNaNA_any x _).mono ?_; rintro e w1 ⟨rfl, rfl⟩) | (refine (isNaNA_any y _).mono ?_; rintro e w1 ⟨rfl, rfl⟩))
      go_ret
      exact ⟨rfl, rfl⟩

def orI (x y : Int) : Int := if x = 0 then y else x

set_option maxHeartbeats 400000 in
theorem or_any (x y : Int) (b cap : Nat) (w : World) (c0 : w.cell? ⟨b, 0, none⟩ = some (.int .i64 x)) (c1 : w.cell? ⟨b, 1, none⟩ = some (.int .i64 y)) :
    Calls Try.prog 82 #[.slice (some ⟨b, 0, none⟩) 2 cap] w fun e w' => e = .returned (.int .i64 (orI x y)) ∧ w = w' := by
  by_cases hx : x = 0
  · subst hx
    by_cases hy : y = 0
    · subst hy
      go_enter Try.func82, Try.ntmps82
      go_wp2
      go_loop [5, 8] (fun v i => i = .int .i64 0 ∨ i = .int .i64 1 ∨ i = .int .i64 2) (fun _ i => 2 - (intOf i).toNat)
      case atStart => exact .inl rfl
      case round =>
        rcases hrel with rfl | rfl | rfl
        · go_wp2
          go_round
          case rel => exact .inr (.inl rfl)
          case measure => simp [intOf]
        · go_wp2
          go_round
          case rel => exact .inr (.inr rfl)
          case measure => simp [intOf]
        · go_wp2
          go_ret
          exact ⟨rfl, rfl⟩
    · have ho : orI 0 y = y := if_pos rfl
      have hb : (y != 0) = true := by simpa using hy
      rw [ho]
      clear ho
      go_enter Try.func82, Try.ntmps82
      go_wp2
      go_loop [5, 8] (fun v i => i = .int .i64 0 ∨ i = .int .i64 1) (fun _ i => 2 - (intOf i).toNat)
      case atStart => exact .inl rfl
      case round =>
        rcases hrel with rfl | rfl
        · go_wp2
          go_round
          case rel => exact .inr rfl
          case measure => simp [intOf]
        · go_wp2
          go_ret
          exact ⟨rfl, rfl⟩
  · have ho : orI x y = x := if_neg hx
    have hb : (x != 0) = true := by simpa using hx
    rw [ho]
    clear ho
    go_enter Try.func82, Try.ntmps82
    go_wp2
    go_loop [5, 8] (fun v i => i = .int .i64 0) (fun _ i => 2 - (intOf i).toNat)
    case atStart => exact rfl
    case round =>
      obtain rfl := hrel
      go_wp2
      go_ret
      exact ⟨rfl, rfl⟩

theorem ord_cmp (x n y m : Int) : ordF x n y m = orI (cmpI x y) (cmpI n m) := by
  unfold ordF orI cmpI
  by_cases h1 : x < y
  · rw [if_neg (by omega), if_pos (.inl h1), if_pos h1, if_neg (by decide)]
  · by_cases h2 : y < x
    · rw [if_neg (by omega), if_neg (by omega), if_neg h1, if_pos h2, if_neg (by decide)]
    · obtain rfl : x = y := by omega
      rw [if_neg h1, if_pos (show (if x < x then (1 : Int) else 0) = 0 by rw [if_neg h1])]
      by_cases h3 : n < m
      · rw [if_neg (by omega), if_pos (.inr ⟨rfl, h3⟩), if_pos h3]
      · by_cases h4 : m < n
        · rw [if_neg (by omega), if_neg (by omega), if_neg h3, if_pos h4]
        · rw [if_pos (by omega), if_neg h3, if_neg h4]

set_option maxRecDepth 100000 in
set_option maxHeartbeats 1600000 in
theorem compare_any (x n y m : Int) (w : World) :
    Calls Try.prog 69 #[.agg #[], pfx x n, pfx y m] w fun e w' => e = .returned (.int .i64 (ordF x n y m)) ∧ Below w.heap.size w w' := by
  go_enter Try.func69, Try.ntmps69
  go_wp2_with fail
  generalize hW : (((w.alloc (.cells #[] 116)).alloc (.cells #[.int .u32 x, .int .i64 n] 34)).alloc (.cells #[.int .u32 y, .int .i64 m] 34)) = W
  have hb1 : Blk W (w.heap.size + 1) 34 #[.int .u32 x, .int .i64 n] := by
    have := (Blk.new (w.alloc (.cells #[] 116)) 34 #[.int .u32 x, .int .i64 n]).alloc (.cells #[.int .u32 y, .int .i64 m] 34)
    rw [← hW]; simpa using this
  have hb2 : Blk W (w.heap.size + 1 + 1) 34 #[.int .u32 y, .int .i64 m] := by
    have := Blk.new ((w.alloc (.cells #[] 116)).alloc (.cells #[.int .u32 x, .int .i64 n] 34)) 34 #[.int .u32 y, .int .i64 m]
    rw [← hW]; simpa using this
  have hbw : Below w.heap.size w W := by
    rw [← hW]; exact (((Below.refl _ _).alloc (Nat.le_refl _) _).alloc (by simp) _).alloc (by simp; omega) _
  have c0 := hb1.cell 0
  have c1 := hb1.cell 1
  have d0 := hb2.cell 0
  have d1 := hb2.cell 1
  simp only [List.getElem?_toArray, List.getElem?_cons_zero, List.getElem?_cons_succ] at c0 c1 d0 d1
  have HB := Lib.hid hbw
  have HO := Lib.hid (ord_cmp x n y m)
  have hz : w.heap.size + 1 + 1 < W.heap.size := hb2.lt
  clear hW hb1 hb2 hbw
  go_region_held3 (fun w' => w'.cell? ⟨w.heap.size + 1, 0, none⟩ = some (.int .u32 x) ∧ w'.cell? ⟨w.heap.size + 1, 1, none⟩ = some (.int .i64 n) ∧ w'.cell? ⟨w.heap.size + 1 + 1, 0, none⟩ = some (.int .u32 y) ∧ w'.cell? ⟨w.heap.size + 1 + 1, 1, none⟩ = some (.int .i64 m)) (go_keep)
    (first | (go_at_call 83; refine (cmpA_any x y _).mono ?_; rintro e w1 ⟨rfl, rfl⟩)
           | (go_at_call 84; refine (Try.cmp_Compare_int n m _).mono ?_; rintro e w1 ⟨rfl, rfl⟩)
           | (go_at_call 82; refine (or_any _ _ _ _ _ (by simp; rfl) (by simp; rfl)).mono ?_; rintro e w1 ⟨rfl, rfl⟩))
  have HBF : Hid (Below w.heap.size w (W.alloc (.cells #[.int .i64 (cmpI x y), .int .i64 (Lib.compareInt n m)] 3)).drew) := (HB.out.alloc HB.out.size _).drew
  generalize (W.alloc (.cells #[.int .i64 (cmpI x y), .int .i64 (Lib.compareInt n m)] 3)).drew = W2 at *
  go_wp2_with fail
  go_ret
  exact ⟨by rw [HO.out]; rfl, HBF.out⟩

set_option maxHeartbeats 800000 in
theorem order_any (x n y m : Int) (w : World) :
    Calls Try.prog 49 #[pfx x n, pfx y m] w fun e w' => e = .returned (.int .i64 (ordF x n y m)) ∧ Below w.heap.size w w' := by
  have HB := Lib.hid (two_below w (.cells #[.int .u32 x, .int .i64 n] 34) (.cells #[.int .u32 y, .int .i64 m] 34))
  go_enter Try.func49, Try.ntmps49
  go_wp2_with fail
  refine (compare_any x n y m _).mono ?_
  rintro e w1 ⟨rfl, hb⟩
  have HB2 := Lib.hid (HB.out.trans (hb.mono HB.out.size))
  clear hb
  go_wp2_with fail
  go_ret
  exact ⟨rfl, HB2.out⟩

/-- Is an address in both? -/
def meets (x n y m : Int) : Int := if hasP x n y ∨ hasP y m x then 1 else 0

set_option maxHeartbeats 1600000 in
theorem meet_any (x n y m : Int) (x0 : 0 ≤ x) (x1 : x < 4294967296) (y0 : 0 ≤ y) (y1 : y < 4294967296) (w : World) :
    Calls Try.prog 94 #[pfx x n, pfx y m] w fun e w' => e = .returned (.int .i64 (meets x n y m)) ∧ Below w.heap.size w w' := by
  have HB := Lib.hid (two_below w (.cells #[.int .u32 x, .int .i64 n] 34) (.cells #[.int .u32 y, .int .i64 m] 34))
  by_cases h1 : hasP x n y
  · have hm : meets x n y m = 1 := if_pos (.inl h1)
    have hd : decide (hasP x n y) = true := decide_eq_true h1
    have HD := Lib.hid hd
    rw [hm]
    clear hm hd
    go_enter Try.func94, Try.ntmps94
    go_wp2_with fail
    refine (has2_any x n y y0 y1 _).mono ?_
    rw [HD.out]
    rintro e w1 ⟨rfl, hb⟩
    have HB2 := Lib.hid (HB.out.trans (hb.mono HB.out.size))
    clear hb
    go_wp2_with fail
    go_ret
    exact ⟨rfl, HB2.out⟩
  · have hd : decide (hasP x n y) = false := decide_eq_false h1
    have HD := Lib.hid hd
    clear hd
    by_cases h2 : hasP y m x
    · have hm : meets x n y m = 1 := if_pos (.inr h2)
      have hd : decide (hasP y m x) = true := decide_eq_true h2
      have HE := Lib.hid hd
      rw [hm]
      clear hm hd
      go_enter Try.func94, Try.ntmps94
      go_wp2_with fail
      refine (has2_any x n y y0 y1 _).mono ?_
      rw [HD.out]
      rintro e w1 ⟨rfl, hb⟩
      have HB2 := Lib.hid (HB.out.trans (hb.mono HB.out.size))
      have b1 : Blk w1 w.heap.size 34 #[.int .u32 x, .int .i64 n] := ((Blk.new w _ _).alloc _).below hb (by simp; omega)
      have b2 : Blk w1 (w.heap.size + 1) 34 #[.int .u32 y, .int .i64 m] := by
        have := (Blk.new (w.alloc (.cells #[.int .u32 x, .int .i64 n] 34)) 34 #[.int .u32 y, .int .i64 m]).below hb (by simp)
        simpa using this
      have c0 := b1.cell 0
      have d0 := b2.cell 0
      have d1 := b2.cell 1
      simp only [List.getElem?_toArray, List.getElem?_cons_zero, List.getElem?_cons_succ] at c0 d0 d1
      clear hb b1 b2
      go_wp2_with fail
      refine (has2_any y m x x0 x1 _).mono ?_
      rw [HE.out]
      rintro e w2 ⟨rfl, hb⟩
      have HB3 := Lib.hid (HB2.out.trans (hb.mono HB2.out.size))
      clear hb c0 d0 d1
      go_wp2_with fail
      go_ret
      exact ⟨rfl, HB3.out⟩
    · have hm : meets x n y m = 0 := if_neg (fun e => e.elim h1 h2)
      have hd : decide (hasP y m x) = false := decide_eq_false h2
      have HE := Lib.hid hd
      rw [hm]
      clear hm hd
      go_enter Try.func94, Try.ntmps94
      go_wp2_with fail
      refine (has2_any x n y y0 y1 _).mono ?_
      rw [HD.out]
      rintro e w1 ⟨rfl, hb⟩
      have HB2 := Lib.hid (HB.out.trans (hb.mono HB.out.size))
      have b1 : Blk w1 w.heap.size 34 #[.int .u32 x, .int .i64 n] := ((Blk.new w _ _).alloc _).below hb (by simp; omega)
      have b2 : Blk w1 (w.heap.size + 1) 34 #[.int .u32 y, .int .i64 m] := by
        have := (Blk.new (w.alloc (.cells #[.int .u32 x, .int .i64 n] 34)) 34 #[.int .u32 y, .int .i64 m]).below hb (by simp)
        simpa using this
      have c0 := b1.cell 0
      have d0 := b2.cell 0
      have d1 := b2.cell 1
      simp only [List.getElem?_toArray, List.getElem?_cons_zero, List.getElem?_cons_succ] at c0 d0 d1
      clear hb b1 b2
      go_wp2_with fail
      refine (has2_any y m x x0 x1 _).mono ?_
      rw [HE.out]
      rintro e w2 ⟨rfl, hb⟩
      have HB3 := Lib.hid (HB2.out.trans (hb.mono HB2.out.size))
      clear hb c0 d0 d1
      go_wp2_with fail
      go_ret
      exact ⟨rfl, HB3.out⟩
end Go.Proofs.Ytghkacciihocdaa
