/- Contracts of layer 3's reader: New, Take, Skip, At, Left, Rest. -/
import Derived.Test.YthpmfeijnphdbaaDoorN1
import Derived.Test.YthpmfeijnphdbaaDoorO9
import Derived.Deep.AppendLies
namespace Go.Proofs.YthpmfeijnphdbaaDoor
open Go Go.RowKit Go.Sort
attribute [local go_sem] Oper.semAt_some
attribute [local irreducible] wpQuiet

/-- A reader: its bytes lie in a block of its own, its place is told; both lie from base on. -/
def Rd3 (base : Nat) (w : World) (r : Nat) (xs : List Int) (a : Nat) : Prop := ∃ b c, Blk w r 62 #[.slice (some ⟨b, 0, none⟩) xs.length c, .int .i64 a] ∧ b < r ∧ b < w.heap.size ∧ xs.length ≤ c ∧ xs.length ≤ 1000000 ∧ IsBytes xs ∧ ByS w (some ⟨b, 0, none⟩) xs ∧ base ≤ b ∧ base ≤ r
theorem Rd3.keep {base : Nat} {w w' : World} {r : Nat} {xs : List Int} {a : Nat} (h : Rd3 base w r xs a) (hb : Below w.heap.size w w') : Rd3 base w' r xs a := by
  obtain ⟨b, c, h1, h2, h3, h4, h5, h6, h7, h8⟩ := h
  exact ⟨b, c, h1.below hb h1.lt, h2, by have := hb.size; omega, h4, h5, h6, h7.below hb, h8⟩
theorem Rd3.lt {base : Nat} {w : World} {r : Nat} {xs : List Int} {a : Nat} (h : Rd3 base w r xs a) : r < w.heap.size := by
  obtain ⟨b, c, h1, _⟩ := h
  exact h1.lt
theorem Rd3.ge {base : Nat} {w : World} {r : Nat} {xs : List Int} {a : Nat} (h : Rd3 base w r xs a) : base ≤ r := by
  obtain ⟨b, c, _, _, _, _, _, _, _, _, h9⟩ := h
  exact h9
theorem Rd3.mono {base base' : Nat} {w : World} {r : Nat} {xs : List Int} {a : Nat} (h : Rd3 base w r xs a) (hb : base' ≤ base) : Rd3 base' w r xs a := by
  obtain ⟨b, c, h1, h2, h3, h4, h5, h6, h7, h8, h9⟩ := h
  exact ⟨b, c, h1, h2, h3, h4, h5, h6, h7, by omega, by omega⟩
/-- A block ahead of it is turned. -/
theorem Rd3.other {base : Nat} {w w' : World} {r : Nat} {xs : List Int} {a : Nat} (h : Rd3 base w r xs a) {g : Nat} (hg : w.grownBy w' (some g)) (hgb : g < base) : Rd3 base w' r xs a := by
  obtain ⟨b, c, h1, h2, h3, h4, h5, h6, h7, h8, h9⟩ := h
  refine ⟨b, c, h1.grown hg (by simp; omega), h2, by have := hg.size; omega, h4, h5, h6, fun hn => ?_, h8, h9⟩
  obtain ⟨b', o', e, hl, hc⟩ := h7 hn
  cases e
  refine ⟨b, 0, rfl, by have := hg.size; omega, fun i hi => ?_⟩
  rw [hg.cell_far _ (by simpa using hl) (by simp; omega)]
  exact hc i hi
/-- The place moves on. -/
theorem Rd3.move {base : Nat} {w : World} {r : Nat} {xs : List Int} {a : Nat} (h : Rd3 base w r xs a) (z : Nat) : Rd3 base (w.setCell ⟨r, 1, none⟩ (.int .i64 z)) r xs z := by
  obtain ⟨b, c, h1, h2, h3, h4, h5, h6, h7, h8⟩ := h
  refine ⟨b, c, by simpa using h1.set_ 1 (.int .i64 z), h2, by simpa using h3, h4, h5, h6, fun hn => ?_, h8⟩
  obtain ⟨b', o', e, hl, hc⟩ := h7 hn
  cases e
  refine ⟨b, 0, rfl, by simpa using hl, fun i hi => ?_⟩
  rw [World.cell?_setCell_far _ _ _ _ (show r ≠ b by omega)]
  exact hc i hi
/-- A block behind it is turned. -/
theorem Rd3.far {base : Nat} {w : World} {r : Nat} {xs : List Int} {a : Nat} (h : Rd3 base w r xs a) (p : Addr) (v : Value) (hp : r < p.block) : Rd3 base (w.setCell p v) r xs a := by
  obtain ⟨b, c, h1, h2, h3, h4, h5, h6, h7, h8⟩ := h
  refine ⟨b, c, h1.far (by omega) v, h2, by simpa using h3, h4, h5, h6, fun hn => ?_, h8⟩
  obtain ⟨b', o', e, hl, hc⟩ := h7 hn
  cases e
  refine ⟨b, 0, rfl, by simpa using hl, fun i hi => ?_⟩
  rw [World.cell?_setCell_far _ _ _ _ (show p.block ≠ b by omega)]
  exact hc i hi

theorem undO : Tryd.prog.underlying 59 = some (.slice 5) := by kernel_rfl
set_option maxRecDepth 100000 in
set_option maxHeartbeats 1600000 in
theorem new3_any (p : Option Addr) (c : Nat) (xs : List Int) (w : World) (hb : IsBytes xs) (hn : xs.length ≤ 1000000) (hx : ByS w p xs) :
    Calls Tryd.prog 14 #[.slice p xs.length c] w fun e w' => ∃ r, e = .returned (.pointer (some ⟨r, 0, none⟩)) ∧ Rd3 w.heap.size w' r xs 0 ∧ w.heap.size ≤ r ∧ Below w.heap.size w w' := by
  have HE : OwnB w.heap.size (w.alloc (.cells #[] 5)) (.slice (some ⟨w.heap.size, 0, none⟩) 0 0) [] := World.ownsRow_made w #[] 0 (Nat.le_refl _) (Nat.zero_le _) (by simp)
  have HW0 : Below w.heap.size w (w.alloc (.cells #[] 5)) := (Below.refl _ _).alloc (Nat.le_refl _) _
  have K1 : ([] : List Int).length + xs.length ≤ 1000000 := by simpa using hn
  have HY := Lib.hid (hx.below HW0)
  have HB := Lib.hid hb
  have HHE := Lib.hid HE
  have HHW := Lib.hid HW0
  clear hx hb HE HW0
  go_enter Tryd.func14, Tryd.ntmps14
  go_wp2_with (first | (at_builtin; refine wpList_app_bytes2 59 23 undO Tryd.underlying23 (v := .slice (some ⟨w.heap.size, 0, none⟩) 0 0) (xs := []) (p := p) (ys := xs) (c := c) rfl _ _ rfl w.heap.size rfl HHE.out rfl HY.out K1 (by simp) ?_))
  intro v2 w2 o2 g2 n2
  have hb2 := own_below (by simp) HHW.out HHE.out g2
  have hne : v2 ≠ .slice none 0 0 := n2
  obtain ⟨g, cap, cur, rfl, hg1, hg2, hg3, hg4⟩ : ∃ g cap cur, v2 = .slice (some ⟨g, 0, none⟩) xs.length cap ∧ w.heap.size ≤ g ∧ w2.heap[g]? = some (.cells cur 5 (0, 0)) ∧ xs.length ≤ cap ∧ cur.toList.take (xs.length * 1) = xs.map (Value.int .u8) := by
    rcases o2.2 with ⟨e, _⟩ | ⟨g, cap, cur, e, hb, hg, hc, hm, hs, ht⟩
    · exact absurd e hne
    · exact ⟨g, cap, cur, e, hb, hg, hc, ht⟩
  obtain ⟨p', c', he', hc', hy', _⟩ := o2.byS
  cases he'
  have hgl : g < w2.heap.size := (Array.getElem?_eq_some_iff.1 hg2).1
  have HY2 := Lib.hid hy'
  have HB2 := Lib.hid hb2
  clear o2 g2 n2 hb2 hne hg2 hg4 hy' HHE HHW HY
  go_wp2_with fail
  go_ret
  refine ⟨w2.heap.size, rfl, ⟨g, cap, by simpa using Blk.new w2 62 #[.slice (some ⟨g, 0, none⟩) xs.length cap, .int .i64 0], by omega, by simp; omega, hg3, hn, HB.out, HY2.out.below ((Below.refl _ w2).alloc (Nat.le_refl _) _), hg1, HB2.out.size⟩, HB2.out.size, HB2.out.alloc HB2.out.size _⟩

theorem eqO (a : Addr) (n c : Nat) (w : World) : (binOp .eql 59 (.slice (some a) n c) (.slice none 0 0)).run Tryd.prog w = .ok (.bool false) w := by kernel_rfl

set_option maxRecDepth 100000 in
theorem none3_any {base : Nat} (w : World) (r : Nat) (xs : List Int) (a : Nat) (h : Rd3 base w r xs a) :
    Calls Tryd.prog 26 #[.pointer (some ⟨r, 0, none⟩)] w fun e w' => e = .returned (.bool false) ∧ w = w' := by
  obtain ⟨b, c, h1, _⟩ := h
  have c0 := h1.cell 0
  simp only [List.getElem?_toArray, List.getElem?_cons_zero] at c0
  have hq := eqO ⟨b, 0, none⟩ xs.length c
  clear h1
  go_enter Tryd.func26, Tryd.ntmps26
  go_wp2_with fail
  go_ret
  exact ⟨rfl, rfl⟩
set_option maxRecDepth 100000 in
theorem none3_nil (w : World) :
    Calls Tryd.prog 26 #[.pointer none] w fun e w' => e = .returned (.bool true) ∧ w = w' := by
  go_enter Tryd.func26, Tryd.ntmps26
  go_wp2_with fail
  go_ret
  exact ⟨rfl, rfl⟩

theorem grown_trans {a w w' : World} {row : Option Nat} (h : a.grownBy w row) (k : w.grownBy w' row) : a.grownBy w' row :=
  ⟨k.os.trans h.os, k.tape.trans h.tape, k.output.trans h.output, Nat.le_trans h.size k.size, fun i hi hne => (k.block i (Nat.lt_of_lt_of_le hi h.size) hne).trans (h.block i hi hne)⟩
/-- Nothing that a drawn region allocates comes near. -/
theorem Rd3.regrown {base : Nat} {w : World} {r : Nat} {xs : List Int} {a : Nat} (h : Rd3 base w r xs a) (d : Nat) (os : Array Obj) : Rd3 base (grow (redrawn w d) os) r xs a := h.keep (below_regrown w d os)

set_option maxRecDepth 100000 in
set_option maxHeartbeats 1600000 in
theorem take3_any {base : Nat} (w : World) (r : Nat) (xs : List Int) (a : Nat) (k : Int) (h : Rd3 base w r xs a) (ha : a ≤ xs.length) (hf : Fit3 w) :
    Calls Tryd.prog 16 #[.pointer (some ⟨r, 0, none⟩), .int .i64 k] w fun e w' => e = .returned (.tuple #[.int .u32 (readN xs a k), .int .i64 (readNo xs a k)]) ∧ Rd3 base w' r xs (if readNo xs a k = 0 then a + k.toNat else a) ∧ w.grownBy w' (some r) := by
  have HN := Lib.hid (none3_any w r xs a h)
  have HH := Lib.hid h
  obtain ⟨b, c, h1, h2, h3, h4, h5, h6, h7, _⟩ := h
  have c0 := h1.cell 0
  have c1 := h1.cell 1
  have f1 := h1.frozen 1
  simp only [List.getElem?_toArray, List.getElem?_cons_zero, List.getElem?_cons_succ] at c0 c1
  have hrd := fun W (hW : ByS W (some ⟨b, 0, none⟩) xs) (hF : Fit3 W) => read_any (some ⟨b, 0, none⟩) c xs h6 h5 h4 a k (by omega) W hW hF
  have hbd : readNo xs a k = 0 → 1 ≤ k ∧ k ≤ 4 ∧ a + k ≤ xs.length := fun hz => by
    have hk : W3 k := Classical.byContradiction fun hw => by unfold readNo at hz; rw [if_pos hw] at hz; cases hz
    obtain ⟨q, m, e1, rfl, hm, hq, _⟩ := read_put h6 hz
    omega
  have k0 := cell_regrown c0
  have k1 := cell_regrown c1
  have hv0 : readNo xs a k ≠ 0 → readN xs a k = 0 := fun hz => if_neg hz
  generalize readN xs a k = v at *
  generalize readNo xs a k = no at *
  have cR : ∀ d os, Calls Tryd.prog 25 #[.slice (some ⟨b, 0, none⟩) xs.length c, .int .i64 a, .int .i64 k] (grow (redrawn w d) os) fun e w'' => e = .returned (.tuple #[.int .u32 v, .int .i64 no]) ∧ ∃ p : Regrown, w'' = grow (redrawn w p.d) p.os :=
    fun d os => Calls.regrown_of ((hrd _ (h7.below (below_regrown w d os)) (hf.below (below_regrown w d os))).mono fun _ _ ⟨he, hw⟩ => ⟨he, by subst hw; exact Below.refl _ _⟩)
  clear hrd h1 h2 h3 h4 h5 h6 h7 hf c0 c1 f1
  by_cases hz : no = 0
  · subst hz
    simp only [if_true]
    obtain ⟨b1, b2, b3⟩ := hbd rfl
    clear hbd hv0
    go_enter Tryd.func16, Tryd.ntmps16
    go_wp2_with fail
    refine wp_scope_straight ?_
    go_wp2_with fail
    refine HN.out.mono ?_
    rintro e w' ⟨rfl, rfl⟩
    clear HN
    go_wp2_with fail
    refine wp_region_quiet_below (by kernel_rfl) (by kernel_rfl) ?_
    repeat (quiet_step (first | (with_reducible exact cR _ _)))
    refine wpQuiet_nil ?_
    intro wq hwq
    obtain ⟨⟨dq, osq⟩, rfl⟩ := hwq
    have hb := below_regrown w dq osq
    have HR := HH.out.regrown dq osq
    have HW := Lib.hid hb
    clear cR k0 k1 hb HH
    generalize grow (redrawn w dq) osq = w9 at *
    have HR9 := Lib.hid HR
    obtain ⟨b', c', h1, _⟩ := HR
    have c1 := h1.cell 1
    have f1 := h1.frozen 1
    simp only [List.getElem?_toArray, List.getElem?_cons_zero, List.getElem?_cons_succ] at c1
    clear h1
    go_wp2_with fail
    have hw : (a : Int) + k = ((a + k.toNat : Nat) : Int) := by omega
    rw [Exit.noGoto_ret, hw]
    go_ret2
    exact ⟨rfl, HR9.out.move _, grown_trans (grown_below HW.out _) (grown_set _ _ _ _)⟩
  · simp only [if_neg hz]
    have hzb : (no != 0) = true := by simpa using hz
    obtain rfl := hv0 hz
    clear hbd hv0
    go_enter Tryd.func16, Tryd.ntmps16
    go_wp2_with fail
    refine wp_scope_fwd 0 rfl ?_
    go_wp2_with fail
    refine HN.out.mono ?_
    rintro e w' ⟨rfl, rfl⟩
    clear HN
    go_wp2_with fail
    refine wp_region_quiet_below (by kernel_rfl) (by kernel_rfl) ?_
    repeat (quiet_step (first | (with_reducible exact cR _ _)))
    refine wpQuiet_nil ?_
    intro wq hwq
    obtain ⟨⟨dq, osq⟩, rfl⟩ := hwq
    have hb := below_regrown w dq osq
    have HR := Lib.hid (HH.out.regrown dq osq)
    have HW := Lib.hid hb
    clear cR k0 k1 hb HH
    generalize grow (redrawn w dq) osq = w9 at *
    go_wp2_with fail
    go_step3
    refine ⟨rfl, ?_⟩
    go_wp2_with fail
    rw [Exit.noGoto_ret]
    go_ret2
    exact ⟨rfl, HR.out, grown_below HW.out _⟩

theorem cutNo_skip {n a : Nat} {k : Int} : cutNo n a k = skipNo ((n : Int) - a) k := by
  unfold cutNo skipNo
  by_cases hk : k < 0
  · rw [if_pos (show (a : Int) < 0 ∨ k < 0 from .inr hk), if_pos hk]
  · rw [if_neg (show ¬ ((a : Int) < 0 ∨ k < 0) by omega), if_neg hk]

set_option maxRecDepth 100000 in
set_option maxHeartbeats 1600000 in
theorem skip3_any {base : Nat} (w : World) (r : Nat) (xs : List Int) (a : Nat) (k : Int) (h : Rd3 base w r xs a) (ha : a ≤ xs.length) :
    Calls Tryd.prog 18 #[.pointer (some ⟨r, 0, none⟩), .int .i64 k] w fun e w' => e = .returned (.int .i64 (skipNo ((xs.length : Int) - a) k)) ∧ Rd3 base w' r xs (if skipNo ((xs.length : Int) - a) k = 0 then a + k.toNat else a) ∧ w.grownBy w' (some r) := by
  have HN := Lib.hid (none3_any w r xs a h)
  have HH := Lib.hid h
  obtain ⟨b, c, h1, h2, h3, h4, h5, h6, h7, _⟩ := h
  have c0 := h1.cell 0
  have c1 := h1.cell 1
  simp only [List.getElem?_toArray, List.getElem?_cons_zero, List.getElem?_cons_succ] at c0 c1
  have hct := fun W (hW : ByS W (some ⟨b, 0, none⟩) xs) => cut_any (some ⟨b, 0, none⟩) c xs h5 h4 a k (by omega) W hW
  rw [← cutNo_skip]
  have hbd : cutNo xs.length a k = 0 → 0 ≤ k ∧ a + k ≤ xs.length := fun hz => by
    unfold cutNo at hz
    by_cases h1 : (a : Int) < 0 ∨ k < 0
    · rw [if_pos h1] at hz; cases hz
    · rw [if_neg h1] at hz
      by_cases h2 : k > (xs.length : Int) - a
      · rw [if_pos h2] at hz; cases hz
      · omega
  have k0 := cell_regrown c0
  have k1 := cell_regrown c1
  generalize cutNo xs.length a k = no at *
  have cC : ∀ d os, Calls Tryd.prog 27 #[.slice (some ⟨b, 0, none⟩) xs.length c, .int .i64 a, .int .i64 k] (grow (redrawn w d) os) fun e w'' => e = .returned (.tuple #[if no = 0 then .slice (cutP (some ⟨b, 0, none⟩) a k) k.toNat k.toNat else .slice none 0 0, .int .i64 no]) ∧ ∃ p : Regrown, w'' = grow (redrawn w p.d) p.os :=
    fun d os => Calls.regrown_of ((hct _ (h7.below (below_regrown w d os))).mono fun e W ⟨he, hw⟩ => by
      subst hw
      refine ⟨?_, Below.refl _ _⟩
      by_cases hz : no = 0
      · rw [if_pos hz] at he
        subst hz
        exact he.1
      · rw [if_neg hz] at he
        rw [if_neg hz]
        exact he)
  clear hct h1 h2 h3 h4 h5 h6 h7 c0 c1
  by_cases hz : no = 0
  · subst hz
    simp only [if_true] at cC ⊢
    obtain ⟨b1, b3⟩ := hbd rfl
    clear hbd
    go_enter Tryd.func18, Tryd.ntmps18
    go_wp2_with fail
    refine wp_scope_straight ?_
    go_wp2_with fail
    refine HN.out.mono ?_
    rintro e w' ⟨rfl, rfl⟩
    clear HN
    go_wp2_with fail
    refine wp_region_quiet_below (by kernel_rfl) (by kernel_rfl) ?_
    repeat (quiet_step (first | (with_reducible exact cC _ _)))
    refine wpQuiet_nil ?_
    intro wq hwq
    obtain ⟨⟨dq, osq⟩, rfl⟩ := hwq
    have hb := below_regrown w dq osq
    have HR := HH.out.regrown dq osq
    have HW := Lib.hid hb
    clear cC k0 k1 hb HH
    generalize grow (redrawn w dq) osq = w9 at *
    have HR9 := Lib.hid HR
    obtain ⟨b', c', h1, _⟩ := HR
    have c1 := h1.cell 1
    have f1 := h1.frozen 1
    simp only [List.getElem?_toArray, List.getElem?_cons_zero, List.getElem?_cons_succ] at c1
    clear h1
    go_wp2_with fail
    have hw : (a : Int) + k = ((a + k.toNat : Nat) : Int) := by omega
    rw [Exit.noGoto_ret, hw]
    go_ret
    exact ⟨rfl, HR9.out.move _, grown_trans (grown_below HW.out _) (grown_set _ _ _ _)⟩
  · have hzb : (no != 0) = true := by simpa using hz
    simp only [if_neg hz] at cC ⊢
    clear hbd
    go_enter Tryd.func18, Tryd.ntmps18
    go_wp2_with fail
    refine wp_scope_fwd 0 rfl ?_
    go_wp2_with fail
    refine HN.out.mono ?_
    rintro e w' ⟨rfl, rfl⟩
    clear HN
    go_wp2_with fail
    refine wp_region_quiet_below (by kernel_rfl) (by kernel_rfl) ?_
    repeat (quiet_step (first | (with_reducible exact cC _ _)))
    refine wpQuiet_nil ?_
    intro wq hwq
    obtain ⟨⟨dq, osq⟩, rfl⟩ := hwq
    have hb := below_regrown w dq osq
    have HR := Lib.hid (HH.out.regrown dq osq)
    have HW := Lib.hid hb
    clear cC k0 k1 hb HH
    generalize grow (redrawn w dq) osq = w9 at *
    go_wp2_with fail
    go_step3
    refine ⟨rfl, ?_⟩
    go_wp2_with fail
    rw [Exit.noGoto_ret]
    go_ret
    exact ⟨rfl, HR.out, grown_below HW.out _⟩

set_option maxRecDepth 100000 in
theorem at3_any {base : Nat} (w : World) (r : Nat) (xs : List Int) (a : Nat) (h : Rd3 base w r xs a) :
    Calls Tryd.prog 20 #[.pointer (some ⟨r, 0, none⟩)] w fun e w' => e = .returned (.int .i64 a) ∧ w = w' := by
  have HN := Lib.hid (none3_any w r xs a h)
  obtain ⟨b, c, h1, _⟩ := h
  have c1 := h1.cell 1
  simp only [List.getElem?_toArray, List.getElem?_cons_zero, List.getElem?_cons_succ] at c1
  clear h1
  go_enter Tryd.func20, Tryd.ntmps20
  go_wp2_with fail
  refine HN.out.mono ?_
  rintro e w' ⟨rfl, rfl⟩
  go_wp2_with fail
  go_ret
  exact ⟨rfl, rfl⟩

set_option maxRecDepth 100000 in
theorem left3_any {base : Nat} (w : World) (r : Nat) (xs : List Int) (a : Nat) (h : Rd3 base w r xs a) (ha : a ≤ xs.length) :
    Calls Tryd.prog 21 #[.pointer (some ⟨r, 0, none⟩)] w fun e w' => e = .returned (.int .i64 ((xs.length : Int) - a)) ∧ Below w.heap.size w w' := by
  have HN := Lib.hid (none3_any w r xs a h)
  obtain ⟨b, c, h1, _, _, _, h5, _⟩ := h
  have c0 := h1.cell 0
  have c1 := h1.cell 1
  simp only [List.getElem?_toArray, List.getElem?_cons_zero, List.getElem?_cons_succ] at c0 c1
  have k0 := cell_regrown c0
  have k1 := cell_regrown c1
  clear h1 c0 c1
  go_enter Tryd.func21, Tryd.ntmps21
  go_wp2_with fail
  refine HN.out.mono ?_
  rintro e w' ⟨rfl, rfl⟩
  clear HN
  go_wp2_with fail
  refine wp_region_quiet_below (by kernel_rfl) (by kernel_rfl) ?_
  repeat (quiet_step (first | fail))
  refine wpQuiet_nil ?_
  intro wq hwq
  obtain ⟨⟨dq, osq⟩, rfl⟩ := hwq
  have hb := below_regrown w dq osq
  have hw : IntKind.i64.wrap ((xs.length : Int) - a) = (xs.length : Int) - a := by rw [IntKind.wrap_i64]; omega
  rw [hw]
  go_wp2_with fail
  go_ret
  exact ⟨rfl, hb⟩

set_option maxRecDepth 100000 in
set_option maxHeartbeats 1600000 in
theorem rest3_any {base : Nat} (w : World) (r : Nat) (xs : List Int) (a : Nat) (h : Rd3 base w r xs a) (ha : a ≤ xs.length) :
    Calls Tryd.prog 19 #[.pointer (some ⟨r, 0, none⟩)] w fun e w' => ∃ v, e = .returned v ∧ OwnB w.heap.size w' v (xs.drop a) ∧ Below w.heap.size w w' := by
  have HN := Lib.hid (none3_any w r xs a h)
  have hl := fun W (hW : Rd3 base W r xs a) => left3_any W r xs a hW ha
  have HH := Lib.hid h
  obtain ⟨b, c, h1, h2, h3, h4, h5, h6, h7, _⟩ := h
  have c0 := h1.cell 0
  have c1 := h1.cell 1
  simp only [List.getElem?_toArray, List.getElem?_cons_zero, List.getElem?_cons_succ] at c0 c1
  obtain ⟨n, hn⟩ : ∃ n : Nat, xs.length - a = n := ⟨_, rfl⟩
  have hli : (xs.length : Int) - a = n := by omega
  have hno : cutNo xs.length a n = 0 := by
    unfold cutNo
    rw [if_neg (show ¬ ((a : Int) < 0 ∨ (n : Int) < 0) by omega), if_neg (by omega)]
  have hct := fun W (hW : ByS W (some ⟨b, 0, none⟩) xs) => cut_any (some ⟨b, 0, none⟩) c xs h5 h4 a n (by omega) W hW
  simp only [if_pos hno, Int.toNat_natCast] at hct
  have k0 := cell_regrown c0
  have k1 := cell_regrown c1
  have cL : ∀ d os, Calls Tryd.prog 21 #[.pointer (some ⟨r, 0, none⟩)] (grow (redrawn w d) os) fun e w'' => e = .returned (.int .i64 n) ∧ ∃ p : Regrown, w'' = grow (redrawn w p.d) p.os :=
    fun d os => Calls.regrown_of (by have := hl _ (HH.out.regrown d os); rw [hli] at this; exact this)
  have hby : ∀ W, ByS W (some ⟨b, 0, none⟩) xs → ByS W (cutP (some ⟨b, 0, none⟩) a n) (xs.drop a) := fun W hW => by
    unfold cutP
    by_cases hz : n = 0
    · rw [List.drop_of_length_le (by omega)]; exact ByS.nil _ _
    · rw [if_neg (by simpa using hz)]
      have := hW.window a n (by omega)
      rw [List.take_of_length_le (by simp; omega)] at this
      simpa [Addr.add_lit] using this
  have hld : (xs.drop a).length = n := by simp; omega
  generalize hq : cutP (some ⟨b, 0, none⟩) a n = q at *
  have cC : ∀ d os, Calls Tryd.prog 27 #[.slice (some ⟨b, 0, none⟩) xs.length c, .int .i64 a, .int .i64 n] (grow (redrawn w d) os) fun e w'' => e = .returned (.tuple #[.slice q n n, .int .i64 0]) ∧ ∃ p : Regrown, w'' = grow (redrawn w p.d) p.os :=
    fun d os => Calls.regrown_of ((hct _ (h7.below (below_regrown w d os))).mono fun e W ⟨he, hw⟩ => by
      subst hw
      exact ⟨he.1, Below.refl _ _⟩)
  have H7 := Lib.hid h7
  have HBY := Lib.hid hby
  have HLD := Lib.hid hld
  have hnn : n ≤ 1000000 := by omega
  clear hct h1 h2 h3 h4 h5 h6 h7 c0 c1 hl hno hli hq hby hld hn
  go_enter Tryd.func19, Tryd.ntmps19
  go_wp2_with fail
  refine HN.out.mono ?_
  rintro e w' ⟨rfl, rfl⟩
  clear HN
  go_wp2_with fail
  refine wp_region_quiet_below (by kernel_rfl) (by kernel_rfl) ?_
  repeat (quiet_step (first | (with_reducible exact cC _ _) | (with_reducible exact cL _ _)))
  refine wpQuiet_nil ?_
  intro wq hwq
  obtain ⟨⟨dq, osq⟩, rfl⟩ := hwq
  have hb := below_regrown w dq osq
  have HY := Lib.hid (HBY.out _ (H7.out.below hb))
  have HW := Lib.hid hb
  clear cC cL k0 k1 hb HH H7 HBY
  generalize grow (redrawn w dq) osq = w9 at *
  have HO : Hid (OwnB w.heap.size w9 (.slice none 0 0) []) := World.ownsRow_nil _ _ _ _
  have l9 := HW.out.size
  generalize hys : xs.drop a = ys at *
  have HYS := Lib.hid hys
  clear hys
  have hld := HLD.out
  subst hld
  have K1 : ([] : List Int).length + ys.length ≤ 1000000 := by simpa using hnn
  clear HLD
  go_wp2_with (first | (at_builtin; refine wpList_app_bytes2 23 59 Tryd.underlying23 undO (v := .slice none 0 0) (xs := []) (p := q) (ys := ys) (c := ys.length) rfl _ _ rfl w.heap.size rfl HO.out rfl HY.out K1 l9 ?_))
  intro v2 w2 o2 g2 n2
  have HB2 := Lib.hid (own_below l9 HW.out HO.out g2)
  have HO2 := Lib.hid o2
  clear o2 g2 n2
  go_wp2_with fail
  go_ret
  exact ⟨_, rfl, by rw [HYS.out]; exact HO2.out, HB2.out⟩

/-- Of no reader. -/
theorem nil3_take (k : Int) (w : World) : Calls Tryd.prog 16 #[.pointer none, .int .i64 k] w fun e w' => e = .returned (.tuple #[.int .u32 0, .int .i64 1]) ∧ w = w' := by
  have HN := Lib.hid (none3_nil w)
  go_enter Tryd.func16, Tryd.ntmps16
  go_wp2_with fail
  refine wp_scope_fwd 0 rfl ?_
  go_wp2_with fail
  refine HN.out.mono ?_
  rintro e w' ⟨rfl, rfl⟩
  go_wp2_with fail
  go_step3
  refine ⟨rfl, ?_⟩
  go_wp2_with fail
  rw [Exit.noGoto_ret]
  go_ret2
  exact ⟨rfl, rfl⟩
theorem nil3_skip (k : Int) (w : World) : Calls Tryd.prog 18 #[.pointer none, .int .i64 k] w fun e w' => e = .returned (.int .i64 1) ∧ w = w' := by
  have HN := Lib.hid (none3_nil w)
  go_enter Tryd.func18, Tryd.ntmps18
  go_wp2_with fail
  refine wp_scope_fwd 0 rfl ?_
  go_wp2_with fail
  refine HN.out.mono ?_
  rintro e w' ⟨rfl, rfl⟩
  go_wp2_with fail
  go_step3
  refine ⟨rfl, ?_⟩
  go_wp2_with fail
  rw [Exit.noGoto_ret]
  go_ret
  exact ⟨rfl, rfl⟩
theorem nil3_at (w : World) : Calls Tryd.prog 20 #[.pointer none] w fun e w' => e = .returned (.int .i64 0) ∧ w = w' := by
  have HN := Lib.hid (none3_nil w)
  go_enter Tryd.func20, Tryd.ntmps20
  go_wp2_with fail
  refine HN.out.mono ?_
  rintro e w' ⟨rfl, rfl⟩
  go_wp2_with fail
  go_ret
  exact ⟨rfl, rfl⟩
theorem nil3_left (w : World) : Calls Tryd.prog 21 #[.pointer none] w fun e w' => e = .returned (.int .i64 0) ∧ w = w' := by
  have HN := Lib.hid (none3_nil w)
  go_enter Tryd.func21, Tryd.ntmps21
  go_wp2_with fail
  refine HN.out.mono ?_
  rintro e w' ⟨rfl, rfl⟩
  go_wp2_with fail
  go_ret
  exact ⟨rfl, rfl⟩
theorem nil3_rest (w : World) : Calls Tryd.prog 19 #[.pointer none] w fun e w' => e = .returned (.slice none 0 0) ∧ w = w' := by
  have HN := Lib.hid (none3_nil w)
  go_enter Tryd.func19, Tryd.ntmps19
  go_wp2_with fail
  refine HN.out.mono ?_
  rintro e w' ⟨rfl, rfl⟩
  go_wp2_with fail
  go_ret
  exact ⟨rfl, rfl⟩

theorem rdc3 : RdC (Rd3 0) where
  keep := fun _ _ _ _ _ h hb => h.keep hb
  lt := fun _ _ _ _ h => h.lt
  new := fun p c xs w hb hn _ hx => (new3_any p c xs w hb hn hx).mono fun _ _ ⟨r, h1, h2, h3⟩ => ⟨r, h1, h2.mono (Nat.zero_le _), h3⟩
  take := fun w r xs a k h ha hf => take3_any w r xs a k h ha hf
  left := fun w r xs a h ha => left3_any w r xs a h ha
end Go.Proofs.YthpmfeijnphdbaaDoor
