/- Contracts of layer 3's reader: New, Take, Skip, At, Left, Rest. -/
import Derived.Test.YtfbfdjcdjogefaaDoorN1
import Derived.Test.YtfbfdjcdjogefaaDoorO9
import Derived.Deep.AppendLies
namespace Go.Proofs.YtfbfdjcdjogefaaDoor
open Go Go.RowKit Go.Sort
attribute [local go_sem] Oper.semAt_some
attribute [local irreducible] wpQuiet

/-- A reader: its bytes lie in a block of its own, its place is told; both lie from base on. -/
def Rd3 (base : Nat) (w : World) (r : Nat) (xs : List Int) (a : Nat) : Prop := ∃ b c, Blk w r 97 #[.slice (some ⟨b, 0, none⟩) xs.length c, .int .i64 a] ∧ b < r ∧ b < w.heap.size ∧ xs.length ≤ c ∧ xs.length ≤ 1000000 ∧ IsBytes xs ∧ ByS w (some ⟨b, 0, none⟩) xs ∧ base ≤ b ∧ base ≤ r
theorem Rd3.keep {base : Nat} {w w' : World} {r : Nat} {xs : List Int} {a : Nat} (h : Rd3 base w r xs a) (hb : Below w.heap.size w w') : Rd3 base w' r xs a := by
  obtain ⟨b, c, h1, h2, h3, h4, h5, h6, h7, h8⟩ := h
  exact ⟨b, c, h1.below hb h1.lt, h2, by have := hb.size; omega, h4, h5, h6, h7.below hb, h8⟩
theorem Rd3.lt {base : Nat} {w : World} {r : Nat} {xs : List Int} {a : Nat} (h : Rd3 base w r xs a) : r < w.heap.size := by
  obtain ⟨b, c, h1, _⟩ := h
  exact h1.lt
theorem Rd3.ge {base : Nat} {w : World} {r : Nat} {xs : List Int} {a : Nat} (h : Rd3 base w r xs a) : base ≤ r := by
  obtain ⟨b, c, _, _, _, _, _, _, _, _, h9⟩ := h
  exact h9
theorem Rd3.mono {base base' : Nat} {w : World} {r : Nat} {xs : List Int} {a : Nat} (h : Rd3 base w r xs a) (hb : base' ≤ base) : Rd3 base' w r xs a := by
  obtain ⟨b, c, h1, h2, h3, h4, h5, h6, h7, h8, h9⟩ := h
  exact ⟨b, c, h1, h2, h3, h4, h5, h6, h7, by omega, by omega⟩
/-- A block ahead of it is turned. -/
theorem Rd3.other {base : Nat} {w w' : World} {r : Nat} {xs : List Int} {a : Nat} (h : Rd3 base w r xs a) {g : Nat} (hg : w.grownBy w' (some g)) (hgb : g < base) : Rd3 base w' r xs a := by
  obtain ⟨b, c, h1, h2, h3, h4, h5, h6, h7, h8, h9⟩ := h
  refine ⟨b, c, h1.grown hg (by simp; omega), h2, by have := hg.size; omega, h4, h5, h6, fun hn => ?_, h8, h9⟩
  obtain ⟨b', o', e, hl, hc⟩ := h7 hn
  cases e
  refine ⟨b, 0, rfl, by have := hg.size; omega, fun i hi => ?_⟩
  rw [hg.cell_far _ (by simpa using hl) (by simp; omega)]
  exact hc i hi
/-- The place moves on. -/
theorem Rd3.move {base : Nat} {w : World} {r : Nat} {xs : List Int} {a : Nat} (h : Rd3 base w r xs a) (z : Nat) : Rd3 base (w.setCell ⟨r, 1, none⟩ (.int .i64 z)) r xs z := by
  obtain ⟨b, c, h1, h2, h3, h4, h5, h6, h7, h8⟩ := h
  refine ⟨b, c, by simpa using h1.set_ 1 (.int .i64 z), h2, by simpa using h3, h4, h5, h6, fun hn => ?_, h8⟩
  obtain ⟨b', o', e, hl, hc⟩ := h7 hn
  cases e
  refine ⟨b, 0, rfl, by simpa using hl, fun i hi => ?_⟩
  rw [World.cell?_setCell_far _ _ _ _ (show r ≠ b by omega)]
  exact hc i hi
/-- A block behind it is turned. -/
theorem Rd3.far {base : Nat} {w : World} {r : Nat} {xs : List Int} {a : Nat} (h : Rd3 base w r xs a) (p : Addr) (v : Value) (hp : r < p.block) : Rd3 base (w.setCell p v) r xs a := by
  obtain ⟨b, c, h1, h2, h3, h4, h5, h6, h7, h8⟩ := h
  refine ⟨b, c, h1.far (by omega) v, h2, by simpa using h3, h4, h5, h6, fun hn => ?_, h8⟩
  obtain ⟨b', o', e, hl, hc⟩ := h7 hn
  cases e
  refine ⟨b, 0, rfl, by simpa using hl, fun i hi => ?_⟩
  rw [World.cell?_setCell_far _ _ _ _ (show p.block ≠ b by omega)]
  exact hc i hi

theorem undO : Tryd.prog.underlying 95 = some (.slice 5) := by kernel_rfl
set_option maxRecDepth 100000 in
set_option maxHeartbeats 1600000 in
theorem new3_any (p : Option Addr) (c : Nat) (xs : List Int) (w : World) (hb : IsBytes xs) (hn : xs.length ≤ 1000000) (hx : ByS w p xs) :
    Calls Tryd.prog 29 #[.slice p xs.length c] w fun e w' => ∃ r, e = .returned (.pointer (some ⟨r, 0, none⟩)) ∧ Rd3 w.heap.size w' r xs 0 ∧ w.heap.size ≤ r ∧ Below w.heap.size w w' := by
  have HE : OwnB w.heap.size (w.alloc (.cells #[] 5)) (.slice (some ⟨w.heap.size, 0, none⟩) 0 0) [] := World.ownsRow_made w #[] 0 (Nat.le_refl _) (Nat.zero_le _) (by simp)
  have HW0 : Below w.heap.size w (w.alloc (.cells #[] 5)) := (Below.refl _ _).alloc (Nat.le_refl _) _
  have K1 : ([] : List Int).length + xs.length ≤ 1000000 := by simpa using hn
  have HY := Lib.hid (hx.below HW0)
  have HB := Lib.hid hb
  have HHE := Lib.hid HE
  have HHW := Lib.hid HW0
  clear hx hb HE HW0
  go_enter Tryd.func29, Tryd.ntmps29
  go_wp2_with (first | (at_builtin; refine wpList_app_bytes2 95 26 undO Tryd.underlying26 (v := .slice (some ⟨w.heap.size, 0, none⟩) 0 0) (xs := []) (p := p) (ys := xs) (c := c) rfl _ _ rfl w.heap.size rfl HHE.out rfl HY.out K1 (by simp) ?_))
  intro v2 w2 o2 g2 n2
  have hb2 := own_below (by simp) HHW.out HHE.out g2
  have hne : v2 ≠ .slice none 0 0 := n2
  obtain ⟨g, cap, cur, rfl, hg1, hg2, hg3, hg4⟩ : ∃ g cap cur, v2 = .slice (some ⟨g, 0, none⟩) xs.length cap ∧ w.heap.size ≤ g ∧ w2.heap[g]? = some (.cells cur 5 (0, 0)) ∧ xs.length ≤ cap ∧ cur.toList.take (xs.length * 1) = xs.map (Value.int .u8) := by
    rcases o2.2 with ⟨e, _⟩ | ⟨g, cap, cur, e, hb, hg, hc, hm, hs, ht⟩
    · exact absurd e hne
    · exact ⟨g, cap, cur, e, hb, hg, hc, ht⟩
  obtain ⟨p', c', he', hc', hy', _⟩ := o2.byS
  cases he'
  have hgl : g < w2.heap.size := (Array.getElem?_eq_some_iff.1 hg2).1
  have HY2 := Lib.hid hy'
  have HB2 := Lib.hid hb2
  clear o2 g2 n2 hb2 hne hg2 hg4 hy' HHE HHW HY
  go_wp2_with fail
  go_ret
  refine ⟨w2.heap.size, rfl, ⟨g, cap, by simpa using Blk.new w2 97 #[.slice (some ⟨g, 0, none⟩) xs.length cap, .int .i64 0], by omega, by simp; omega, hg3, hn, HB.out, HY2.out.below ((Below.refl _ w2).alloc (Nat.le_refl _) _), hg1, HB2.out.size⟩, HB2.out.size, HB2.out.alloc HB2.out.size _⟩

theorem eqO (a : Addr) (n c : Nat) (w : World) : (binOp .eql 95 (.slice (some a) n c) (.slice none 0 0)).run Tryd.prog w = .ok (.bool false) w := by kernel_rfl

set_option maxRecDepth 100000 in
theorem none3_any {base : Nat} (w : World) (r : Nat) (xs : List Int) (a : Nat) (h : Rd3 base w r xs a) :
    Calls Tryd.prog 68 #[.pointer (some ⟨r, 0, none⟩)] w fun e w' => e = .returned (.bool false) ∧ w = w' := by
  obtain ⟨b, c, h1, _⟩ := h
  have c0 := h1.cell 0
  simp only [List.getElem?_toArray, List.getElem?_cons_zero] at c0
  have hq := eqO ⟨b, 0, none⟩ xs.length c
  clear h1
  go_enter Tryd.func68, Tryd.ntmps68
  go_wp2_with fail
  go_ret
  exact ⟨rfl, rfl⟩
set_option maxRecDepth 100000 in
theorem none3_nil (w : World) :
    Calls Tryd.prog 68 #[.pointer none] w fun e w' => e = .returned (.bool true) ∧ w = w' := by
  go_enter Tryd.func68, Tryd.ntmps68
  go_wp2_with fail
  go_ret
  exact ⟨rfl, rfl⟩

theorem grown_trans {a w w' : World} {row : Option Nat} (h : a.grownBy w row) (k : w.grownBy w' row) : a.grownBy w' row :=
  ⟨k.os.trans h.os, k.tape.trans h.tape, k.output.trans h.output, Nat.le_trans h.size k.size, fun i hi hne => (k.block i (Nat.lt_of_lt_of_le hi h.size) hne).trans (h.block i hi hne)⟩
/-- Nothing that a drawn region allocates comes near. -/
theorem Rd3.regrown {base : Nat} {w : World} {r : Nat} {xs : List Int} {a : Nat} (h : Rd3 base w r xs a) (d : Nat) (os : Array Obj) : Rd3 base (grow (redrawn w d) os) r xs a := h.keep (below_regrown w d os)

set_option maxRecDepth 100000 in
set_option maxHeartbeats 1600000 in
theorem take3_any {base : Nat} (w : World) (r : Nat) (xs : List Int) (a : Nat) (k : Int) (h : Rd3 base w r xs a) (ha : a ≤ xs.length) (hf : Fit3 w) :
    Calls Tryd.prog 50 #[.pointer (some ⟨r, 0, none⟩), .int .i64 k] w fun e w' => e = .returned (.tuple #[.int .u32 (readN xs a k), .int .i64 (readNo xs a k)]) ∧ Rd3 base w' r xs (if readNo xs a k = 0 then a + k.toNat else a) ∧ w.grownBy w' (some r) := by
  have HN := Lib.hid (none3_any w r xs a h)
  have HH := Lib.hid h
  obtain ⟨b, c, h1, h2, h3, h4, h5, h6, h7, _⟩ := h
  have c0 := h1.cell 0
  have c1 := h1.cell 1
  have f1 := h1.frozen 1
  simp only [List.getElem?_toArray, List.getElem?_cons_zero, List.getElem?_cons_succ] at c0 c1
  have hrd := fun W (hW : ByS W (some ⟨b, 0, none⟩) xs) (hF : Fit3 W) => read_any (some ⟨b, 0, none⟩) c xs h6 h5 h4 a k (by omega) W hW hF
  have hbd : readNo xs a k = 0 → 1 ≤ k ∧ k ≤ 4 ∧ a + k ≤ xs.length := fun hz => by
    have hk : W3 k := Classical.byContradiction fun hw => by unfold readNo at hz; rw [if_pos hw] at hz; cases hz
    obtain ⟨q, m, e1, rfl, hm, hq, _⟩ := read_put h6 hz
    omega
  have k0 := cell_regrown c0
  have k1 := cell_regrown c1
  have hv0 : readNo xs a k ≠ 0 → readN xs a k = 0 := fun hz => if_neg hz
  generalize readN xs a k = v at *
  generalize readNo xs a k = no at *
  have cR : ∀ d os, Calls Tryd.prog 69 #[.slice (some ⟨b, 0, none⟩) xs.length c, .int .i64 a, .int .i64 k] (grow (redrawn w d) os) fun e w'' => e = .returned (.tuple #[.int .u32 v, .int .i64 no]) ∧ ∃ p : Regrown, w'' = grow (redrawn w p.d) p.os :=
    fun d os => Calls.regrown_of ((hrd _ (h7.below (below_regrown w d os)) (hf.below (below_regrown w d os))).mono fun _ _ ⟨he, hw⟩ => ⟨he, by subst hw; exact Below.refl _ _⟩)
  clear hrd h1 h2 h3 h4 h5 h6 h7 hf c0 c1 f1
  by_cases hz : no = 0
  · subst hz
    simp only [if_true]
    obtain ⟨b1, b2, b3⟩ := hbd rfl
    clear hbd hv0
    go_enter Tryd.func50, Tryd.ntmps50
    go_wp2_with fail
    refine wp_scope_straight ?_
    go_wp2_with fail
    refine HN.out.mono ?_
    rintro e w' ⟨rfl, rfl⟩
    clear HN
    go_wp2_with fail
    refine wp_region_quiet_below (by kernel_rfl) (by kernel_rfl) ?_
    repeat (quiet_step (first | (with_reducible exact cR _ _)))
    refine wpQuiet_nil ?_
    intro wq hwq
    obtain ⟨⟨dq, osq⟩, rfl⟩ := hwq
    have hb := below_regrown w dq osq
    have HR := HH.out.regrown dq osq
    have HW := Lib.hid hb
    clear cR k0 k1 hb HH
    generalize grow (redrawn w dq) osq = w9 at *
    have HR9 := Lib.hid HR
    obtain ⟨b', c', h1, _⟩ := HR
    have c1 := h1.cell 1
    have f1 := h1.frozen 1
    simp only [List.getElem?_toArray, List.getElem?_cons_zero, List.getElem?_cons_succ] at c1
    clear h1
    go_wp2_with fail
    have hw : (a : Int) + k = ((a + k.toNat : Nat) : Int) := by omega
    rw [Exit.noGoto_ret, hw]
    go_ret2
    exact ⟨rfl, HR9.out.move _, grown_trans (grown_below HW.out _) (grown_set _ _ _ _)⟩
  · simp only [if_neg hz]
    have hzb : (no != 0) = true := by simpa using hz
    obtain rfl := hv0 hz
    clear hbd hv0
    go_enter Tryd.func50, Tryd.ntmps50
    go_wp2_with fail
    refine wp_scope_fwd 0 rfl ?_
    go_wp2_with fail
    refine HN.out.mono ?_
    rintro e w' ⟨rfl, rfl⟩
    clear HN
    go_wp2_with fail
    refine wp_region_quiet_below (by kernel_rfl) (by kernel_rfl) ?_
    repeat (quiet_step (first | (with_reducible exact cR _ _)))
    refine wpQuiet_nil ?_
    intro wq hwq
    obtain ⟨⟨dq, osq⟩, rfl⟩ := hwq
    have hb := below_regrown w dq osq
    have HR := Lib.hid (HH.out.regrown dq osq)
    have HW := Lib.hid hb
    clear cR k0 k1 hb HH
    generalize grow (redrawn w dq) osq = w9 at *
    go_wp2_with fail
    go_step3
    refine ⟨rfl, ?_⟩
    go_wp2_with fail
    rw [Exit.noGoto_ret]
    go_ret2
    exact ⟨rfl, HR.out, grown_below HW.out _⟩

theorem cutNo_skip {n a : Nat} {k : Int} : cutNo n a k = skipNo ((n : Int) - a) k := by
  unfold cutNo skipNo
  by_cases hk : k < 0
  · rw [if_pos (show (a : Int) < 0 ∨ k < 0 from .inr hk), if_pos hk]
  · rw [if_neg (show ¬ ((a : Int) < 0 ∨ k < 0) by omega), if_neg hk]

/-- Of no reader. -/
theorem nil3_take (k : Int) (w : World) : Calls Tryd.prog 50 #[.pointer none, .int .i64 k] w fun e w' => e = .returned (.tuple #[.int .u32 0, .int .i64 1]) ∧ w = w' := by
  have HN := Lib.hid (none3_nil w)
  go_enter Tryd.func50, Tryd.ntmps50
  go_wp2_with fail
  refine wp_scope_fwd 0 rfl ?_
  go_wp2_with fail
  refine HN.out.mono ?_
  rintro e w' ⟨rfl, rfl⟩
  go_wp2_with fail
  go_step3
  refine ⟨rfl, ?_⟩
  go_wp2_with fail
  rw [Exit.noGoto_ret]
  go_ret2
  exact ⟨rfl, rfl⟩
end Go.Proofs.YtfbfdjcdjogefaaDoor
