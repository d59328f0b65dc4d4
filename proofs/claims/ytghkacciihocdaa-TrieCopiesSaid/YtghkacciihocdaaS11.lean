/- Merged by tools/merge.py: S7, S8, S9, S10, S11. -/
import Derived.Test.YtghkacciihocdaaS6
namespace Go.Proofs.Ytghkacciihocdaa
open Go Go.RowKit Go.Sort
attribute [local go_sem] Oper.semAt_some
attribute [local irreducible] wpQuiet

/-- A trie's value. -/
def TrieV (w : World) (v : Value) (l : List Row6) : Prop := ∃ A c, v = .agg #[.slice A l.length c] ∧ l.length ≤ c ∧ LiesS w A (rowCs l)
/-- A trie that is handed over, a prefix, and a trie that is to be told: their boxes. -/
structure Tri6 (w : World) (v z : Value) (x n : Int) (W : World) : Prop where
  box : Blk W w.heap.size 28 #[v]
  pre : Blk W (w.heap.size + 1) 34 #[.int .u32 x, .int .i64 n]
  out : Blk W (w.heap.size + 1 + 1) 28 #[z]
  bel : Below w.heap.size w W
theorem tri6_new (w : World) (v z : Value) (x n : Int) : Tri6 w v z x n (((w.alloc (.cells #[v] 28)).alloc (.cells #[.int .u32 x, .int .i64 n] 34)).alloc (.cells #[z] 28)) := by
  have h := two6_new w v x n
  refine ⟨h.1.alloc _, h.2.1.alloc _, ?_, h.2.2.alloc (by simp; omega) _⟩
  have := Blk.new ((w.alloc (.cells #[v] 28)).alloc (.cells #[.int .u32 x, .int .i64 n] 34)) 28 #[z]
  simpa using this
theorem Tri6.below {w W W' : World} {v z : Value} {x n : Int} (h : Tri6 w v z x n W) (hb : Below W.heap.size W W') : Tri6 w v z x n W' :=
  ⟨h.box.below hb h.box.lt, h.pre.below hb h.pre.lt, h.out.below hb h.out.lt, h.bel.trans (hb.mono h.bel.size)⟩
theorem Tri6.grown {w W W' : World} {v z : Value} {x n : Int} {row : Option Nat} (h : Tri6 w v z x n W) (hg : W.grownBy W' row) (hr : ∀ k, row = some k → w.heap.size + 3 ≤ k) : Tri6 w v z x n W' :=
  ⟨h.box.grown hg (fun e => by have := hr _ e.symm; omega), h.pre.grown hg (fun e => by have := hr _ e.symm; omega), h.out.grown hg (fun e => by have := hr _ e.symm; omega), h.bel.grown hg h.bel.size (fun k e => by have := hr k e; omega)⟩
theorem Tri6.cells {w W : World} {v z : Value} {x n : Int} (h : Tri6 w v z x n W) : W.cell? ⟨w.heap.size, 0, none⟩ = some v ∧ W.cell? ⟨w.heap.size + 1, 0, none⟩ = some (.int .u32 x) ∧ W.cell? ⟨w.heap.size + 1, 1, none⟩ = some (.int .i64 n) ∧ W.cell? ⟨w.heap.size + 1 + 1, 0, none⟩ = some z := by
  have o0 := h.out.cell 0
  have c0 := h.box.cell 0
  have d0 := h.pre.cell 0
  have d1 := h.pre.cell 1
  simp only [List.getElem?_toArray, List.getElem?_cons_zero, List.getElem?_cons_succ] at c0 d0 d1 o0
  exact ⟨c0, d0, d1, o0⟩
theorem Tri6.store {w W : World} {v z : Value} {x n : Int} (h : Tri6 w v z x n W) (u : Value) : (W.setCell ⟨w.heap.size + 1 + 1, 0, none⟩ u).cell? ⟨w.heap.size + 1 + 1, 0, none⟩ = some u ∧ Below w.heap.size w (W.setCell ⟨w.heap.size + 1 + 1, 0, none⟩ u) := by
  have hS := h.out.set_ 0 u
  have s0 := hS.cell 0
  simp at s0
  exact ⟨s0, h.bel.setCell (p := ⟨w.heap.size + 1 + 1, 0, none⟩) (by simp; omega) u⟩
theorem Tri6.far {w W : World} {v z : Value} {x n : Int} (h : Tri6 w v z x n W) (u : Value) : (W.setCell ⟨w.heap.size + 1 + 1, 0, none⟩ u).cell? ⟨w.heap.size, 0, none⟩ = some v := by
  have c0 := (h.box.far (p := ⟨w.heap.size + 1 + 1, 0, none⟩) (by simp; omega) u).cell 0
  simpa using c0
theorem own_far {w : World} {base : Nat} {e : TypeId} {size n : Nat} {v : Value} {xs : List Value} (h : w.ownsRow base e size v n xs) {p : Addr} (hp : p.block < base) {u : Value} : (w.setCell p u).ownsRow base e size v n xs := by
  refine ⟨h.1, ?_⟩
  rcases h.2 with hz | ⟨g, cap, cur, rfl, hg, hh, rest⟩
  · exact .inl hz
  · exact .inr ⟨g, cap, cur, rfl, hg, (Below.heap_setCell w p u g (by omega)).trans hh, rest⟩
theorem Tri6.frozen {w W : World} {v z : Value} {x n : Int} (h : Tri6 w v z x n W) : W.frozen? ⟨w.heap.size + 1 + 1, 0, none⟩ = false := h.out.frozen 0
theorem Tri6.size {w W : World} {v z : Value} {x n : Int} (h : Tri6 w v z x n W) : w.heap.size + 3 ≤ W.heap.size := by have := h.out.lt; omega

/-- Rows without that of a prefix; what it stood for; whether it was there; an error. -/
def takeF (l : List Row6) (p : Int × Int) : List Row6 × Int × Bool × Int :=
  if right p.1 p.2 then (if spot6 l p < l.length then (l.take (spot6 l p) ++ l.drop (spot6 l p + 1), ((l[spot6 l p]?).getD ((0, 0), 0)).2, true, 0) else (l, 0, false, 0)) else (l, 0, false, 2)
theorem infoRow : (Try.prog.info? 41).map (fun i => (i.zero, i.size, i.bytes)) = some (some (.agg #[.int .u32 0, .int .i64 0, .int .i64 0]), 3, 24) := by kernel_rfl

set_option maxRecDepth 100000 in
set_option maxHeartbeats 3200000 in
theorem refTake_any (A : Option Addr) (c : Nat) (l : List Row6) (x n : Int) (x0 : 0 ≤ x) (x1 : x < 4294967296) (hl : l.length ≤ 1000) (hcl : l.length ≤ c) (w : World) (hA : LiesS w A (rowCs l)) :
    Calls Try.prog 35 #[.agg #[.slice A l.length c], pfx x n] w fun e w' => (∃ v', e = .returned (.tuple #[v', .int .i64 (takeF l (x, n)).2.1, .bool (takeF l (x, n)).2.2.1, .int .i64 (takeF l (x, n)).2.2.2]) ∧ TrieV w' v' (takeF l (x, n)).1) ∧ Below w.heap.size w w' := by
  obtain ⟨i0, hi, hz0, hz1, hz2⟩ := info_parts infoRow
  have HI := Lib.hid (And.intro hi (And.intro hz0 (And.intro hz1 hz2)))
  have HA := Lib.hid hA
  have HT := Lib.hid (tri6_new w (.slice A l.length c) (.slice none 0 0) x n)
  clear hA hi hz0 hz1 hz2
  by_cases hr : right x n
  · by_cases hsp : spot6 l (x, n) < l.length
    · have hat : atF l (x, n) = (spot6 l (x, n) : Int) := if_pos hsp
      have hF : takeF l (x, n) = (l.take (spot6 l (x, n)) ++ l.drop (spot6 l (x, n) + 1), (l[spot6 l (x, n)]'hsp).2, true, 0) := by
        unfold takeF; rw [if_pos hr, if_pos hsp, List.getElem?_eq_getElem hsp]; rfl
      rw [hF]
      clear hF
      generalize spot6 l (x, n) = i at *
      obtain ⟨b, o, rfl, hbl, _, _, r2⟩ := lies_row HA.out i hsp
      have HBL := Lib.hid hbl
      generalize (l[i]'hsp) = row at *
      obtain ⟨⟨y, m⟩, v⟩ := row
      dsimp only at r2
      have HR2 := Lib.hid r2
      clear r2
      go_enter Try.func35, Try.ntmps35
      have d0 := HT.out.cells
      go_wp2_with fail
      refine (refRight_any x n x0 x1 _).mono ?_
      rintro e w2 ⟨rfl, hb2⟩
      have HT2 := Lib.hid (HT.out.below hb2)
      clear hb2 HT d0
      obtain ⟨c0, d0, d1, o0⟩ := HT2.out.cells
      have f0 := HT2.out.frozen
      rw [decide_eq_true hr]
      go_wp2_with fail
      refine (refAt_any _ c l x n (by omega) w2 (HA.out.below HT2.out.bel)).mono ?_
      rintro e w3 ⟨rfl, hb3⟩
      have HT3 := Lib.hid (HT2.out.below hb3)
      clear hb3 c0 d0 d1 o0 HT2 f0
      obtain ⟨c0, d0, d1, o0⟩ := HT3.out.cells
      have f0 := HT3.out.frozen
      rw [hat]
      have r2 := (HT3.out.bel.cell (p := ⟨b, o + i * 3 + 2, none⟩) HBL.out).trans HR2.out
      clear hat
      have hlt2 : (i : Int) < (l.length : Int) := by omega
      have HLW := Lib.hid (HA.out.below HT3.out.bel)
      have HY1 := Lib.hid (show LiesS w3 (some ⟨b, o, none⟩) (rowCs (l.take i)) by rw [rowCs_take _ _ (by omega)]; exact HLW.out.take _)
      have HY2 : Hid (LiesS w3 (if c = i + 1 then some ⟨b, o, none⟩ else some ⟨b, o + (i + 1) * 3, none⟩) (rowCs (l.drop (i + 1)))) := Lib.hid (by
        rw [rowCs_drop _ _ (by omega)]
        split
        · rw [List.drop_of_length_le (by rw [rowCs_len]; omega)]; exact LiesS.nil _ _
        · exact HLW.out.drop _)
      have HS : Hid (∀ W, Tri6 w (.slice (some ⟨b, o, none⟩) l.length c) (.slice none 0 0) x n W → W.cell? ⟨w.heap.size, 0, none⟩ = some (.slice (some ⟨b, o, none⟩) l.length c)) := Lib.hid (fun W h => h.cells.1)
      go_wp2_with fail
      clear r2 c0 d0 d1 o0 f0
      have hd := below_drew w3
      have ht0 := HT3.out.below hd
      refine wp_region_noPanic ?_
      refine wp_region_held_drew (S := fun W => W.cell? ⟨w.heap.size, 0, none⟩ = some (.slice (some ⟨b, o, none⟩) l.length c)) (by kernel_rfl) (HS.out _ ht0) ?_
      intro hS0
      have hic : i ≤ c := by omega
      have hic2 : i + 1 ≤ c := by omega
      have hwr : IntKind.i64.wrap ((i : Int) + 1) = (i : Int) + 1 := by rw [IntKind.wrap_i64]; omega
      have hw1 : (0 : Int) ≤ (i : Int) + 1 := by omega
      have hw2 : (i : Int) + 1 ≤ (l.length : Int) := by omega
      have hw3 : ((i : Int) + 1).toNat = i + 1 := by omega
      refine wpAnyH_take (i := 1) (v := ?v1) (by rw [List.getElem?_toArray]; exact rfl) (by kernel_rfl) (by kernel_rfl) (by kernel_rfl) (fun _ _ _ h => h) (Or.inl ⟨by rfl, ?hy1⟩) (by assumption) ?rest1
      case hy1 => intro w hSw; (try dsimp only at hSw); go_simp; (try with_reducible rfl)
      try simp only [Act.put, List.setIfInBounds_toArray, List.set_cons_zero, List.set_cons_succ]
      refine wpAnyH_take (i := 2) (v := ?v2) (by rw [List.getElem?_toArray]; exact rfl) (by kernel_rfl) (by kernel_rfl) (by kernel_rfl) (fun _ _ _ h => h) (Or.inl ⟨by rfl, ?hy2⟩) (by assumption) ?rest2
      case hy2 => intro w hSw; (try dsimp only at hSw); go_simp; (try with_reducible rfl)
      try simp only [Act.put, List.setIfInBounds_toArray, List.set_cons_zero, List.set_cons_succ]
      refine wpAnyH_take (i := 3) (v := ?v3) (by rw [List.getElem?_toArray]; exact rfl) (by kernel_rfl) (by kernel_rfl) (by kernel_rfl) (fun _ _ _ h => h) (Or.inl ⟨by rfl, ?hy3⟩) (by assumption) ?rest3
      case hy3 => intro w hSw; (try dsimp only at hSw); go_simp; (try with_reducible rfl)
      try simp only [Act.put, List.setIfInBounds_toArray, List.set_cons_zero, List.set_cons_succ]
      refine wpAnyH_take (i := 4) (v := ?v4) (by rw [List.getElem?_toArray]; exact rfl) (by kernel_rfl) (by kernel_rfl) (by kernel_rfl) (fun _ _ _ h => h) (Or.inl ⟨by rfl, ?hy4⟩) (by assumption) ?rest4
      case hy4 => intro w hSw; (try dsimp only at hSw); go_simp; (try with_reducible rfl)
      try simp only [Act.put, List.setIfInBounds_toArray, List.set_cons_zero, List.set_cons_succ]
      refine wpAnyH_take (i := 6) (v := ?v5) (by rw [List.getElem?_toArray]; exact rfl) (by kernel_rfl) (by kernel_rfl) (by kernel_rfl) (fun _ _ _ h => h) (Or.inl ⟨by rfl, ?hy5⟩) (by assumption) ?rest5
      case hy5 => intro w hSw; (try dsimp only at hSw); go_simp; (try with_reducible rfl)
      try simp only [Act.put, List.setIfInBounds_toArray, List.set_cons_zero, List.set_cons_succ]
      refine wpAnyH_take (i := 7) (v := ?v6) (by rw [List.getElem?_toArray]; exact rfl) (by kernel_rfl) (by kernel_rfl) (by kernel_rfl) (fun _ _ _ h => h) (Or.inl ⟨by rfl, ?hy6⟩) (by assumption) ?rest6
      case hy6 => intro w hSw; (try dsimp only at hSw); go_simp; (try with_reducible rfl)
      try simp only [Act.put, List.setIfInBounds_toArray, List.set_cons_zero, List.set_cons_succ]
      refine wpAnyH_take (i := 8) (v := ?v7) (by rw [List.getElem?_toArray]; exact rfl) (by kernel_rfl) (by kernel_rfl) (by kernel_rfl) (fun _ _ _ h => h) (Or.inl ⟨by rfl, ?hy7⟩) (by assumption) ?rest7
      case hy7 => intro w hSw; (try dsimp only at hSw); go_simp; (try with_reducible rfl)
      try simp only [Act.put, List.setIfInBounds_toArray, List.set_cons_zero, List.set_cons_succ]
      refine wpAnyH_take (i := 9) (v := ?v8) (by rw [List.getElem?_toArray]; exact rfl) (by kernel_rfl) (by kernel_rfl) (by kernel_rfl) (fun _ _ _ h => h) (Or.inl ⟨by rfl, ?hy8⟩) (by assumption) ?rest8
      case hy8 => intro w hSw; (try dsimp only at hSw); go_simp; (try with_reducible rfl)
      try simp only [Act.put, List.setIfInBounds_toArray, List.set_cons_zero, List.set_cons_succ]
      refine wpAnyH_take (i := 10) (v := ?v9) (by rw [List.getElem?_toArray]; exact rfl) (by kernel_rfl) (by kernel_rfl) (by kernel_rfl) (fun _ _ _ h => h) (Or.inl ⟨by rfl, ?hy9⟩) (by assumption) ?rest9
      case hy9 => intro w hSw; (try dsimp only at hSw); go_simp; (try with_reducible rfl)
      try simp only [Act.put, List.setIfInBounds_toArray, List.set_cons_zero, List.set_cons_succ]
      refine wpAnyH_take (i := 13) (v := ?v10) (by rw [List.getElem?_toArray]; exact rfl) (by kernel_rfl) (by kernel_rfl) (by kernel_rfl) (fun _ _ _ h => h) (Or.inl ⟨by rfl, ?hy10⟩) (by assumption) ?rest10
      case hy10 => intro w hSw; (try dsimp only at hSw); go_simp; (try with_reducible rfl)
      try simp only [Act.put, List.setIfInBounds_toArray, List.set_cons_zero, List.set_cons_succ]
      refine ready_call (i := 0) (by kernel_rfl) (by rw [List.getElem?_toArray]; exact rfl) (by kernel_rfl) (fun K1 hK1 => ?_)
      go_simp
      have hal1 : Below w3.drew.heap.size w3.drew (w3.drew.alloc (.cells #[] 41)) := (Below.refl _ _).alloc (Nat.le_refl _) _
      have ht1 := ht0.below hal1
      have hb1 := hd.trans (hal1.mono hd.size)
      have ho1 := World.ownsRow_lit (base := w.heap.size + 3) (e := 41) (size := 3) w3.drew #[] 0 ht0.size (by decide) rfl
      try simp at ho1
      refine hK1.out _ _ (HS.out _ ht1) (fun hS1 => ?_)
      clear hK1 K1
      try simp only [Act.put, List.setIfInBounds_toArray, List.set_cons_zero, List.set_cons_succ]
      refine ready_call (i := 5) (by kernel_rfl) (by rw [List.getElem?_toArray]; exact rfl) (by kernel_rfl) (fun K1 hK1 => ?_)
      refine wp_app_row (.tmp 26) (.tmp 30) (by rfl) (w.heap.size + 3) Try.underlying26 HI.out.1 HI.out.2.1 HI.out.2.2.1 HI.out.2.2.2 rfl (by decide) (by rfl) ho1 (by rfl) (HY1.out.below hb1) (by rw [rowCs_len, List.length_take]; omega) rowCs_one (by omega) (by decide) ht1.size (fun v2 w5 ho2 hg2 => ?_)
      have ht2 := ht1.grown hg2 (fun r e => (ho1.lt r e).1)
      have hb2 := hb1.grown hg2 hb1.size (fun r e => by simp [Value.ownBlock] at e; omega)
      refine hK1.out _ _ (HS.out _ ht2) (fun hS2 => ?_)
      clear hK1 K1
      try simp only [Act.put, List.setIfInBounds_toArray, List.set_cons_zero, List.set_cons_succ]
      refine ready_call (i := 11) (by kernel_rfl) (by rw [List.getElem?_toArray]; exact rfl) (by kernel_rfl) (fun K1 hK1 => ?_)
      refine wp_app_row (.tmp 31) (.tmp 36) (by rfl) (w.heap.size + 3) Try.underlying26 HI.out.1 HI.out.2.1 HI.out.2.2.1 HI.out.2.2.2 rfl (by decide) (by rfl) ho2 (by rfl) (HY2.out.below hb2) (by rw [rowCs_len, List.length_drop]) rowCs_one (by omega) (by decide) ht2.size (fun v3 w6 ho3 hg3 => ?_)
      have ht3 := ht2.grown hg3 (fun r e => (ho2.lt r e).1)
      obtain ⟨N, hN⟩ : ∃ N, (l.take i ++ l.drop (i + 1)).length = N := ⟨_, rfl⟩
      have ho4 := own_fit (n' := N) (xs' := rowCs (l.take i ++ l.drop (i + 1))) ho3 (Nat.le_refl _) (by rw [← hN]; simp only [List.length_append, List.length_take, List.length_drop]; omega) (by rw [rowCs_app]; rfl)
      obtain ⟨A3, c3, rfl⟩ := own_slice ho4
      refine hK1.out _ _ (HS.out _ ht3) (fun hS3 => ?_)
      clear hK1 K1
      try simp only [Act.put, List.setIfInBounds_toArray, List.set_cons_zero, List.set_cons_succ]
      refine wpAnyH_take (i := 12) (v := ?v11) (by rw [List.getElem?_toArray]; exact rfl) (by kernel_rfl) (by kernel_rfl) (by kernel_rfl) (fun _ _ _ h => h) (Or.inl ⟨by rfl, ?hy11⟩) (by assumption) ?rest11
      case hy11 => intro w hSw; (try dsimp only at hSw); go_simp; (try with_reducible rfl)
      try simp only [Act.put, List.setIfInBounds_toArray, List.set_cons_zero, List.set_cons_succ]
      refine ready_call (i := 14) (by kernel_rfl) (by rw [List.getElem?_toArray]; exact rfl) (by kernel_rfl) (fun K1 hK1 => ?_)
      have o0 := ht3.cells.2.2.2
      have f0 := ht3.frozen
      go_simp
      refine hK1.out _ _ ?hst (fun hS4 => ?_)
      case hst => exact ht3.far _
      clear hK1 K1
      try simp only [Act.put, List.setIfInBounds_toArray, List.set_cons_zero, List.set_cons_succ]
      refine ready_call (i := 15) (by kernel_rfl) (by rw [List.getElem?_toArray]; exact rfl) (by kernel_rfl) (fun K1 hK1 => ?_)
      go_simp
      refine hK1.out _ _ hS4 (fun hS5 => ?_)
      clear hK1 K1
      try simp only [Act.put, List.setIfInBounds_toArray, List.set_cons_zero, List.set_cons_succ]
      refine ready_call (i := 16) (by kernel_rfl) (by rw [List.getElem?_toArray]; exact rfl) (by kernel_rfl) (fun K1 hK1 => ?_)
      go_simp
      refine hK1.out _ _ hS4 (fun hS6 => ?_)
      clear hK1 K1
      try simp only [Act.put, List.setIfInBounds_toArray, List.set_cons_zero, List.set_cons_succ]
      refine ready_call (i := 17) (by kernel_rfl) (by rw [List.getElem?_toArray]; exact rfl) (by kernel_rfl) (fun K1 hK1 => ?_)
      go_simp
      refine hK1.out _ _ hS4 (fun hS7 => ?_)
      clear hK1 K1
      try simp only [Act.put, List.setIfInBounds_toArray, List.set_cons_zero, List.set_cons_succ]
      refine wpAnyH_done (by kernel_rfl) ?_ _
      refine NoPanic.normal ?_
      go_wp2_with fail
      all_goals
        refine ⟨rfl, .tuple #[.agg #[.slice A3 N c3], .int .i64 v, .bool true, .int .i64 0], ?_, ⟨_, rfl, A3, c3, by rw [hN], by rw [hN]; exact (own_cap ho4).1, lies_own (own_far ho4 (by simp))⟩, (ht3.store _).2⟩
        simp [results, Try.f35, go_sem, (ht3.store (.slice A3 N c3)).1]
    · have hat : atF l (x, n) = -1 := if_neg hsp
      have hF : takeF l (x, n) = (l, 0, false, 0) := by unfold takeF; rw [if_pos hr, if_neg hsp]
      rw [hF]
      clear hF
      go_enter Try.func35, Try.ntmps35
      have d0 := HT.out.cells
      go_wp2_with fail
      refine (refRight_any x n x0 x1 _).mono ?_
      rintro e w2 ⟨rfl, hb2⟩
      have HT2 := Lib.hid (HT.out.below hb2)
      clear hb2 HT d0
      obtain ⟨c0, d0, d1, o0⟩ := HT2.out.cells
      have f0 := HT2.out.frozen
      rw [decide_eq_true hr]
      go_wp2_with fail
      refine (refAt_any _ c l x n (by omega) w2 (HA.out.below HT2.out.bel)).mono ?_
      rintro e w3 ⟨rfl, hb3⟩
      have HT3 := Lib.hid (HT2.out.below hb3)
      clear hb3 c0 d0 d1 o0 HT2 f0
      obtain ⟨c0, d0, d1, o0⟩ := HT3.out.cells
      have f0 := HT3.out.frozen
      rw [hat]
      go_wp2_with fail
      refine ⟨rfl, .tuple #[.agg #[.slice A l.length c], .int .i64 0, .bool false, .int .i64 0], ?_, ⟨_, rfl, _, _, rfl, hcl, HA.out.below (HT3.out.store _).2⟩, (HT3.out.store _).2⟩
      simp [results, Try.f35, go_sem, (HT3.out.store (.slice A l.length c)).1]
  · have hF : takeF l (x, n) = (l, 0, false, 2) := by unfold takeF; rw [if_neg hr]
    rw [hF]
    clear hF
    go_enter Try.func35, Try.ntmps35
    have d0 := HT.out.cells
    go_wp2_with fail
    refine (refRight_any x n x0 x1 _).mono ?_
    rintro e w2 ⟨rfl, hb2⟩
    have HT2 := Lib.hid (HT.out.below hb2)
    clear hb2 HT d0
    obtain ⟨c0, d0, d1, o0⟩ := HT2.out.cells
    have f0 := HT2.out.frozen
    rw [decide_eq_false hr]
    go_wp2_with fail
    refine ⟨rfl, .tuple #[.agg #[.slice A l.length c], .int .i64 0, .bool false, .int .i64 2], ?_, ⟨_, rfl, _, _, rfl, hcl, HA.out.below (HT2.out.store _).2⟩, (HT2.out.store _).2⟩
    simp [results, Try.f35, go_sem, (HT2.out.store (.slice A l.length c)).1]
end Go.Proofs.Ytghkacciihocdaa

namespace Go.Proofs.Ytghkacciihocdaa
open Go Go.RowKit Go.Sort
attribute [local go_sem] Oper.semAt_some
attribute [local irreducible] wpQuiet

/-- Rows with that of a prefix; what it stood for; whether it was there; an error. -/
def putF (l : List Row6) (p : Int × Int) (v : Int) : List Row6 × Int × Bool × Int :=
  if right p.1 p.2 then (if spot6 l p < l.length then (l.set (spot6 l p) (p, v), ((l[spot6 l p]?).getD ((0, 0), 0)).2, true, 0)
    else if 512 ≤ l.length then (l, 0, false, 3) else (l.take (ahead6 l p) ++ [(p, v)] ++ l.drop (ahead6 l p), 0, false, 0)) else (l, 0, false, 2)
theorem Tri6.far2 {w W : World} {v z : Value} {x n : Int} (h : Tri6 w v z x n W) (u : Value) : (W.setCell ⟨w.heap.size + 1 + 1, 0, none⟩ u).cell? ⟨w.heap.size + 1, 0, none⟩ = some (.int .u32 x) ∧ (W.setCell ⟨w.heap.size + 1 + 1, 0, none⟩ u).cell? ⟨w.heap.size + 1, 1, none⟩ = some (.int .i64 n) := by
  have hb := h.pre.far (p := ⟨w.heap.size + 1 + 1, 0, none⟩) (by simp) u
  have c0 := hb.cell 0
  have c1 := hb.cell 1
  simp at c0 c1
  exact ⟨c0, c1⟩
theorem lies_new6 (w : World) (x n v : Int) : LiesS (w.alloc (.cells #[.int .u32 x, .int .i64 n, .int .i64 v] 41)) (some ⟨w.heap.size, 0, none⟩) [.int .u32 x, .int .i64 n, .int .i64 v] :=
  lies_own (World.ownsRow_lit (base := 0) (e := 41) (size := 3) w #[.int .u32 x, .int .i64 n, .int .i64 v] 1 (Nat.zero_le _) (by decide) rfl)

set_option maxRecDepth 100000 in
set_option maxHeartbeats 3200000 in
theorem refPut6_any (A : Option Addr) (c : Nat) (l : List Row6) (x n v : Int) (x0 : 0 ≤ x) (x1 : x < 4294967296) (hl : l.length ≤ 1000) (hcl : l.length ≤ c) (w : World) (hA : LiesS w A (rowCs l)) (hno : ¬ (right x n ∧ spot6 l (x, n) < l.length)) :
    Calls Try.prog 34 #[.agg #[.slice A l.length c], pfx x n, .int .i64 v] w fun e w' => (∃ v', e = .returned (.tuple #[v', .int .i64 (putF l (x, n) v).2.1, .bool (putF l (x, n) v).2.2.1, .int .i64 (putF l (x, n) v).2.2.2]) ∧ TrieV w' v' (putF l (x, n) v).1) ∧ Below w.heap.size w w' := by
  obtain ⟨i0, hi, hz0, hz1, hz2⟩ := info_parts infoRow
  have HI := Lib.hid (And.intro hi (And.intro hz0 (And.intro hz1 hz2)))
  have HA := Lib.hid hA
  have HT := Lib.hid (tri6_new w (.slice A l.length c) (.slice none 0 0) x n)
  clear hA hi hz0 hz1 hz2
  by_cases hr : right x n
  · have hsp : ¬ spot6 l (x, n) < l.length := fun h => hno ⟨hr, h⟩
    have hat : atF l (x, n) = -1 := if_neg hsp
    by_cases hbig : 512 ≤ l.length
    · have hF : putF l (x, n) v = (l, 0, false, 3) := by unfold putF; rw [if_pos hr, if_neg hsp, if_pos hbig]
      rw [hF]
      clear hF
      have hbig2 : (512 : Int) ≤ (l.length : Int) := by omega
      go_enter Try.func34, Try.ntmps34
      have d0 := HT.out.cells
      go_wp2_with fail
      refine (refRight_any x n x0 x1 _).mono ?_
      rintro e w2 ⟨rfl, hb2⟩
      have HT2 := Lib.hid (HT.out.below hb2)
      clear hb2 HT d0
      obtain ⟨c0, d0, d1, o0⟩ := HT2.out.cells
      have f0 := HT2.out.frozen
      rw [decide_eq_true hr]
      go_wp2_with fail
      refine (refAt_any _ c l x n (by omega) w2 (HA.out.below HT2.out.bel)).mono ?_
      rintro e w3 ⟨rfl, hb3⟩
      have HT3 := Lib.hid (HT2.out.below hb3)
      clear hb3 c0 d0 d1 o0 HT2 f0
      obtain ⟨c0, d0, d1, o0⟩ := HT3.out.cells
      have f0 := HT3.out.frozen
      rw [hat]
      clear hat
      go_wp2_with fail
      refine ⟨rfl, .tuple #[.agg #[.slice A l.length c], .int .i64 0, .bool false, .int .i64 3], ?_, ⟨_, rfl, _, _, rfl, hcl, HA.out.below (HT3.out.store _).2⟩, (HT3.out.store _).2⟩
      simp [results, Try.f34, go_sem, (HT3.out.store (.slice A l.length c)).1]
    · have hF : putF l (x, n) v = (l.take (ahead6 l (x, n)) ++ [((x, n), v)] ++ l.drop (ahead6 l (x, n)), 0, false, 0) := by unfold putF; rw [if_pos hr, if_neg hsp, if_neg hbig]
      rw [hF]
      clear hF
      have hqle := ahead6_le l (x, n)
      obtain ⟨q, hq⟩ : ∃ q, ahead6 l (x, n) = q := ⟨_, rfl⟩
      rw [hq]
      rw [hq] at hqle
      obtain ⟨L, hL⟩ : ∃ L, l.take q ++ [((x, n), v)] ++ l.drop q = L := ⟨_, rfl⟩
      rw [hL]
      have HLD := Lib.hid hL
      clear hL
      have HQ := Lib.hid hq
      clear hq
      have hbig2 : ¬ (512 : Int) ≤ (l.length : Int) := by omega
      go_enter Try.func34, Try.ntmps34
      have d0 := HT.out.cells
      go_wp2_with fail
      refine (refRight_any x n x0 x1 _).mono ?_
      rintro e w2 ⟨rfl, hb2⟩
      have HT2 := Lib.hid (HT.out.below hb2)
      clear hb2 HT d0
      obtain ⟨c0, d0, d1, o0⟩ := HT2.out.cells
      have f0 := HT2.out.frozen
      rw [decide_eq_true hr]
      go_wp2_with fail
      refine (refAt_any _ c l x n (by omega) w2 (HA.out.below HT2.out.bel)).mono ?_
      rintro e w3 ⟨rfl, hb3⟩
      have HT3 := Lib.hid (HT2.out.below hb3)
      clear hb3 c0 d0 d1 o0 HT2 f0
      obtain ⟨c0, d0, d1, o0⟩ := HT3.out.cells
      have f0 := HT3.out.frozen
      rw [hat]
      clear hat
      go_upto_block 0 with fail
      clear c0 d0 d1 o0 f0
      go_cut [13] from 45 to 62 (fun v13 wx => v13 = .int .i64 q ∧ Hid (Tri6 w (.slice A l.length c) (.slice none 0 0) x n wx))
      case first =>
        go_wp2_with fail
        go_loopw [13] (fun i wr => ∃ k : Nat, k ≤ l.length ∧ i = .int .i64 k ∧ Hid (∀ j (hj : j < l.length), j < k → decide (ordF (l[j]'hj).1.1 (l[j]'hj).1.2 x n < 0) = true) ∧ Hid (Tri6 w (.slice A l.length c) (.slice none 0 0) x n wr)) (fun i _ => l.length - (intOf i).toNat)
        case atStart => exact ⟨0, by omega, rfl, Lib.hid (fun j _ h => by omega), HT3⟩
        case round =>
          clear HT3
          obtain ⟨k, hk, rfl, HZ, HW⟩ := hrel
          obtain ⟨c0, d0, d1, _⟩ := HW.out.cells
          have q0 := cell_regrown c0
          have q1 := cell_regrown d0
          have q2 := cell_regrown d1
          clear c0 d0 d1
          by_cases hlt : k < l.length
          · obtain ⟨b, o, rfl, hbl, r0, r1, _⟩ := lies_row (HA.out.below HW.out.bel) k hlt
            have k0 := cell_regrown r0
            have k1 := cell_regrown r1
            clear r0 r1
            obtain ⟨⟨⟨y, m⟩, u⟩, hym⟩ : ∃ p, l[k]'hlt = p := ⟨_, rfl⟩
            simp only [hym] at k0 k1
            have HYM := Lib.hid hym
            clear hym
            have hlt2 : (k : Int) < (l.length : Int) := by omega
            have bO := ord_quiet y m x n wr
            by_cases hle : ordF y m x n < 0
            · go_wp2_with fail
              refine wp_region_quiet_below (by kernel_rfl) (by kernel_rfl) ?_
              repeat (quiet_step (first | (with_reducible exact bO _ _)))
              refine wpQuiet_nil ?_
              intro w2 hw2
              obtain ⟨⟨dq, osq⟩, rfl⟩ := hw2
              have HW2 := Lib.hid (HW.out.below (below_regrown wr dq osq))
              generalize grow (redrawn wr dq) osq = w2 at *
              clear k0 k1 q0 q1 q2 bO
              go_wp2_with fail
              go_roundw
              case rel =>
                exact ⟨k + 1, by omega, by go_num, Lib.hid (fun j hj h => by
                  rcases Nat.lt_or_ge j k with h2 | h2
                  · exact HZ.out j hj h2
                  · obtain rfl : j = k := by omega
                    rw [HYM.out]; exact decide_eq_true hle), HW2⟩
              case measure => simp [intOf]; omega
            · have hsp2 : ahead6 l (x, n) = k := while_of _ hk HZ.out (fun _ => by rw [HYM.out]; exact decide_eq_false (show ¬ ordF y m x n < 0 by omega))
              have hkq : q = k := by rw [← HQ.out, hsp2]
              have HKQ := Lib.hid hkq
              clear hsp2 hkq
              go_wp2_with fail
              refine wp_region_quiet_below (by kernel_rfl) (by kernel_rfl) ?_
              repeat (quiet_step (first | (with_reducible exact bO _ _)))
              refine wpQuiet_nil ?_
              intro w2 hw2
              obtain ⟨⟨dq, osq⟩, rfl⟩ := hw2
              have HW2 := Lib.hid (HW.out.below (below_regrown wr dq osq))
              generalize grow (redrawn wr dq) osq = w2 at *
              clear k0 k1 q0 q1 q2 bO
              go_wp2_with fail
              go_meet
              exact ⟨by rw [HKQ.out], HW2⟩
          · obtain rfl : k = l.length := by omega
            have hsp2 : ahead6 l (x, n) = l.length := while_of _ (Nat.le_refl _) HZ.out (fun h => absurd h (by omega))
            have HKQ : Hid (q = l.length) := Lib.hid (by rw [← HQ.out, hsp2])
            clear hsp2
            go_wp2_with fail
            refine wp_region_quiet_below (by kernel_rfl) (by kernel_rfl) ?_
            repeat (quiet_step (fail))
            refine wpQuiet_nil ?_
            intro w2 hw2
            obtain ⟨⟨dq, osq⟩, rfl⟩ := hw2
            have HW2 := Lib.hid (HW.out.below (below_regrown wr dq osq))
            generalize grow (redrawn wr dq) osq = w2 at *
            clear q0 q1 q2
            go_wp2_with fail
            go_meet
            exact ⟨by rw [HKQ.out], HW2⟩
      case rest =>
        obtain ⟨rfl, HW⟩ := hcut
        clear HT3
        have HLW := Lib.hid (HA.out.below HW.out.bel)
        have HY1 := Lib.hid (show LiesS wc A (rowCs (l.take q)) by rw [rowCs_take _ _ hqle]; exact HLW.out.take _)
        have HY2 := Lib.hid (show LiesS wc (if c = q then A else Option.map (fun x => x.add (q * 3)) A) (rowCs (l.drop q)) by rw [rowCs_drop _ _ hqle]; exact lies_cut HLW.out (rowCs_len l) (by decide) hqle hcl)
        have HS : Hid (∀ W, Tri6 w (.slice A l.length c) (.slice none 0 0) x n W → W.cell? ⟨w.heap.size, 0, none⟩ = some (.slice A l.length c) ∧ W.cell? ⟨w.heap.size + 1, 0, none⟩ = some (.int .u32 x) ∧ W.cell? ⟨w.heap.size + 1, 1, none⟩ = some (.int .i64 n)) := Lib.hid (fun W h => ⟨h.cells.1, h.cells.2.1, h.cells.2.2.1⟩)
        go_wp2_with fail
        have hd := below_drew wc
        have ht0 := HW.out.below hd
        have hqc : q ≤ c := by omega
        have hw3 := HW.out.size
        refine wp_region_noPanic ?_
        refine wp_region_held_drew (S := fun W => W.cell? ⟨w.heap.size, 0, none⟩ = some (.slice A l.length c) ∧ W.cell? ⟨w.heap.size + 1, 0, none⟩ = some (.int .u32 x) ∧ W.cell? ⟨w.heap.size + 1, 1, none⟩ = some (.int .i64 n)) (by kernel_rfl) (HS.out _ ht0) ?_
        intro hS0
        refine wpAnyH_take (i := 1) (v := ?v4) (by rw [List.getElem?_toArray]; exact rfl) (by kernel_rfl) (by kernel_rfl) (by kernel_rfl) (fun _ _ _ h => h) (Or.inl ⟨by rfl, ?hy4⟩) (by assumption) ?rest4
        case hy4 => intro w hSw; (try dsimp only at hSw); go_simp; (try with_reducible rfl)
        try simp only [Act.put, List.setIfInBounds_toArray, List.set_cons_zero, List.set_cons_succ]
        refine wpAnyH_take (i := 2) (v := ?v5) (by rw [List.getElem?_toArray]; exact rfl) (by kernel_rfl) (by kernel_rfl) (by kernel_rfl) (fun _ _ _ h => h) (Or.inl ⟨by rfl, ?hy5⟩) (by assumption) ?rest5
        case hy5 => intro w hSw; (try dsimp only at hSw); go_simp; (try with_reducible rfl)
        try simp only [Act.put, List.setIfInBounds_toArray, List.set_cons_zero, List.set_cons_succ]
        refine wpAnyH_take (i := 3) (v := ?v6) (by rw [List.getElem?_toArray]; exact rfl) (by kernel_rfl) (by kernel_rfl) (by kernel_rfl) (fun _ _ _ h => h) (Or.inl ⟨by rfl, ?hy6⟩) (by assumption) ?rest6
        case hy6 => intro w hSw; (try dsimp only at hSw); go_simp; (try with_reducible rfl)
        try simp only [Act.put, List.setIfInBounds_toArray, List.set_cons_zero, List.set_cons_succ]
        refine wpAnyH_take (i := 4) (v := ?v7) (by rw [List.getElem?_toArray]; exact rfl) (by kernel_rfl) (by kernel_rfl) (by kernel_rfl) (fun _ _ _ h => h) (Or.inl ⟨by rfl, ?hy7⟩) (by assumption) ?rest7
        case hy7 => intro w hSw; (try dsimp only at hSw); go_simp; (try with_reducible rfl)
        try simp only [Act.put, List.setIfInBounds_toArray, List.set_cons_zero, List.set_cons_succ]
        refine wpAnyH_take (i := 6) (v := ?v8) (by rw [List.getElem?_toArray]; exact rfl) (by kernel_rfl) (by kernel_rfl) (by kernel_rfl) (fun _ _ _ h => h) (Or.inl ⟨by rfl, ?hy8⟩) (by assumption) ?rest8
        case hy8 => intro w hSw; (try dsimp only at hSw); go_simp; (try with_reducible rfl)
        try simp only [Act.put, List.setIfInBounds_toArray, List.set_cons_zero, List.set_cons_succ]
        refine wpAnyH_take (i := 7) (v := ?v9) (by rw [List.getElem?_toArray]; exact rfl) (by kernel_rfl) (by kernel_rfl) (by kernel_rfl) (fun _ _ _ h => h) (Or.inl ⟨by rfl, ?hy9⟩) (by assumption) ?rest9
        case hy9 => intro w hSw; (try dsimp only at hSw); go_simp; (try with_reducible rfl)
        try simp only [Act.put, List.setIfInBounds_toArray, List.set_cons_zero, List.set_cons_succ]
        refine wpAnyH_take (i := 8) (v := ?v10) (by rw [List.getElem?_toArray]; exact rfl) (by kernel_rfl) (by kernel_rfl) (by kernel_rfl) (fun _ _ _ h => h) (Or.inl ⟨by rfl, ?hy10⟩) (by assumption) ?rest10
        case hy10 => intro w hSw; (try dsimp only at hSw); go_simp; (try with_reducible rfl)
        try simp only [Act.put, List.setIfInBounds_toArray, List.set_cons_zero, List.set_cons_succ]
        refine wpAnyH_take (i := 11) (v := ?v11) (by rw [List.getElem?_toArray]; exact rfl) (by kernel_rfl) (by kernel_rfl) (by kernel_rfl) (fun _ _ _ h => h) (Or.inl ⟨by rfl, ?hy11⟩) (by assumption) ?rest11
        case hy11 => intro w hSw; (try dsimp only at hSw); go_simp; (try with_reducible rfl)
        try simp only [Act.put, List.setIfInBounds_toArray, List.set_cons_zero, List.set_cons_succ]
        refine wpAnyH_take (i := 12) (v := ?v12) (by rw [List.getElem?_toArray]; exact rfl) (by kernel_rfl) (by kernel_rfl) (by kernel_rfl) (fun _ _ _ h => h) (Or.inl ⟨by rfl, ?hy12⟩) (by assumption) ?rest12
        case hy12 => intro w hSw; (try dsimp only at hSw); go_simp; (try with_reducible rfl)
        try simp only [Act.put, List.setIfInBounds_toArray, List.set_cons_zero, List.set_cons_succ]
        refine wpAnyH_take (i := 13) (v := ?v13) (by rw [List.getElem?_toArray]; exact rfl) (by kernel_rfl) (by kernel_rfl) (by kernel_rfl) (fun _ _ _ h => h) (Or.inl ⟨by rfl, ?hy13⟩) (by assumption) ?rest13
        case hy13 => intro w hSw; (try dsimp only at hSw); go_simp; (try with_reducible rfl)
        try simp only [Act.put, List.setIfInBounds_toArray, List.set_cons_zero, List.set_cons_succ]
        refine wpAnyH_take (i := 14) (v := ?v14) (by rw [List.getElem?_toArray]; exact rfl) (by kernel_rfl) (by kernel_rfl) (by kernel_rfl) (fun _ _ _ h => h) (Or.inl ⟨by rfl, ?hy14⟩) (by assumption) ?rest14
        case hy14 => intro w hSw; (try dsimp only at hSw); go_simp; (try with_reducible rfl)
        try simp only [Act.put, List.setIfInBounds_toArray, List.set_cons_zero, List.set_cons_succ]
        refine ready_pair (i := 0) (j := 9) (by kernel_rfl) (by rw [List.getElem?_toArray]; exact rfl) (by rw [List.getElem?_toArray]; exact rfl) (by kernel_rfl) (by kernel_rfl) (fun K1 hK1 => ?_) (fun K1 hK1 => ?_)
        · go_simp
          have hal1 : Below (wc.drew).heap.size (wc.drew) ((wc.drew).alloc (.cells #[] 41)) := (Below.refl _ _).alloc (Nat.le_refl _) _
          have hb1 := hd.trans (hal1.mono hd.size)
          have ht1 := ht0.below hal1
          have ho1 := World.ownsRow_lit (base := wc.heap.size) (e := 41) (size := 3) (wc.drew) #[] 0 (hd.size) (by decide) rfl
          try simp at ho1
          refine hK1.out _ _ (HS.out _ ht1) (fun hS1 => ?_)
          clear hK1 K1
          try simp only [Act.put, List.setIfInBounds_toArray, List.set_cons_zero, List.set_cons_succ]
          refine ready_pair (i := 5) (j := 9) (by kernel_rfl) (by rw [List.getElem?_toArray]; exact rfl) (by rw [List.getElem?_toArray]; exact rfl) (by kernel_rfl) (by kernel_rfl) (fun K1 hK1 => ?_) (fun K1 hK1 => ?_)
          · refine wp_app_row (.tmp 63) (.tmp 67) (by rfl) wc.heap.size Try.underlying26 HI.out.1 HI.out.2.1 HI.out.2.2.1 HI.out.2.2.2 rfl (by decide) (by rfl) ho1 (by rfl) (HY1.out.below hb1) (by rw [rowCs_len, List.length_take]; omega) rowCs_one (by omega) (by decide) hb1.size (fun v2 w2 ho2 hg2 => ?_)
            have ht2 := ht1.grown hg2 (fun r e => Nat.le_trans hw3 (ho1.lt r e).1)
            have hb2 : Below wc.heap.size wc w2 := hb1.grown hg2 hb1.size (fun r e => (ho1.lt r e).1)
            refine hK1.out _ _ (HS.out _ ht2) (fun hS2 => ?_)
            clear hK1 K1
            try simp only [Act.put, List.setIfInBounds_toArray, List.set_cons_zero, List.set_cons_succ]
            refine ready_call (i := 9) (by kernel_rfl) (by rw [List.getElem?_toArray]; exact rfl) (by kernel_rfl) (fun K1 hK1 => ?_)
            go_simp
            have hal3 : Below (w2).heap.size (w2) ((w2).alloc (.cells #[.int .u32 x, .int .i64 n, .int .i64 v] 41)) := (Below.refl _ _).alloc (Nat.le_refl _) _
            have hb3 := hb2.trans (hal3.mono hb2.size)
            have ht3 := ht2.below hal3
            have ho3 := ho2.alloc (.cells #[.int .u32 x, .int .i64 n, .int .i64 v] 41)
            have ly3 := lies_new6 (w2) x n v
            try simp at ly3
            refine hK1.out _ _ (HS.out _ ht3) (fun hS3 => ?_)
            clear hK1 K1
            try simp only [Act.put, List.setIfInBounds_toArray, List.set_cons_zero, List.set_cons_succ]
            refine ready_call (i := 10) (by kernel_rfl) (by rw [List.getElem?_toArray]; exact rfl) (by kernel_rfl) (fun K1 hK1 => ?_)
            refine wp_app_row (.tmp 68) (.tmp 72) (by rfl) wc.heap.size Try.underlying26 HI.out.1 HI.out.2.1 HI.out.2.2.1 HI.out.2.2.2 rfl (by decide) (by rfl) ho3 (by rfl) ly3 rfl (by intro u hu; simp at hu; rcases hu with rfl | rfl | rfl <;> rfl) (by omega) (by decide) hb3.size (fun v4 w4 ho4 hg4 => ?_)
            have ht4 := ht3.grown hg4 (fun r e => Nat.le_trans hw3 (ho3.lt r e).1)
            have hb4 : Below wc.heap.size wc w4 := hb3.grown hg4 hb3.size (fun r e => (ho3.lt r e).1)
            refine hK1.out _ _ (HS.out _ ht4) (fun hS4 => ?_)
            clear hK1 K1
            try simp only [Act.put, List.setIfInBounds_toArray, List.set_cons_zero, List.set_cons_succ]
            refine ready_call (i := 15) (by kernel_rfl) (by rw [List.getElem?_toArray]; exact rfl) (by kernel_rfl) (fun K1 hK1 => ?_)
            refine wp_app_row (.tmp 73) (.tmp 77) (by rfl) wc.heap.size Try.underlying26 HI.out.1 HI.out.2.1 HI.out.2.2.1 HI.out.2.2.2 rfl (by decide) (by rfl) ho4 (by rfl) (HY2.out.below hb4) (by rw [rowCs_len, List.length_drop]) rowCs_one (by omega) (by decide) hb4.size (fun v5 w5 ho5 hg5 => ?_)
            have ht5 := ht4.grown hg5 (fun r e => Nat.le_trans hw3 (ho4.lt r e).1)
            have hb5 : Below wc.heap.size wc w5 := hb4.grown hg5 hb4.size (fun r e => (ho4.lt r e).1)
            obtain ⟨N, hN⟩ : ∃ N, L.length = N := ⟨_, rfl⟩
            have hoz := own_fit (n' := N) (xs' := rowCs L) ho5 (Nat.le_refl _) (by rw [← hN, ← HLD.out]; simp only [List.length_append, List.length_take, List.length_drop, List.length_cons, List.length_nil]; omega) (by rw [← HLD.out, rowCs_app, rowCs_app]; rfl)
            obtain ⟨A3, c3, rfl⟩ := own_slice hoz
            refine hK1.out _ _ (HS.out _ ht5) (fun hS5 => ?_)
            clear hK1 K1
            try simp only [Act.put, List.setIfInBounds_toArray, List.set_cons_zero, List.set_cons_succ]
            refine wpAnyH_take (i := 16) (v := ?v1) (by rw [List.getElem?_toArray]; exact rfl) (by kernel_rfl) (by kernel_rfl) (by kernel_rfl) (fun _ _ _ h => h) (Or.inl ⟨by rfl, ?hy1⟩) (by assumption) ?rest1
            case hy1 => intro w hSw; (try dsimp only at hSw); go_simp; (try with_reducible rfl)
            try simp only [Act.put, List.setIfInBounds_toArray, List.set_cons_zero, List.set_cons_succ]
            refine ready_call (i := 17) (by kernel_rfl) (by rw [List.getElem?_toArray]; exact rfl) (by kernel_rfl) (fun K1 hK1 => ?_)
            have o0 := ht5.cells.2.2.2
            have f0 := ht5.frozen
            go_simp
            refine hK1.out _ _ ⟨ht5.far _, ht5.far2 _⟩ (fun hSy => ?_)
            clear hK1 K1
            try simp only [Act.put, List.setIfInBounds_toArray, List.set_cons_zero, List.set_cons_succ]
            refine ready_call (i := 18) (by kernel_rfl) (by rw [List.getElem?_toArray]; exact rfl) (by kernel_rfl) (fun K1 hK1 => ?_)
            go_simp
            refine hK1.out _ _ hSy (fun hSz18 => ?_)
            clear hK1 K1
            try simp only [Act.put, List.setIfInBounds_toArray, List.set_cons_zero, List.set_cons_succ]
            refine ready_call (i := 19) (by kernel_rfl) (by rw [List.getElem?_toArray]; exact rfl) (by kernel_rfl) (fun K1 hK1 => ?_)
            go_simp
            refine hK1.out _ _ hSy (fun hSz19 => ?_)
            clear hK1 K1
            try simp only [Act.put, List.setIfInBounds_toArray, List.set_cons_zero, List.set_cons_succ]
            refine ready_call (i := 20) (by kernel_rfl) (by rw [List.getElem?_toArray]; exact rfl) (by kernel_rfl) (fun K1 hK1 => ?_)
            go_simp
            refine hK1.out _ _ hSy (fun hSz20 => ?_)
            clear hK1 K1
            try simp only [Act.put, List.setIfInBounds_toArray, List.set_cons_zero, List.set_cons_succ]
            refine wpAnyH_done (by kernel_rfl) ?_ _
            refine NoPanic.normal ?_
            go_wp2_with fail
            all_goals
              refine ⟨rfl, .tuple #[.agg #[.slice A3 N c3], .int .i64 0, .bool false, .int .i64 0], ?_, ⟨_, rfl, A3, c3, by rw [hN], by rw [hN]; exact (own_cap hoz).1, lies_own (own_far hoz (by simp; omega))⟩, (ht5.store _).2⟩
              simp [results, Try.f34, go_sem, (ht5.store (.slice A3 N c3)).1]
          · go_simp
            have hal2 : Below ((wc.drew).alloc (.cells #[] 41)).heap.size ((wc.drew).alloc (.cells #[] 41)) (((wc.drew).alloc (.cells #[] 41)).alloc (.cells #[.int .u32 x, .int .i64 n, .int .i64 v] 41)) := (Below.refl _ _).alloc (Nat.le_refl _) _
            have hb2 := hb1.trans (hal2.mono hb1.size)
            have ht2 := ht1.below hal2
            have ho2 := ho1.alloc (.cells #[.int .u32 x, .int .i64 n, .int .i64 v] 41)
            have ly2 := lies_new6 ((wc.drew).alloc (.cells #[] 41)) x n v
            try simp at ly2
            refine hK1.out _ _ (HS.out _ ht2) (fun hS2 => ?_)
            clear hK1 K1
            try simp only [Act.put, List.setIfInBounds_toArray, List.set_cons_zero, List.set_cons_succ]
            refine ready_call (i := 5) (by kernel_rfl) (by rw [List.getElem?_toArray]; exact rfl) (by kernel_rfl) (fun K1 hK1 => ?_)
            refine wp_app_row (.tmp 63) (.tmp 67) (by rfl) wc.heap.size Try.underlying26 HI.out.1 HI.out.2.1 HI.out.2.2.1 HI.out.2.2.2 rfl (by decide) (by rfl) ho2 (by rfl) (HY1.out.below hb2) (by rw [rowCs_len, List.length_take]; omega) rowCs_one (by omega) (by decide) hb2.size (fun v3 w3 ho3 hg3 => ?_)
            have ht3 := ht2.grown hg3 (fun r e => Nat.le_trans hw3 (ho2.lt r e).1)
            have hb3 : Below wc.heap.size wc w3 := hb2.grown hg3 hb2.size (fun r e => (ho2.lt r e).1)
            have ly3 := lies_grown ly2 hg3 (by simp [Value.ownBlock])
            refine hK1.out _ _ (HS.out _ ht3) (fun hS3 => ?_)
            clear hK1 K1
            try simp only [Act.put, List.setIfInBounds_toArray, List.set_cons_zero, List.set_cons_succ]
            refine ready_call (i := 10) (by kernel_rfl) (by rw [List.getElem?_toArray]; exact rfl) (by kernel_rfl) (fun K1 hK1 => ?_)
            refine wp_app_row (.tmp 68) (.tmp 72) (by rfl) wc.heap.size Try.underlying26 HI.out.1 HI.out.2.1 HI.out.2.2.1 HI.out.2.2.2 rfl (by decide) (by rfl) ho3 (by rfl) ly3 rfl (by intro u hu; simp at hu; rcases hu with rfl | rfl | rfl <;> rfl) (by omega) (by decide) hb3.size (fun v4 w4 ho4 hg4 => ?_)
            have ht4 := ht3.grown hg4 (fun r e => Nat.le_trans hw3 (ho3.lt r e).1)
            have hb4 : Below wc.heap.size wc w4 := hb3.grown hg4 hb3.size (fun r e => (ho3.lt r e).1)
            refine hK1.out _ _ (HS.out _ ht4) (fun hS4 => ?_)
            clear hK1 K1
            try simp only [Act.put, List.setIfInBounds_toArray, List.set_cons_zero, List.set_cons_succ]
            refine ready_call (i := 15) (by kernel_rfl) (by rw [List.getElem?_toArray]; exact rfl) (by kernel_rfl) (fun K1 hK1 => ?_)
            refine wp_app_row (.tmp 73) (.tmp 77) (by rfl) wc.heap.size Try.underlying26 HI.out.1 HI.out.2.1 HI.out.2.2.1 HI.out.2.2.2 rfl (by decide) (by rfl) ho4 (by rfl) (HY2.out.below hb4) (by rw [rowCs_len, List.length_drop]) rowCs_one (by omega) (by decide) hb4.size (fun v5 w5 ho5 hg5 => ?_)
            have ht5 := ht4.grown hg5 (fun r e => Nat.le_trans hw3 (ho4.lt r e).1)
            have hb5 : Below wc.heap.size wc w5 := hb4.grown hg5 hb4.size (fun r e => (ho4.lt r e).1)
            obtain ⟨N, hN⟩ : ∃ N, L.length = N := ⟨_, rfl⟩
            have hoz := own_fit (n' := N) (xs' := rowCs L) ho5 (Nat.le_refl _) (by rw [← hN, ← HLD.out]; simp only [List.length_append, List.length_take, List.length_drop, List.length_cons, List.length_nil]; omega) (by rw [← HLD.out, rowCs_app, rowCs_app]; rfl)
            obtain ⟨A3, c3, rfl⟩ := own_slice hoz
            refine hK1.out _ _ (HS.out _ ht5) (fun hS5 => ?_)
            clear hK1 K1
            try simp only [Act.put, List.setIfInBounds_toArray, List.set_cons_zero, List.set_cons_succ]
            refine wpAnyH_take (i := 16) (v := ?v2) (by rw [List.getElem?_toArray]; exact rfl) (by kernel_rfl) (by kernel_rfl) (by kernel_rfl) (fun _ _ _ h => h) (Or.inl ⟨by rfl, ?hy2⟩) (by assumption) ?rest2
            case hy2 => intro w hSw; (try dsimp only at hSw); go_simp; (try with_reducible rfl)
            try simp only [Act.put, List.setIfInBounds_toArray, List.set_cons_zero, List.set_cons_succ]
            refine ready_call (i := 17) (by kernel_rfl) (by rw [List.getElem?_toArray]; exact rfl) (by kernel_rfl) (fun K1 hK1 => ?_)
            have o0 := ht5.cells.2.2.2
            have f0 := ht5.frozen
            go_simp
            refine hK1.out _ _ ⟨ht5.far _, ht5.far2 _⟩ (fun hSy => ?_)
            clear hK1 K1
            try simp only [Act.put, List.setIfInBounds_toArray, List.set_cons_zero, List.set_cons_succ]
            refine ready_call (i := 18) (by kernel_rfl) (by rw [List.getElem?_toArray]; exact rfl) (by kernel_rfl) (fun K1 hK1 => ?_)
            go_simp
            refine hK1.out _ _ hSy (fun hSz18 => ?_)
            clear hK1 K1
            try simp only [Act.put, List.setIfInBounds_toArray, List.set_cons_zero, List.set_cons_succ]
            refine ready_call (i := 19) (by kernel_rfl) (by rw [List.getElem?_toArray]; exact rfl) (by kernel_rfl) (fun K1 hK1 => ?_)
            go_simp
            refine hK1.out _ _ hSy (fun hSz19 => ?_)
            clear hK1 K1
            try simp only [Act.put, List.setIfInBounds_toArray, List.set_cons_zero, List.set_cons_succ]
            refine ready_call (i := 20) (by kernel_rfl) (by rw [List.getElem?_toArray]; exact rfl) (by kernel_rfl) (fun K1 hK1 => ?_)
            go_simp
            refine hK1.out _ _ hSy (fun hSz20 => ?_)
            clear hK1 K1
            try simp only [Act.put, List.setIfInBounds_toArray, List.set_cons_zero, List.set_cons_succ]
            refine wpAnyH_done (by kernel_rfl) ?_ _
            refine NoPanic.normal ?_
            go_wp2_with fail
            all_goals
              refine ⟨rfl, .tuple #[.agg #[.slice A3 N c3], .int .i64 0, .bool false, .int .i64 0], ?_, ⟨_, rfl, A3, c3, by rw [hN], by rw [hN]; exact (own_cap hoz).1, lies_own (own_far hoz (by simp; omega))⟩, (ht5.store _).2⟩
              simp [results, Try.f34, go_sem, (ht5.store (.slice A3 N c3)).1]
        · go_simp
          have hal1 : Below (wc.drew).heap.size (wc.drew) ((wc.drew).alloc (.cells #[.int .u32 x, .int .i64 n, .int .i64 v] 41)) := (Below.refl _ _).alloc (Nat.le_refl _) _
          have hb1 := hd.trans (hal1.mono hd.size)
          have ht1 := ht0.below hal1
          have ly1 := lies_new6 (wc.drew) x n v
          try simp at ly1
          refine hK1.out _ _ (HS.out _ ht1) (fun hS1 => ?_)
          clear hK1 K1
          try simp only [Act.put, List.setIfInBounds_toArray, List.set_cons_zero, List.set_cons_succ]
          refine ready_call (i := 0) (by kernel_rfl) (by rw [List.getElem?_toArray]; exact rfl) (by kernel_rfl) (fun K1 hK1 => ?_)
          go_simp
          have hal2 : Below ((wc.drew).alloc (.cells #[.int .u32 x, .int .i64 n, .int .i64 v] 41)).heap.size ((wc.drew).alloc (.cells #[.int .u32 x, .int .i64 n, .int .i64 v] 41)) (((wc.drew).alloc (.cells #[.int .u32 x, .int .i64 n, .int .i64 v] 41)).alloc (.cells #[] 41)) := (Below.refl _ _).alloc (Nat.le_refl _) _
          have hb2 := hb1.trans (hal2.mono hb1.size)
          have ht2 := ht1.below hal2
          have ly2 := ly1.below hal2
          have ho2 := World.ownsRow_lit (base := wc.heap.size) (e := 41) (size := 3) ((wc.drew).alloc (.cells #[.int .u32 x, .int .i64 n, .int .i64 v] 41)) #[] 0 (hb1.size) (by decide) rfl
          try simp at ho2
          refine hK1.out _ _ (HS.out _ ht2) (fun hS2 => ?_)
          clear hK1 K1
          try simp only [Act.put, List.setIfInBounds_toArray, List.set_cons_zero, List.set_cons_succ]
          refine ready_call (i := 5) (by kernel_rfl) (by rw [List.getElem?_toArray]; exact rfl) (by kernel_rfl) (fun K1 hK1 => ?_)
          refine wp_app_row (.tmp 63) (.tmp 67) (by rfl) wc.heap.size Try.underlying26 HI.out.1 HI.out.2.1 HI.out.2.2.1 HI.out.2.2.2 rfl (by decide) (by rfl) ho2 (by rfl) (HY1.out.below hb2) (by rw [rowCs_len, List.length_take]; omega) rowCs_one (by omega) (by decide) hb2.size (fun v3 w3 ho3 hg3 => ?_)
          have ht3 := ht2.grown hg3 (fun r e => Nat.le_trans hw3 (ho2.lt r e).1)
          have hb3 : Below wc.heap.size wc w3 := hb2.grown hg3 hb2.size (fun r e => (ho2.lt r e).1)
          have ly3 := lies_grown ly2 hg3 (by simp [Value.ownBlock])
          refine hK1.out _ _ (HS.out _ ht3) (fun hS3 => ?_)
          clear hK1 K1
          try simp only [Act.put, List.setIfInBounds_toArray, List.set_cons_zero, List.set_cons_succ]
          refine ready_call (i := 10) (by kernel_rfl) (by rw [List.getElem?_toArray]; exact rfl) (by kernel_rfl) (fun K1 hK1 => ?_)
          refine wp_app_row (.tmp 68) (.tmp 72) (by rfl) wc.heap.size Try.underlying26 HI.out.1 HI.out.2.1 HI.out.2.2.1 HI.out.2.2.2 rfl (by decide) (by rfl) ho3 (by rfl) ly3 rfl (by intro u hu; simp at hu; rcases hu with rfl | rfl | rfl <;> rfl) (by omega) (by decide) hb3.size (fun v4 w4 ho4 hg4 => ?_)
          have ht4 := ht3.grown hg4 (fun r e => Nat.le_trans hw3 (ho3.lt r e).1)
          have hb4 : Below wc.heap.size wc w4 := hb3.grown hg4 hb3.size (fun r e => (ho3.lt r e).1)
          refine hK1.out _ _ (HS.out _ ht4) (fun hS4 => ?_)
          clear hK1 K1
          try simp only [Act.put, List.setIfInBounds_toArray, List.set_cons_zero, List.set_cons_succ]
          refine ready_call (i := 15) (by kernel_rfl) (by rw [List.getElem?_toArray]; exact rfl) (by kernel_rfl) (fun K1 hK1 => ?_)
          refine wp_app_row (.tmp 73) (.tmp 77) (by rfl) wc.heap.size Try.underlying26 HI.out.1 HI.out.2.1 HI.out.2.2.1 HI.out.2.2.2 rfl (by decide) (by rfl) ho4 (by rfl) (HY2.out.below hb4) (by rw [rowCs_len, List.length_drop]) rowCs_one (by omega) (by decide) hb4.size (fun v5 w5 ho5 hg5 => ?_)
          have ht5 := ht4.grown hg5 (fun r e => Nat.le_trans hw3 (ho4.lt r e).1)
          have hb5 : Below wc.heap.size wc w5 := hb4.grown hg5 hb4.size (fun r e => (ho4.lt r e).1)
          obtain ⟨N, hN⟩ : ∃ N, L.length = N := ⟨_, rfl⟩
          have hoz := own_fit (n' := N) (xs' := rowCs L) ho5 (Nat.le_refl _) (by rw [← hN, ← HLD.out]; simp only [List.length_append, List.length_take, List.length_drop, List.length_cons, List.length_nil]; omega) (by rw [← HLD.out, rowCs_app, rowCs_app]; rfl)
          obtain ⟨A3, c3, rfl⟩ := own_slice hoz
          refine hK1.out _ _ (HS.out _ ht5) (fun hS5 => ?_)
          clear hK1 K1
          try simp only [Act.put, List.setIfInBounds_toArray, List.set_cons_zero, List.set_cons_succ]
          refine wpAnyH_take (i := 16) (v := ?v3) (by rw [List.getElem?_toArray]; exact rfl) (by kernel_rfl) (by kernel_rfl) (by kernel_rfl) (fun _ _ _ h => h) (Or.inl ⟨by rfl, ?hy3⟩) (by assumption) ?rest3
          case hy3 => intro w hSw; (try dsimp only at hSw); go_simp; (try with_reducible rfl)
          try simp only [Act.put, List.setIfInBounds_toArray, List.set_cons_zero, List.set_cons_succ]
          refine ready_call (i := 17) (by kernel_rfl) (by rw [List.getElem?_toArray]; exact rfl) (by kernel_rfl) (fun K1 hK1 => ?_)
          have o0 := ht5.cells.2.2.2
          have f0 := ht5.frozen
          go_simp
          refine hK1.out _ _ ⟨ht5.far _, ht5.far2 _⟩ (fun hSy => ?_)
          clear hK1 K1
          try simp only [Act.put, List.setIfInBounds_toArray, List.set_cons_zero, List.set_cons_succ]
          refine ready_call (i := 18) (by kernel_rfl) (by rw [List.getElem?_toArray]; exact rfl) (by kernel_rfl) (fun K1 hK1 => ?_)
          go_simp
          refine hK1.out _ _ hSy (fun hSz18 => ?_)
          clear hK1 K1
          try simp only [Act.put, List.setIfInBounds_toArray, List.set_cons_zero, List.set_cons_succ]
          refine ready_call (i := 19) (by kernel_rfl) (by rw [List.getElem?_toArray]; exact rfl) (by kernel_rfl) (fun K1 hK1 => ?_)
          go_simp
          refine hK1.out _ _ hSy (fun hSz19 => ?_)
          clear hK1 K1
          try simp only [Act.put, List.setIfInBounds_toArray, List.set_cons_zero, List.set_cons_succ]
          refine ready_call (i := 20) (by kernel_rfl) (by rw [List.getElem?_toArray]; exact rfl) (by kernel_rfl) (fun K1 hK1 => ?_)
          go_simp
          refine hK1.out _ _ hSy (fun hSz20 => ?_)
          clear hK1 K1
          try simp only [Act.put, List.setIfInBounds_toArray, List.set_cons_zero, List.set_cons_succ]
          refine wpAnyH_done (by kernel_rfl) ?_ _
          refine NoPanic.normal ?_
          go_wp2_with fail
          all_goals
            refine ⟨rfl, .tuple #[.agg #[.slice A3 N c3], .int .i64 0, .bool false, .int .i64 0], ?_, ⟨_, rfl, A3, c3, by rw [hN], by rw [hN]; exact (own_cap hoz).1, lies_own (own_far hoz (by simp; omega))⟩, (ht5.store _).2⟩
            simp [results, Try.f34, go_sem, (ht5.store (.slice A3 N c3)).1]
  · have hF : putF l (x, n) v = (l, 0, false, 2) := by unfold putF; rw [if_neg hr]
    rw [hF]
    clear hF
    go_enter Try.func34, Try.ntmps34
    have d0 := HT.out.cells
    go_wp2_with fail
    refine (refRight_any x n x0 x1 _).mono ?_
    rintro e w2 ⟨rfl, hb2⟩
    have HT2 := Lib.hid (HT.out.below hb2)
    clear hb2 HT d0
    obtain ⟨c0, d0, d1, o0⟩ := HT2.out.cells
    have f0 := HT2.out.frozen
    rw [decide_eq_false hr]
    go_wp2_with fail
    refine ⟨rfl, .tuple #[.agg #[.slice A l.length c], .int .i64 0, .bool false, .int .i64 2], ?_, ⟨_, rfl, _, _, rfl, hcl, HA.out.below (HT2.out.store _).2⟩, (HT2.out.store _).2⟩
    simp [results, Try.f34, go_sem, (HT2.out.store (.slice A l.length c)).1]
end Go.Proofs.Ytghkacciihocdaa

namespace Go.Proofs.Ytghkacciihocdaa
open Go Go.RowKit Go.Sort
attribute [local go_sem] Oper.semAt_some
attribute [local irreducible] wpQuiet

/-- The row of a prefix, if there is one. -/
def rowOf (l : List Row6) (p : Int × Int) : List Row6 := (l.drop (spot6 l p)).take 1
def upTo (l : List Row6) (x : Int) (k : Nat) : List Row6 := (List.range k).flatMap (fun j => rowOf l (cutTo x j, (j : Int)))
/-- The rows above a prefix. -/
def aboveF (l : List Row6) (x n : Int) : List Row6 := if right x n then upTo l x (n.toNat + 1) else []
theorem upTo_next (l : List Row6) (x : Int) (k : Nat) : upTo l x (k + 1) = upTo l x k ++ rowOf l (cutTo x k, (k : Int)) := by
  unfold upTo
  rw [List.range_succ, List.flatMap_append]
  simp
theorem rowOf_len (l : List Row6) (p : Int × Int) : (rowOf l p).length ≤ 1 := by unfold rowOf; rw [List.length_take]; omega
theorem upTo_len (l : List Row6) (x : Int) : ∀ k, (upTo l x k).length ≤ k
  | 0 => by simp [upTo]
  | k + 1 => by
    rw [upTo_next, List.length_append]
    have h1 := upTo_len l x k
    have h2 := rowOf_len l (cutTo x k, (k : Int))
    omega
theorem Two6.grown {w W W' : World} {v : Value} {x n : Int} {row : Option Nat} (h : Two6 w v x n W) (hg : W.grownBy W' row) (hr : ∀ k, row = some k → w.heap.size + 2 ≤ k) : Two6 w v x n W' :=
  ⟨h.1.grown hg (fun e => by have := hr _ e.symm; omega), h.2.1.grown hg (fun e => by have := hr _ e.symm; omega), h.2.2.grown hg h.2.2.size (fun k e => by have := hr k e; omega)⟩
theorem of_quiet (x : Int) (x0 : 0 ≤ x) (x1 : x < 4294967296) (k : Nat) (hk : k ≤ 32) (W : World) : ∀ d os, Calls Try.prog 45 #[.int .u32 x, .int .i64 k] (grow (redrawn W d) os) fun e w'' => e = .returned (.agg #[.int .u32 (cutTo x k), .int .i64 k]) ∧ ∃ p : Regrown, w'' = grow (redrawn W p.d) p.os := fun _ _ =>
  Calls.regrown_of (refOf_any x x0 x1 k hk _)
theorem at_quiet (A : Option Addr) (c : Nat) (l : List Row6) (x n : Int) (hl : l.length ≤ 1000000) (W : World) (hA : LiesS W A (rowCs l)) : ∀ d os, Calls Try.prog 13 #[.agg #[.slice A l.length c], .agg #[.int .u32 x, .int .i64 n]] (grow (redrawn W d) os) fun e w'' => e = .returned (.int .i64 (atF l (x, n))) ∧ ∃ p : Regrown, w'' = grow (redrawn W p.d) p.os := fun d os =>
  Calls.regrown_of (refAt_any A c l x n hl _ (hA.below (below_regrown W d os)))

set_option maxRecDepth 100000 in
set_option maxHeartbeats 3200000 in
theorem refAbove_any (A : Option Addr) (c : Nat) (l : List Row6) (x n : Int) (x0 : 0 ≤ x) (x1 : x < 4294967296) (hl : l.length ≤ 1000) (w : World) (hA : LiesS w A (rowCs l)) :
    Calls Try.prog 21 #[.agg #[.slice A l.length c], pfx x n] w fun e w' => (∃ v, e = .returned v ∧ w'.ownsRow w.heap.size 41 3 v (aboveF l x n).length (rowCs (aboveF l x n))) ∧ Below w.heap.size w w' := by
  obtain ⟨i0, hi, hz0, hz1, hz2⟩ := info_parts infoRow
  have HI := Lib.hid (And.intro hi (And.intro hz0 (And.intro hz1 hz2)))
  have HA := Lib.hid hA
  have HT := Lib.hid (two6_new w (.slice A l.length c) x n)
  clear hA hi hz0 hz1 hz2
  by_cases hr : right x n
  · obtain ⟨m, rfl⟩ : ∃ m : Nat, n = m := ⟨n.toNat, by have := hr.1; omega⟩
    have hm : m ≤ 32 := by have := hr.2.1; omega
    have hF : aboveF l x m = upTo l x (m + 1) := by unfold aboveF; rw [if_pos hr]; simp
    rw [hF]
    clear hF
    go_enter Try.func21, Try.ntmps21
    go_wp2_with fail
    go_loopw [5, 6] (fun v i wr => ∃ k : Nat, k ≤ m + 1 ∧ i = .int .i64 k ∧ Hid (wr.ownsRow (w.heap.size + 2) 41 3 v (upTo l x k).length (rowCs (upTo l x k))) ∧ Hid (Two6 w (.slice A l.length c) x m wr)) (fun _ i _ => m + 1 - (intOf i).toNat)
    case atStart => exact ⟨0, by omega, rfl, Lib.hid (World.ownsRow_nil _ _ _ _), HT⟩
    case round =>
      obtain ⟨k, hk, rfl, HO, HW⟩ := hrel
      obtain ⟨c0, d0, d1⟩ := HW.out.cells
      by_cases hkm : k < m + 1
      · have hkm2 : (k : Int) ≤ (m : Int) := by omega
        go_wp2_with fail
        refine (refRight_any x m x0 x1 _).mono ?_
        rintro e w2 ⟨rfl, hb2⟩
        rw [decide_eq_true hr]
        have HW2 := Lib.hid (HW.out.below hb2)
        have HO2 := Lib.hid (own_past HO.out hb2)
        clear hb2 c0 d0 d1 HO HW
        obtain ⟨c0, d0, d1⟩ := HW2.out.cells
        have q0 := cell_regrown c0
        have q1 := cell_regrown d0
        have q2 := cell_regrown d1
        have bO := of_quiet x x0 x1 k (by omega) w2
        have bA := at_quiet A c l (cutTo x k) k (by omega) w2 (HA.out.below HW2.out.2.2)
        clear c0 d0 d1
        go_wp2_with fail
        refine wp_region_quiet_below (by kernel_rfl) (by kernel_rfl) ?_
        repeat (quiet_step (first | (with_reducible exact bO _ _) | (with_reducible exact bA _ _)))
        refine wpQuiet_nil ?_
        intro w3 hw3
        obtain ⟨⟨dq, osq⟩, rfl⟩ := hw3
        have HW3 := Lib.hid (HW2.out.below (below_regrown w2 dq osq))
        have HO3 := Lib.hid (own_past HO2.out (below_regrown w2 dq osq))
        generalize grow (redrawn w2 dq) osq = w3 at *
        clear q0 q1 q2 bO bA HW2 HO2
        obtain ⟨c0, d0, d1⟩ := HW3.out.cells
        have HNX := Lib.hid (upTo_next l x k)
        have hul := upTo_len l x k
        by_cases hsp : spot6 l (cutTo x k, (k : Int)) < l.length
        · have hat : atF l (cutTo x k, (k : Int)) = (spot6 l (cutTo x k, (k : Int)) : Int) := if_pos hsp
          have hrw : rowOf l (cutTo x k, (k : Int)) = [l[spot6 l (cutTo x k, (k : Int))]'hsp] := by
            unfold rowOf; rw [List.drop_eq_getElem_cons hsp]; rfl
          rw [hat]
          rw [hrw] at HNX
          clear hat hrw
          generalize spot6 l (cutTo x k, (k : Int)) = i at *
          obtain ⟨b, o, rfl, hbl, r0, r1, r2⟩ := lies_row (HA.out.below HW3.out.2.2) i hsp
          generalize (l[i]'hsp) = row at *
          obtain ⟨⟨y, z⟩, u⟩ := row
          dsimp only at r0 r1 r2
          have hlt2 : (i : Int) < (l.length : Int) := by omega
          have hal : Below w3.heap.size w3 (w3.alloc (.cells #[.int .u32 y, .int .i64 z, .int .i64 u] 41)) := (Below.refl _ _).alloc (Nat.le_refl _) _
          have HT4 := Lib.hid (HW3.out.below hal)
          have HO4 := Lib.hid (own_past HO3.out hal)
          have hly := lies_new6 w3 y z u
          clear hal
          go_wp2_with (first | (at_builtin; refine wpList_plain rfl (fun K1 hK1 => ?_); refine wp_app_row _ _ rfl (w.heap.size + 2) Try.underlying26 HI.out.1 HI.out.2.1 HI.out.2.2.1 HI.out.2.2.2 rfl (by decide) rfl HO4.out rfl hly rfl (by intro u hu; simp at hu; rcases hu with rfl | rfl | rfl <;> rfl) (by omega) (by decide) HT4.out.2.1.lt (fun v5 w5 ho5 hg5 => ?_); refine hK1 _ _ ?_; clear hK1 K1))
          have hge : ∀ r, (Value.ownBlock _) = some r → w.heap.size + 2 ≤ r := fun r e => (HO4.out.lt r e).1
          have HT5 : Hid (Two6 w (.slice (some ⟨b, o, none⟩) l.length c) x m w5) := Lib.hid (HT4.out.grown hg5 hge)
          have HO5 : Hid (w5.ownsRow (w.heap.size + 2) 41 3 v5 (upTo l x (k + 1)).length (rowCs (upTo l x (k + 1)))) := Lib.hid (own_fit ho5 (Nat.le_refl _) (by rw [HNX.out, List.length_append]; rfl) (by rw [HNX.out, rowCs_app]; rfl))
          go_roundw
          case rel => exact ⟨k + 1, by omega, by go_num, HO5, HT5⟩
          case measure => simp [intOf]; omega
        · have hat : atF l (cutTo x k, (k : Int)) = -1 := if_neg hsp
          have hrw : rowOf l (cutTo x k, (k : Int)) = [] := by
            unfold rowOf; rw [List.drop_of_length_le (by omega)]; rfl
          rw [hat]
          rw [hrw, List.append_nil] at HNX
          go_wp2_with fail
          go_roundw
          case rel => exact ⟨k + 1, by omega, by go_num, by rw [HNX.out]; exact HO3, HW3⟩
          case measure => simp [intOf]; omega
      · obtain rfl : k = m + 1 := by omega
        go_wp2_with fail
        go_ret
        exact ⟨⟨_, rfl, own_fit HO.out (by omega) rfl rfl⟩, HW.out.2.2⟩
  · have hF : aboveF l x n = [] := by unfold aboveF; rw [if_neg hr]
    rw [hF]
    clear hF
    go_enter Try.func21, Try.ntmps21
    go_wp2_with fail
    go_loopw [5, 6] (fun v i wr => v = .slice none 0 0 ∧ i = .int .i64 0 ∧ Hid (Two6 w (.slice A l.length c) x n wr)) (fun _ _ _ => 0)
    case atStart => exact ⟨rfl, rfl, HT⟩
    case round =>
      obtain ⟨rfl, rfl, HW⟩ := hrel
      obtain ⟨c0, d0, d1⟩ := HW.out.cells
      by_cases hn : 0 ≤ n
      · go_wp2_with fail
        refine (refRight_any x n x0 x1 _).mono ?_
        rintro e w2 ⟨rfl, hb2⟩
        rw [decide_eq_false hr]
        have HW2 := Lib.hid (HW.out.below hb2)
        clear hb2 c0 d0 d1 HW
        go_wp2_with fail
        go_ret
        exact ⟨⟨_, rfl, World.ownsRow_nil _ _ _ _⟩, HW2.out.2.2⟩
      · go_wp2_with fail
        go_ret
        exact ⟨⟨_, rfl, World.ownsRow_nil _ _ _ _⟩, HW.out.2.2⟩
end Go.Proofs.Ytghkacciihocdaa

namespace Go.Proofs.Ytghkacciihocdaa
open Go Go.RowKit Go.Sort
attribute [local go_sem] Oper.semAt_some
attribute [local irreducible] wpQuiet

/-- The last row above an address; whether there is one. -/
def findF (l : List Row6) (a : Int) : Row6 × Bool := match (aboveF l a 32).getLast? with
  | some r => (r, true)
  | none => (((0, 0), 0), false)
/-- A trie that is handed over, and a row that is to be told: their boxes. -/
structure Fnd6 (w : World) (v : Value) (W : World) : Prop where
  box : Blk W w.heap.size 28 #[v]
  out : Blk W (w.heap.size + 1) 41 #[.int .u32 0, .int .i64 0, .int .i64 0]
  bel : Below w.heap.size w W
theorem fnd6_new (w : World) (v : Value) : Fnd6 w v ((w.alloc (.cells #[v] 28)).alloc (.cells #[.int .u32 0, .int .i64 0, .int .i64 0] 41)) := by
  refine ⟨(Blk.new w _ _).alloc _, ?_, two_below w _ _⟩
  have := Blk.new (w.alloc (.cells #[v] 28)) 41 #[.int .u32 0, .int .i64 0, .int .i64 0]
  simpa using this
theorem Fnd6.below {w W W' : World} {v : Value} (h : Fnd6 w v W) (hb : Below W.heap.size W W') : Fnd6 w v W' :=
  ⟨h.box.below hb h.box.lt, h.out.below hb h.out.lt, h.bel.trans (hb.mono h.bel.size)⟩

set_option maxRecDepth 100000 in
set_option maxHeartbeats 1600000 in
theorem refFind_any (A : Option Addr) (c : Nat) (l : List Row6) (a : Int) (x0 : 0 ≤ a) (x1 : a < 4294967296) (hl : l.length ≤ 1000) (w : World) (hA : LiesS w A (rowCs l)) :
    Calls Try.prog 17 #[.agg #[.slice A l.length c], .int .u32 a] w fun e w' => e = .returned (.tuple #[.agg #[.int .u32 (findF l a).1.1.1, .int .i64 (findF l a).1.1.2, .int .i64 (findF l a).1.2], .bool (findF l a).2]) ∧ Below w.heap.size w w' := by
  have HA := Lib.hid hA
  have HT := Lib.hid (fnd6_new w (.slice A l.length c))
  have HQ := Lib.hid (fun (W : World) (h : LiesS W A (rowCs l)) => refAbove_any A c l a 32 x0 x1 hl W h)
  clear hA
  unfold findF
  have hla : (aboveF l a 32).length ≤ 1000 := by
    unfold aboveF
    split
    · have := upTo_len l a ((32 : Int).toNat + 1)
      have e : (32 : Int).toNat = 32 := rfl
      omega
    · simp
  generalize aboveF l a 32 = L at *
  by_cases h0 : 0 < L.length
  · have hLl : L.getLast? = some (L[L.length - 1]'(by omega)) := by rw [List.getLast?_eq_getElem?, List.getElem?_eq_getElem]
    rw [hLl]
    have hix : L.length - 1 < L.length := by omega
    obtain ⟨⟨⟨y, m⟩, u⟩, hrow⟩ : ∃ r, L[L.length - 1]'hix = r := ⟨_, rfl⟩
    rw [hrow]
    have HROW := Lib.hid hrow
    clear hLl hrow
    dsimp only
    go_enter Try.func17, Try.ntmps17
    have c0 := HT.out.box.cell 0
    simp only [List.getElem?_toArray, List.getElem?_cons_zero] at c0
    go_wp2_with fail
    refine (HQ.out _ (HA.out.below HT.out.bel)).mono ?_
    rintro e w2 ⟨⟨v, rfl, ho⟩, hb⟩
    have HT2 := Lib.hid (HT.out.below hb)
    obtain ⟨Av, cv, rfl⟩ := own_slice ho
    obtain ⟨b, o, rfl, hbl, r0, r1, r2⟩ := lies_row (lies_own ho) (L.length - 1) hix
    rw [HROW.out] at r0 r1 r2
    dsimp only at r0 r1 r2
    have o0 := HT2.out.out.cell 0
    have o1 := HT2.out.out.cell 1
    have o2 := HT2.out.out.cell 2
    have f0 := HT2.out.out.frozen 0
    have f1 := HT2.out.out.frozen 1
    have f2 := HT2.out.out.frozen 2
    simp only [List.getElem?_toArray, List.getElem?_cons_zero, List.getElem?_cons_succ] at o0 o1 o2
    have hne : ¬ (L.length : Int) = 0 := by omega
    have hw : IntKind.i64.wrap ((L.length : Int) - 1) = (L.length : Int) - 1 := by rw [IntKind.wrap_i64]; omega
    have hw2 : (0 : Int) ≤ (L.length : Int) - 1 := by omega
    have hw3 : (L.length : Int) - 1 < (L.length : Int) := by omega
    have hw4 : ((L.length : Int) - 1).toNat = L.length - 1 := by omega
    clear hb ho c0
    go_wp2_with fail
    have hS := ((HT2.out.out.set_ 0 (.int .u32 y)).set_ 1 (.int .i64 m)).set_ 2 (.int .i64 u)
    have s0 := hS.cell 0
    have s1 := hS.cell 1
    have s2 := hS.cell 2
    simp at s0 s1 s2
    have hbF := ((HT2.out.bel.setCell (p := ⟨w.heap.size + 1, 0, none⟩) (by simp) (.int .u32 y)).setCell (p := ⟨w.heap.size + 1, 1, none⟩) (by simp) (.int .i64 m)).setCell (p := ⟨w.heap.size + 1, 2, none⟩) (by simp) (.int .i64 u)
    refine ⟨rfl, .tuple #[.agg #[.int .u32 y, .int .i64 m, .int .i64 u], .bool true], ?_, rfl, hbF⟩
    simp [results, Try.f17, go_sem, s0, s1, s2]
  · obtain rfl : L = [] := List.eq_nil_of_length_eq_zero (by omega)
    dsimp only [List.getLast?_nil]
    go_enter Try.func17, Try.ntmps17
    have c0 := HT.out.box.cell 0
    simp only [List.getElem?_toArray, List.getElem?_cons_zero] at c0
    go_wp2_with fail
    refine (HQ.out _ (HA.out.below HT.out.bel)).mono ?_
    rintro e w2 ⟨⟨v, rfl, ho⟩, hb⟩
    have HT2 := Lib.hid (HT.out.below hb)
    obtain ⟨Av, cv, rfl⟩ := own_slice ho
    have o0 := HT2.out.out.cell 0
    have o1 := HT2.out.out.cell 1
    have o2 := HT2.out.out.cell 2
    have f0 := HT2.out.out.frozen 0
    have f1 := HT2.out.out.frozen 1
    have f2 := HT2.out.out.frozen 2
    simp only [List.getElem?_toArray, List.getElem?_cons_zero, List.getElem?_cons_succ] at o0 o1 o2
    clear hb ho c0
    go_wp2_with fail
    have hS := ((HT2.out.out.set_ 0 (.int .u32 0)).set_ 1 (.int .i64 0)).set_ 2 (.int .i64 0)
    have s0 := hS.cell 0
    have s1 := hS.cell 1
    have s2 := hS.cell 2
    simp at s0 s1 s2
    have hbF := ((HT2.out.bel.setCell (p := ⟨w.heap.size + 1, 0, none⟩) (by simp) (.int .u32 0)).setCell (p := ⟨w.heap.size + 1, 1, none⟩) (by simp) (.int .i64 0)).setCell (p := ⟨w.heap.size + 1, 2, none⟩) (by simp) (.int .i64 0)
    refine ⟨rfl, .tuple #[.agg #[.int .u32 0, .int .i64 0, .int .i64 0], .bool false], ?_, rfl, hbF⟩
    simp [results, Try.f17, go_sem, s0, s1, s2]
end Go.Proofs.Ytghkacciihocdaa

namespace Go.Proofs.Ytghkacciihocdaa
open Go Go.RowKit Go.Sort
attribute [local go_sem] Oper.semAt_some
attribute [local irreducible] wpQuiet

theorem spot6_is {l : List Row6} {p : Int × Int} (h : spot6 l p < l.length) : (l[spot6 l p]'h).1 = p := by
  have key : ∀ (l : List Row6) (h : spot6 l p < l.length), (l[spot6 l p]'h).1 = p := by
    intro l
    induction l with
    | nil => intro h; simp at h
    | cons r l ih =>
      intro h
      by_cases hr : r.1 = p
      · have e : spot6 (r :: l) p = 0 := by unfold spot6; rw [List.takeWhile_cons, if_neg (by simp [hr])]; rfl
        simp only [e]
        exact hr
      · have e : spot6 (r :: l) p = spot6 l p + 1 := by unfold spot6; rw [List.takeWhile_cons, if_pos (by simp [hr])]; rfl
        simp only [e, List.getElem_cons_succ]
        exact ih (by rw [e] at h; simpa using h)
  exact key l h
theorem rowCs_set {l : List Row6} {i : Nat} (h : i < l.length) (v : Int) : rowCs (l.set i ((l[i]'h).1, v)) = (rowCs l).set (i * 3 + 2) (.int .i64 v) := by
  have hs : l = l.take i ++ (l[i]'h :: l.drop (i + 1)) := by rw [← List.drop_eq_getElem_cons h, List.take_append_drop]
  have hlen : (l.take i).length = i := by rw [List.length_take]; omega
  have e2 : (rowCs (l.take i)).length = i * 3 := by rw [rowCs_len, hlen]
  have e1 : rowCs l = rowCs (l.take i) ++ ([.int .u32 (l[i]'h).1.1, .int .i64 (l[i]'h).1.2, .int .i64 (l[i]'h).2] ++ rowCs (l.drop (i + 1))) := by
    conv => lhs; rw [hs, rowCs_app]
    rfl
  rw [List.set_eq_take_append_cons_drop, if_pos h, rowCs_app, e1, List.set_append_right _ _ (by omega), e2, show i * 3 + 2 - i * 3 = 2 by omega]
  rfl
theorem own_is {w : World} {base : Nat} {e : TypeId} {size n : Nat} {v : Value} {xs : List Value} (h : w.ownsRow base e size v n xs) (hn : 0 < n) : ∃ g cap, v = .slice (some ⟨g, 0, none⟩) n cap := by
  rcases h.2 with ⟨_, h0⟩ | ⟨g, cap, cur, rfl, _⟩
  · omega
  · exact ⟨g, cap, rfl⟩

set_option maxRecDepth 100000 in
set_option maxHeartbeats 1600000 in
theorem refPut6_set (A : Option Addr) (c : Nat) (l : List Row6) (x n v : Int) (x0 : 0 ≤ x) (x1 : x < 4294967296) (hl : l.length ≤ 1000) (w : World) (hA : LiesS w A (rowCs l)) (hr : right x n) (hsp : spot6 l (x, n) < l.length) :
    Calls Try.prog 34 #[.agg #[.slice A l.length c], pfx x n, .int .i64 v] w fun e w' => (∃ v', e = .returned (.tuple #[v', .int .i64 (putF l (x, n) v).2.1, .bool (putF l (x, n) v).2.2.1, .int .i64 (putF l (x, n) v).2.2.2]) ∧ TrieV w' v' (putF l (x, n) v).1) ∧ Below w.heap.size w w' := by
  obtain ⟨i0, hi, hz0, hz1, hz2⟩ := info_parts infoRow
  have HI := Lib.hid (And.intro hi (And.intro hz0 (And.intro hz1 hz2)))
  have HA := Lib.hid hA
  have HT := Lib.hid (tri6_new w (.slice A l.length c) (.slice none 0 0) x n)
  clear hA hi hz0 hz1 hz2
  have hat : atF l (x, n) = (spot6 l (x, n) : Int) := if_pos hsp
  have hF : putF l (x, n) v = (l.set (spot6 l (x, n)) ((x, n), v), (l[spot6 l (x, n)]'hsp).2, true, 0) := by
    unfold putF; rw [if_pos hr, if_pos hsp, List.getElem?_eq_getElem hsp]; rfl
  have hset : rowCs (l.set (spot6 l (x, n)) ((x, n), v)) = (rowCs l).set (spot6 l (x, n) * 3 + 2) (.int .i64 v) := by
    have := rowCs_set hsp v
    rw [spot6_is hsp] at this
    exact this
  have hln : (l.set (spot6 l (x, n)) ((x, n), v)).length = l.length := List.length_set
  rw [hF]
  clear hF
  generalize spot6 l (x, n) = i at *
  generalize l.set i ((x, n), v) = L at *
  have hrow := (rowCs_at l i hsp).2.2
  generalize (l[i]'hsp) = row at *
  obtain ⟨⟨y, m⟩, u⟩ := row
  dsimp only at hrow ⊢
  have HSET := Lib.hid hset
  have HROW := Lib.hid hrow
  have HLN := Lib.hid hln
  clear hset hrow hln
  go_enter Try.func34, Try.ntmps34
  have d0 := HT.out.cells
  go_wp2_with fail
  refine (refRight_any x n x0 x1 _).mono ?_
  rintro e w2 ⟨rfl, hb2⟩
  have HT2 := Lib.hid (HT.out.below hb2)
  clear hb2 HT d0
  obtain ⟨c0, d0, d1, o0⟩ := HT2.out.cells
  have f0 := HT2.out.frozen
  rw [decide_eq_true hr]
  go_wp2_with fail
  refine (refAt_any _ c l x n (by omega) w2 (HA.out.below HT2.out.bel)).mono ?_
  rintro e w3 ⟨rfl, hb3⟩
  have HT3 := Lib.hid (HT2.out.below hb3)
  clear hb3 c0 d0 d1 o0 HT2 f0
  obtain ⟨c0, d0, d1, o0⟩ := HT3.out.cells
  rw [hat]
  clear hat
  have hi0 : (0 : Int) ≤ (i : Int) := by omega
  have hi1 : (i : Int) < (l.length : Int) := by omega
  have hal : Below w3.heap.size w3 (w3.alloc (.cells #[] 41)) := (Below.refl _ _).alloc (Nat.le_refl _) _
  have HT4 := Lib.hid (HT3.out.below hal)
  have HY := Lib.hid (HA.out.below HT4.out.bel)
  have HO4 := Lib.hid (World.ownsRow_lit (base := w.heap.size + 3) (e := 41) (size := 3) w3 #[] 0 HT3.out.size (by decide) rfl)
  clear hal
  have c4 := HT4.out.cells.1
  go_wp2_with (first | (at_builtin; refine wpList_plain rfl (fun K1 hK1 => ?_); refine wp_app_row _ _ rfl (w.heap.size + 3) Try.underlying26 HI.out.1 HI.out.2.1 HI.out.2.2.1 HI.out.2.2.2 rfl (by decide) rfl HO4.out rfl HY.out (rowCs_len l) rowCs_one (by omega) (by decide) HT4.out.size (fun v5 w5 ho5 hg5 => ?_); refine hK1 _ _ ?_; clear hK1 K1; obtain ⟨g5, cap5, hv5, ho6⟩ : ∃ g5 cap5, v5 = .slice (some ⟨g5, 0, none⟩) l.length cap5 ∧ w5.ownsRow (w.heap.size + 3) 41 3 v5 l.length (rowCs l) := (by have h := own_fit ho5 (Nat.le_refl _) (Nat.zero_add _) (show _ = rowCs l from rfl); obtain ⟨g, cap, e⟩ := own_is h (by omega); exact ⟨g, cap, e, h⟩); subst hv5; have r5 := (ho6.cellAt (i * 3 + 2) (by omega)).trans HROW.out; have f5 := ho6.frozenAt (i * 3 + 2); have HT5 := Lib.hid (HT4.out.grown hg5 (fun r e => (HO4.out.lt r e).1)); have HO6 := Lib.hid (ho6.stored (i * 3 + 2) (.int .i64 v)); have HG5 := Lib.hid (ho6.lt g5 rfl).1; have HT6 := Lib.hid (HT5.out.grown HO6.out.2 (fun r e => by have h1 := HG5.out; have h2 := Option.some.inj e; omega)); have o6 := HT6.out.cells.2.2.2; have f6 := HT6.out.frozen; clear ho5 ho6 hg5 c0 d0 d1 o0 c4))
  have ho7 := HO6.out.1
  rw [← HSET.out] at ho7
  have hll : L.length = l.length := HLN.out
  refine ⟨rfl, .tuple #[.agg #[.slice (some ⟨g5, 0, none⟩) l.length cap5], .int .i64 u, .bool true, .int .i64 0], ?_, ⟨_, rfl, _, _, by rw [hll], by rw [hll]; exact (own_cap ho7).1, lies_own (own_far ho7 (by simp))⟩, (HT6.out.store _).2⟩
  simp [results, Try.f34, go_sem, (HT6.out.store (.slice (some ⟨g5, 0, none⟩) l.length cap5)).1]

theorem refPut6_all (A : Option Addr) (c : Nat) (l : List Row6) (x n v : Int) (x0 : 0 ≤ x) (x1 : x < 4294967296) (hl : l.length ≤ 1000) (hcl : l.length ≤ c) (w : World) (hA : LiesS w A (rowCs l)) :
    Calls Try.prog 34 #[.agg #[.slice A l.length c], pfx x n, .int .i64 v] w fun e w' => (∃ v', e = .returned (.tuple #[v', .int .i64 (putF l (x, n) v).2.1, .bool (putF l (x, n) v).2.2.1, .int .i64 (putF l (x, n) v).2.2.2]) ∧ TrieV w' v' (putF l (x, n) v).1) ∧ Below w.heap.size w w' := by
  by_cases h : right x n ∧ spot6 l (x, n) < l.length
  · exact refPut6_set A c l x n v x0 x1 hl w hA h.1 h.2
  · exact refPut6_any A c l x n v x0 x1 hl hcl w hA h
end Go.Proofs.Ytghkacciihocdaa
