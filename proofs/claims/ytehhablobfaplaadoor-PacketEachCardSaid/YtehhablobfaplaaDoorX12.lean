/- Layer 5's program: Cut. -/
import Derived.Test.YtehhablobfaplaaDoorX9
namespace Go.Proofs.YtehhablobfaplaaDoor
open Go Go.RowKit Go.Shelf Go.Sort
attribute [local go_sem] Oper.semAt_some
attribute [local irreducible] wpQuiet

theorem infoDat : (Tryd.prog.info? 25).map (fun i => (i.zero, i.size, i.bytes)) = some (some (.agg #[.int .i64 0, .slice none 0 0]), 2, 32) := by kernel_rfl
theorem eqEntSome (a : Addr) (n c : Nat) (w : World) : (binOp .eql 23 (.slice (some a) n c) (.slice none 0 0)).run Tryd.prog w = .ok (.bool false) w := by kernel_rfl
theorem eqEntNone (n c : Nat) (w : World) : (binOp .eql 23 (.slice none n c) (.slice none 0 0)).run Tryd.prog w = .ok (.bool true) w := by kernel_rfl

/-- The cells of entries that lie somewhere. -/
theorem EntS.news {w : World} {a : Addr} {l : List Ent} (h : EntS w (some a) l) : ∀ q u, (entCs l)[q]? = some u → w.cell? (a.add q) = some u := fun q u hq => by
  have hlt : q < (entCs l).length := (List.getElem?_eq_some_iff.1 hq).1
  rw [entCs_len] at hlt
  obtain ⟨b, o, e, _, hc⟩ := h (by omega)
  cases e
  have hj : q / 6 < l.length := by omega
  have h1 := entCs_at l (q / 6) hj (q % 6) (by omega)
  rw [show 6 * (q / 6) + q % 6 = q by omega, hq] at h1
  have h2 := hc (q / 6) hj (q % 6) (by omega)
  rw [show o + q / 6 * 6 + q % 6 = o + q by omega] at h2
  rw [Addr.add_lit, h2, h1]
  have : q % 6 < 6 := by omega
  generalize q % 6 = r at *
  match r, this with
  | 0, _ => rfl
  | 1, _ => rfl
  | 2, _ => rfl
  | 3, _ => rfl
  | 4, _ => rfl
  | 5, _ => rfl
theorem entCs_one {l : List Ent} : ∀ u ∈ entCs l, u.oneCell' = true := fun u hu => by
  simp only [entCs, List.mem_flatMap] at hu
  obtain ⟨e, _, hu⟩ := hu
  simp at hu
  rcases hu with rfl | rfl | rfl | rfl | rfl | rfl <;> rfl

set_option maxHeartbeats 800000 in
theorem cloneE_any (p : Option Addr) (c : Nat) (l : List Ent) (w : World) (hn : l.length ≤ 1000000) (hx : EntS w p l) :
    Calls Tryd.prog 39 #[.slice p l.length c] w fun e w' => ∃ v, e = .returned v ∧ w'.ownsRow w.heap.size 55 6 v l.length (entCs l) ∧ Below w.heap.size w w' := by
  cases p with
  | none =>
    have h0 : l = [] := by
      cases l with
      | nil => rfl
      | cons a l =>
        obtain ⟨b, o, e, _⟩ := hx (by simp)
        cases e
    subst h0
    have he := eqEntNone 0 c
    clear hx
    go_enter Tryd.func39, Tryd.ntmps39
    go_wp2_with fail
    go_ret
    exact ⟨_, rfl, World.ownsRow_nil _ _ _ _, Below.refl _ _⟩
  | some a =>
    have he := eqEntSome a l.length c
    obtain ⟨i0, hi, hz0, hz1, hz2⟩ := info_parts infoEnt
    have HI := Lib.hid (And.intro hi (And.intro hz0 (And.intro hz1 hz2)))
    have HE : Hid ((w.alloc (.cells #[] 55)).ownsRow w.heap.size 55 6 (.slice (some ⟨w.heap.size, 0, none⟩) 0 0) 0 []) := World.ownsRow_made w #[] 0 (Nat.le_refl _) (Nat.zero_le _) (by simp)
    have HW0 : Hid (Below w.heap.size w (w.alloc (.cells #[] 55))) := (Below.refl _ _).alloc (Nat.le_refl _) _
    have HY := Lib.hid (hx.below HW0.out)
    clear hx hi hz0 hz1 hz2
    go_enter Tryd.func39, Tryd.ntmps39
    go_wp2_with (first | (at_builtin; refine wpList_append_own _ rfl _ _ 23 rfl w.heap.size 55 i0 (.agg #[.int .i64 0, .int .i64 0, .int .u32 0, .int .u32 0, .int .u32 0, .int .u32 0]) 6 32 Tryd.underlying23 HI.out.1 HI.out.2.1 HI.out.2.2.1 HI.out.2.2.2 rfl (by decide) _ _ _ rfl HE.out a l.length c (entCs l) rfl (entCs_len l) ?c1 ?c2 ?c3 ?c4 ?c5 ?_))
    case c1 => exact HY.out.news
    case c2 => exact entCs_one
    case c3 => unfold maxLen; omega
    case c4 => omega
    case c5 => simp
    intro v2 w2 hown hgrow _
    have HB2 := Lib.hid (HW0.out.grown hgrow (by simp) (fun k e => by cases e; exact Nat.le_refl _))
    have HO2 : Hid (w2.ownsRow w.heap.size 55 6 v2 l.length (entCs l)) := Lib.hid (by simpa using hown)
    clear hown hgrow HE HW0 HY
    go_wp2_with fail
    go_ret
    exact ⟨_, rfl, HO2.out, HB2.out⟩

set_option maxRecDepth 100000 in
set_option maxHeartbeats 1600000 in
theorem piece5_any (cm : Int) (Bc : Nat) (p : Option Addr) (c : Nat) (l : List Ent) (w : World) (hn : l.length ≤ 1000000) (hx : EntS w p l) (hc : w.cell? ⟨Bc, 0, none⟩ = some (.int .i64 cm)) :
    Calls Tryd.prog 38 #[.slice p l.length c, .pointer (some ⟨Bc, 0, none⟩)] w fun e w' => (∃ v, e = .returned (.agg #[.int .i64 cm, v]) ∧ w'.ownsRow w.heap.size 55 6 v l.length (entCs l)) ∧ Below w.heap.size w w' := by
  have hlt := World.block_lt_of_cell? _ _ hc
  simp only at hlt
  have hb0 : Below w.heap.size w (w.alloc (.cells #[.int .i64 0, .slice none 0 0] 25)) := (Below.refl _ _).alloc (Nat.le_refl _) _
  have hbl : Blk (w.alloc (.cells #[.int .i64 0, .slice none 0 0] 25)) w.heap.size 25 #[.int .i64 0, .slice none 0 0] := Blk.new _ _ _
  have hsz : (w.alloc (.cells #[.int .i64 0, .slice none 0 0] 25)).heap.size = w.heap.size + 1 := by simp
  have HX := Lib.hid hx
  have HB0 := Lib.hid hb0
  have HBL := Lib.hid hbl
  clear hx hb0 hbl
  go_enter Tryd.func38, Tryd.ntmps38
  go_wp2_with fail
  generalize (w.alloc (.cells #[.int .i64 0, .slice none 0 0] 25)) = W0 at *
  have HS : Hid (∀ w', Below W0.heap.size W0 w' → w'.cell? ⟨Bc, 0, none⟩ = some (.int .i64 cm)) := Lib.hid (fun w' h => ((HB0.out.trans (h.mono HB0.out.size)).cell (p := ⟨Bc, 0, none⟩) hlt).trans hc)
  refine wp_region_noPanic ?_
  refine wp_region_held_drew (S := fun w' => w'.cell? ⟨Bc, 0, none⟩ = some (.int .i64 cm)) (by kernel_rfl) (HS.out _ (below_drew W0)) ?_
  intro hS0
  refine wpAnyH_take (i := 0) (v := ?v1) (by rw [List.getElem?_toArray]; exact rfl) (by kernel_rfl) (by kernel_rfl) (by kernel_rfl) (fun _ _ _ h => h) (Or.inl ⟨by rfl, ?hy1⟩) (by assumption) ?rest1
  case hy1 => intro w hSw; (try dsimp only at hSw); go_simp; (try with_reducible rfl)
  try simp only [Act.put, List.setIfInBounds_toArray, List.set_cons_zero, List.set_cons_succ]
  refine wpAnyH_take (i := 1) (v := ?v2) (by rw [List.getElem?_toArray]; exact rfl) (by kernel_rfl) (by kernel_rfl) (by kernel_rfl) (fun _ _ _ h => h) (Or.inl ⟨by rfl, ?hy2⟩) (by assumption) ?rest2
  case hy2 => intro w hSw; (try dsimp only at hSw); go_simp; (try with_reducible rfl)
  try simp only [Act.put, List.setIfInBounds_toArray, List.set_cons_zero, List.set_cons_succ]
  refine ready_call (i := 2) (by kernel_rfl) (by rw [List.getElem?_toArray]; exact rfl) (by kernel_rfl) (fun K1 hK1 => ?_)
  go_simp
  refine (cloneE_any p c l _ hn (HX.out.below (HB0.out.trans ((below_drew W0).mono HB0.out.size)))).mono ?_
  rintro e w1 ⟨v, rfl, ho, hb1⟩
  have hB1 := (below_drew W0).trans (hb1.mono (below_drew W0).size)
  have HO := Lib.hid (Joins.ownsRow_le ho (show W0.heap.size ≤ _ from Nat.le_refl _))
  clear ho hb1
  refine hK1.out _ _ (HS.out _ hB1) (fun hS1 => ?_)
  clear hK1 K1
  try simp only [Act.put, List.setIfInBounds_toArray, List.set_cons_zero, List.set_cons_succ]
  have hform : v = .slice none 0 0 ∨ ∃ g cap, v = .slice (some ⟨g, 0, none⟩) l.length cap := (Joins.ownsRow_forms HO.out).imp (fun h => h.1) (fun h => h)
  have HK2 := Lib.hid (HBL.out.below hB1 HBL.out.lt)
  have HB2 := Lib.hid (HB0.out.trans (hB1.mono HB0.out.size))
  have hls := HBL.out.lt
  clear hB1
  rcases hform with rfl | ⟨g2, cap2, rfl⟩
  · refine wpAnyH_take (i := 3) (v := ?v3) (by rw [List.getElem?_toArray]; exact rfl) (by kernel_rfl) (by kernel_rfl) (by kernel_rfl) (fun _ _ _ h => h) (Or.inl ⟨by rfl, ?hy3⟩) (by assumption) ?rest3
    case hy3 => intro w hSw; (try dsimp only at hSw); go_simp; (try with_reducible rfl)
    try simp only [Act.put, List.setIfInBounds_toArray, List.set_cons_zero, List.set_cons_succ]
    refine ready_call (i := 4) (by kernel_rfl) (by rw [List.getElem?_toArray]; exact rfl) (by kernel_rfl) (fun K1 hK1 => ?_)
    have f0 := HK2.out.frozen 0
    have f1 := HK2.out.frozen 1
    have z2 := HK2.out.cell 0
    have z3 := HK2.out.cell 1
    simp only [List.getElem?_toArray, List.getElem?_cons_zero, List.getElem?_cons_succ] at z2 z3
    go_simp
    have hk3 := (HK2.out.set_ 0 (.int .i64 cm)).set_ 1 (.slice none 0 0)
    have q0 := hk3.cell 0
    have q1 := hk3.cell 1
    simp at q0 q1
    have HBF := Lib.hid ((HB2.out.setCell (p := ⟨w.heap.size, 0, none⟩) (Nat.le_refl _) (.int .i64 cm)).setCell (p := ⟨w.heap.size, 1, none⟩) (Nat.le_refl _) (.slice none 0 0))
    have HOF := Lib.hid (Joins.ownsRow_le (ownsRow_setCell_below (ownsRow_setCell_below HO.out (a := ⟨w.heap.size, 0, none⟩) hls (.int .i64 cm)) (a := ⟨w.heap.size, 1, none⟩) hls (.slice none 0 0)) (Nat.le_of_lt hls))
    have hS2 : ((w1.setCell ⟨w.heap.size, 0, none⟩ (.int .i64 cm)).setCell ⟨w.heap.size, 1, none⟩ (.slice none 0 0)).cell? ⟨Bc, 0, none⟩ = some (.int .i64 cm) := (HBF.out.cell (p := ⟨Bc, 0, none⟩) hlt).trans hc
    refine hK1.out _ _ hS2 (fun hS3 => ?_)
    clear hK1 K1 hk3
    try simp only [Act.put, List.setIfInBounds_toArray, List.set_cons_zero, List.set_cons_succ]
    refine wpAnyH_done (by kernel_rfl) ?_ _
    refine NoPanic.normal ?_
    go_wp2_with fail
    refine ⟨rfl, .agg #[.int .i64 cm, (.slice none 0 0)], ?_, ⟨(.slice none 0 0), rfl, HOF.out⟩, HBF.out⟩
    simp [results, Tryd.f38, go_sem, q0, q1]
  · refine wpAnyH_take (i := 3) (v := ?v4) (by rw [List.getElem?_toArray]; exact rfl) (by kernel_rfl) (by kernel_rfl) (by kernel_rfl) (fun _ _ _ h => h) (Or.inl ⟨by rfl, ?hy4⟩) (by assumption) ?rest4
    case hy4 => intro w hSw; (try dsimp only at hSw); go_simp; (try with_reducible rfl)
    try simp only [Act.put, List.setIfInBounds_toArray, List.set_cons_zero, List.set_cons_succ]
    refine ready_call (i := 4) (by kernel_rfl) (by rw [List.getElem?_toArray]; exact rfl) (by kernel_rfl) (fun K1 hK1 => ?_)
    have f0 := HK2.out.frozen 0
    have f1 := HK2.out.frozen 1
    have z2 := HK2.out.cell 0
    have z3 := HK2.out.cell 1
    simp only [List.getElem?_toArray, List.getElem?_cons_zero, List.getElem?_cons_succ] at z2 z3
    go_simp
    have hk3 := (HK2.out.set_ 0 (.int .i64 cm)).set_ 1 (.slice (some ⟨g2, 0, none⟩) l.length cap2)
    have q0 := hk3.cell 0
    have q1 := hk3.cell 1
    simp at q0 q1
    have HBF := Lib.hid ((HB2.out.setCell (p := ⟨w.heap.size, 0, none⟩) (Nat.le_refl _) (.int .i64 cm)).setCell (p := ⟨w.heap.size, 1, none⟩) (Nat.le_refl _) (.slice (some ⟨g2, 0, none⟩) l.length cap2))
    have HOF := Lib.hid (Joins.ownsRow_le (ownsRow_setCell_below (ownsRow_setCell_below HO.out (a := ⟨w.heap.size, 0, none⟩) hls (.int .i64 cm)) (a := ⟨w.heap.size, 1, none⟩) hls (.slice (some ⟨g2, 0, none⟩) l.length cap2)) (Nat.le_of_lt hls))
    have hS2 : ((w1.setCell ⟨w.heap.size, 0, none⟩ (.int .i64 cm)).setCell ⟨w.heap.size, 1, none⟩ (.slice (some ⟨g2, 0, none⟩) l.length cap2)).cell? ⟨Bc, 0, none⟩ = some (.int .i64 cm) := (HBF.out.cell (p := ⟨Bc, 0, none⟩) hlt).trans hc
    refine hK1.out _ _ hS2 (fun hS3 => ?_)
    clear hK1 K1 hk3
    try simp only [Act.put, List.setIfInBounds_toArray, List.set_cons_zero, List.set_cons_succ]
    refine wpAnyH_done (by kernel_rfl) ?_ _
    refine NoPanic.normal ?_
    go_wp2_with fail
    refine ⟨rfl, .agg #[.int .i64 cm, (.slice (some ⟨g2, 0, none⟩) l.length cap2)], ?_, ⟨(.slice (some ⟨g2, 0, none⟩) l.length cap2), rfl, HOF.out⟩, HBF.out⟩
    simp [results, Tryd.f38, go_sem, q0, q1]
end Go.Proofs.YtehhablobfaplaaDoor
