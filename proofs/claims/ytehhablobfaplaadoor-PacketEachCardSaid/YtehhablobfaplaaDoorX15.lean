/- Layer 5's reference: Cut, the walk. -/
import Derived.Test.YtehhablobfaplaaDoorX14
namespace Go.Proofs.YtehhablobfaplaaDoor
open Go Go.RowKit Go.Shelf Go.Sort
attribute [local go_sem] Oper.semAt_some
attribute [local irreducible] wpQuiet

set_option maxRecDepth 100000 in
set_option maxHeartbeats 6400000 in
theorem refCut5_yes (c : Int) (hcm : comD c) (A : Option Addr) (ca : Nat) (l : List Ent) (hn : l.length ≤ 1000000) (w : World) (hA : EntS w A l) :
    Calls Tryd.prog 19 #[.int .i64 c, .slice A l.length ca] w fun e w' => CutY w c l e w' ∧ Below w.heap.size w w' := by
  obtain ⟨i0, hi, hz0, hz1, hz2⟩ := info_parts infoDat
  have HI := Lib.hid (And.intro hi (And.intro hz0 (And.intro hz1 hz2)))
  obtain ⟨j0, hj, hy0, hy1, hy2⟩ := info_parts infoEnt
  have HJ := Lib.hid (And.intro hj (And.intro hy0 (And.intro hy1 hy2)))
  have HHA := Lib.hid hA
  have HE := Lib.hid (show mayNo c 1 l = if rightL l then 0 else 2 by unfold mayNo; rw [if_neg (not_not_intro hcm), if_neg (by simp)])
  have HCM : Hid (∀ W, Calls Tryd.prog 27 #[.int .i64 c] W fun e w' => e = .returned (.bool true) ∧ Below W.heap.size W w') := Lib.hid (fun W => by
    have := refCom5_any c W
    rwa [decide_eq_true hcm] at this)
  clear hi hz0 hz1 hz2 hj hy0 hy1 hy2 hA hcm
  go_enter Tryd.func19, Tryd.ntmps19
  go_wp2_with fail
  refine (HCM.out _).mono ?_
  rintro e w1 ⟨rfl, hb⟩
  have HB0 := Lib.hid hb
  clear hb HCM
  go_wp2_with fail
  go_loopw [6, 7] (fun v a wr => ∃ i : Nat, i ≤ l.length ∧ a = .int .i64 i ∧ Hid (∀ q (hq : q < l.length), q < i → rightE (l[q]'hq)) ∧ Hid (Below w.heap.size w wr) ∧ Hid (CutAt wr w.heap.size v c l i)) (fun _ a _ => l.length - (intOf a).toNat)
  case atStart => exact ⟨0, by omega, rfl, Lib.hid (fun q _ h => by omega), HB0, Lib.hid (.inl ⟨rfl, rfl⟩)⟩
  case round =>
    obtain ⟨i, hil, rfl, HZ, HB, HC⟩ := hrel
    by_cases hlt : i < l.length
    · have jz : (i : Int) < (l.length : Int) := by omega
      obtain ⟨b, o, rfl, hbl, d0, d1, d2, d3, d4, d5⟩ := (HHA.out.below HB.out).at hlt
      have hbw : b < w.heap.size := by
        obtain ⟨b', o', e, hl, _⟩ := HHA.out (by omega)
        cases e
        exact hl
      have hgi : l[i]? = some (l[i]'hlt) := List.getElem?_eq_getElem hlt
      by_cases hre : rightE (l[i]'hlt)
      · have hcall : ∀ W : World, Calls Tryd.prog 28 #[entV (l[i]'hlt)] W fun e w' => e = .returned (.bool true) ∧ Below W.heap.size W w' := fun W => (refRight4_any (l[i]'hlt) W).mono (by rintro e w' ⟨rfl, h⟩; exact ⟨by simp [hre], h⟩)
        have HZ2 : Hid (∀ q (hq : q < l.length), q < i + 1 → rightE (l[q]'hq)) := Lib.hid (fun q hq hqi => by
          rcases Nat.lt_or_ge q i with h | h
          · exact HZ.out q hq h
          · obtain rfl : q = i := by omega
            exact hre)
        clear hre HZ
        generalize (l[i]'hlt) = x at *
        obtain ⟨f, t, a, mk, nx, z⟩ := x
        have HCALL := Lib.hid hcall
        have HGI := Lib.hid hgi
        have HL : Hid (∀ W, Below w.heap.size w W → W.cell? ⟨b, o + i * 6, none⟩ = some (.int .i64 f) ∧ W.cell? ⟨b, o + i * 6 + 1, none⟩ = some (.int .i64 t) ∧ W.cell? ⟨b, o + i * 6 + 2, none⟩ = some (.int .u32 a) ∧ W.cell? ⟨b, o + i * 6 + 3, none⟩ = some (.int .u32 mk) ∧ W.cell? ⟨b, o + i * 6 + 4, none⟩ = some (.int .u32 nx) ∧ W.cell? ⟨b, o + i * 6 + 5, none⟩ = some (.int .u32 z)) := Lib.hid (fun W hW => by
          have tr : ∀ q v, wr.cell? ⟨b, q, none⟩ = some v → W.cell? ⟨b, q, none⟩ = some v := fun q v h => (hW.cell (p := ⟨b, q, none⟩) hbw).trans ((HB.out.cell (p := ⟨b, q, none⟩) hbw).symm.trans h)
          exact ⟨tr _ _ d0, tr _ _ d1, tr _ _ d2, tr _ _ d3, tr _ _ d4, tr _ _ d5⟩)
        have hmod : (i : Int).tmod 25 = ((i % 25 : Nat) : Int) := by rw [Int.tmod_eq_emod_of_nonneg (by omega)]; rfl
        clear hcall hgi
        by_cases hm0 : i % 25 = 0
        · rw [hm0] at hmod
          go_wp2_with fail
          refine (HCALL.out _).mono ?_
          rintro e w2 ⟨rfl, hb2⟩
          have HB2 := Lib.hid (HB.out.trans (hb2.mono HB.out.size))
          obtain ⟨vs, hvs, hrow, hdone⟩ := (HC.out.past hb2).whole hm0
          have hal : Below w2.heap.size w2 (w2.alloc (.cells #[.int .i64 c, .slice none 0 0] 25)) := (Below.refl _ _).alloc (Nat.le_refl _) _
          have HROW := Lib.hid (row_past5 hrow hal)
          have HDONE : Hid (∀ j (h : j < vs.length), (w2.alloc (.cells #[.int .i64 c, .slice none 0 0] 25)).ownsRow w.heap.size 55 6 (vs[j]'h) 25 (entCs (pieceE l j))) := Lib.hid (fun j h => row_past5 (hdone j h) hal)
          have HBA := Lib.hid (HB2.out.trans (hal.mono HB2.out.size))
          have HVS := Lib.hid hvs
          have hk25 : i / 25 ≤ 1000000 := by omega
          have hbs := HB2.out.size
          clear hb2 hrow hdone hal hvs HC HB HCALL d0 d1 d2 d3 d4 d5
          generalize hkk : i / 25 = k at *
          have HKK := Lib.hid hkk
          clear hkk
          go_wp2_with (first | (at_builtin; refine wpList_append_own _ rfl _ _ 42 rfl w.heap.size 25 i0 (.agg #[.int .i64 0, .slice none 0 0]) 2 32 Tryd.underlying42 HI.out.1 HI.out.2.1 HI.out.2.2.1 HI.out.2.2.2 rfl (by decide) _ _ _ rfl HROW.out ⟨w2.heap.size, 0, none⟩ 1 1 [.int .i64 c, .slice none 0 0] rfl rfl ?c1 ?c2 ?c3 ?c4 ?c5 ?_))
          case c1 =>
            intro q u hq
            match q, hq with
            | 0, hq => simp at hq; subst hq; simp [Addr.add]
            | 1, hq => simp at hq; subst hq; simp [Addr.add]
            | q + 2, hq => simp at hq
          case c2 =>
            intro u hu
            simp at hu
            rcases hu with rfl | rfl <;> rfl
          case c3 => unfold maxLen; omega
          case c4 => omega
          case c5 => simp; omega
          intro v1 w3 hown hgrow _
          have HS3 := Lib.hid (CutS.start (l := l) HVS.out HROW.out HDONE.out hown hgrow HBA.out.size)
          have HB3 : Hid (Below w.heap.size w w3) := Lib.hid (HBA.out.grown hgrow HBA.out.size (fun r e => (HROW.out.lt r e).1))
          obtain ⟨go, capo, rfl⟩ := ownsRow_succ hown
          have HIM : Hid (i = 25 * k + 0) := Lib.hid (by have := HKK.out; omega)
          have HMM : Hid (0 < 25) := Lib.hid (by omega)
          clear hown hgrow HROW HDONE HBA HVS hbs HB2 hm0
          go_wp2_with fail
          clear hmod
          obtain ⟨mark, hmark⟩ : ∃ mark, w3.heap.size = mark := ⟨_, rfl⟩
          rw [hmark] at HS3
          clear hmark
          have hkw : IntKind.i64.wrap (k : Int) = (k : Int) := by rw [IntKind.wrap_i64]; omega
          have hkl : (k : Int) < (k : Int) + 1 := by omega
          have hc3 : w3.drew.cell? ⟨go, k * 2 + 1, none⟩ = some (.slice none 0 0) := by
            have h1 := HS3.out.row.drew.cellAt (k * 2 + 1) (by omega)
            have h2 := (datCs_at c (vs ++ [(.slice none 0 0)]) k (by simp [HS3.out.len])).2
            rw [h1, show k * 2 + 1 = 2 * k + 1 by omega, h2]
            simp [← HS3.out.len]
          have hdr := HB3.out.trans ((below_drew w3).mono HB3.out.size)
          have hal : Below w3.drew.heap.size w3.drew (w3.drew.alloc (.cells #[.int .i64 f, .int .i64 t, .int .u32 a, .int .u32 mk, .int .u32 nx, .int .u32 z] 55)) := (Below.refl _ _).alloc (Nat.le_refl _) _
          have HSA := Lib.hid ((HS3.out.past (below_drew w3)).past hal)
          have HBA := Lib.hid (hdr.trans (hal.mono hdr.size))
          have hc4 : (w3.drew.alloc (.cells #[.int .i64 f, .int .i64 t, .int .u32 a, .int .u32 mk, .int .u32 nx, .int .u32 z] 55)).cell? ⟨go, k * 2 + 1, none⟩ = some (.slice none 0 0) := (hal.cell (p := ⟨go, k * 2 + 1, none⟩) (World.block_lt_of_cell? _ _ hc3)).trans hc3
          have hc6 : (w3.alloc (.cells #[.int .i64 f, .int .i64 t, .int .u32 a, .int .u32 mk, .int .u32 nx, .int .u32 z] 55)).cell? ⟨go, k * 2 + 1, none⟩ = some (.slice none 0 0) := hc4
          refine wp_region_noPanic ?_
          refine wp_region_held_drew (S := fun W => W.cell? ⟨b, o + i * 6, none⟩ = some (.int .i64 f) ∧ W.cell? ⟨b, o + i * 6 + 1, none⟩ = some (.int .i64 t) ∧ W.cell? ⟨b, o + i * 6 + 2, none⟩ = some (.int .u32 a) ∧ W.cell? ⟨b, o + i * 6 + 3, none⟩ = some (.int .u32 mk) ∧ W.cell? ⟨b, o + i * 6 + 4, none⟩ = some (.int .u32 nx) ∧ W.cell? ⟨b, o + i * 6 + 5, none⟩ = some (.int .u32 z)) (by kernel_rfl) (HL.out _ hdr) ?_
          intro hS0
          refine wpAnyH_take (i := 0) (v := ?v1) (by rw [List.getElem?_toArray]; exact rfl) (by kernel_rfl) (by kernel_rfl) (by kernel_rfl) (fun _ _ _ h => h) (Or.inl ⟨by rfl, ?hy1⟩) (by assumption) ?rest1
          case hy1 => intro w hSw; (try dsimp only at hSw); go_simp; (try with_reducible rfl)
          try simp only [Act.put, List.setIfInBounds_toArray, List.set_cons_zero, List.set_cons_succ]
          refine wpAnyH_take (i := 1) (v := ?v2) (by rw [List.getElem?_toArray]; exact rfl) (by kernel_rfl) (by kernel_rfl) (by kernel_rfl) (fun _ _ _ h => h) (Or.inl ⟨by rfl, ?hy2⟩) (by assumption) ?rest2
          case hy2 => intro w hSw; (try dsimp only at hSw); go_simp; (try with_reducible rfl)
          try simp only [Act.put, List.setIfInBounds_toArray, List.set_cons_zero, List.set_cons_succ]
          refine wpAnyH_take (i := 2) (v := ?v3) (by rw [List.getElem?_toArray]; exact rfl) (by kernel_rfl) (by kernel_rfl) (by kernel_rfl) (fun _ _ _ h => h) (Or.inl ⟨by rfl, ?hy3⟩) (by assumption) ?rest3
          case hy3 => intro w hSw; (try dsimp only at hSw); go_simp; (try with_reducible rfl)
          try simp only [Act.put, List.setIfInBounds_toArray, List.set_cons_zero, List.set_cons_succ]
          refine wpAnyH_take (i := 3) (v := ?v4) (by rw [List.getElem?_toArray]; exact rfl) (by kernel_rfl) (by kernel_rfl) (by kernel_rfl) (fun _ _ _ h => h) (Or.inl ⟨by rfl, ?hy4⟩) (by assumption) ?rest4
          case hy4 => intro w hSw; (try dsimp only at hSw); go_simp; (try with_reducible rfl)
          try simp only [Act.put, List.setIfInBounds_toArray, List.set_cons_zero, List.set_cons_succ]
          refine wpAnyH_take (i := 4) (v := ?v5) (by rw [List.getElem?_toArray]; exact rfl) (by kernel_rfl) (by kernel_rfl) (by kernel_rfl) (fun _ _ _ h => h) (Or.inl ⟨by rfl, ?hy5⟩) (by assumption) ?rest5
          case hy5 => intro w hSw; (try dsimp only at hSw); go_simp; (try with_reducible rfl)
          try simp only [Act.put, List.setIfInBounds_toArray, List.set_cons_zero, List.set_cons_succ]
          refine wpAnyH_take (i := 5) (v := ?v6) (by rw [List.getElem?_toArray]; exact rfl) (by kernel_rfl) (by kernel_rfl) (by kernel_rfl) (fun _ _ _ h => h) (Or.inl ⟨by rfl, ?hy6⟩) (by assumption) ?rest6
          case hy6 => intro w hSw; (try dsimp only at hSw); go_simp; (try with_reducible rfl)
          try simp only [Act.put, List.setIfInBounds_toArray, List.set_cons_zero, List.set_cons_succ]
          refine wpAnyH_take (i := 6) (v := ?v7) (by rw [List.getElem?_toArray]; exact rfl) (by kernel_rfl) (by kernel_rfl) (by kernel_rfl) (fun _ _ _ h => h) (Or.inl ⟨by rfl, ?hy7⟩) (by assumption) ?rest7
          case hy7 => intro w hSw; (try dsimp only at hSw); go_simp; (try with_reducible rfl)
          try simp only [Act.put, List.setIfInBounds_toArray, List.set_cons_zero, List.set_cons_succ]
          refine wpAnyH_take (i := 7) (v := ?v8) (by rw [List.getElem?_toArray]; exact rfl) (by kernel_rfl) (by kernel_rfl) (by kernel_rfl) (fun _ _ _ h => h) (Or.inl ⟨by rfl, ?hy8⟩) (by assumption) ?rest8
          case hy8 => intro w hSw; (try dsimp only at hSw); go_simp; (try with_reducible rfl)
          try simp only [Act.put, List.setIfInBounds_toArray, List.set_cons_zero, List.set_cons_succ]
          refine wpAnyH_take (i := 8) (v := ?v9) (by rw [List.getElem?_toArray]; exact rfl) (by kernel_rfl) (by kernel_rfl) (by kernel_rfl) (fun _ _ _ h => h) (Or.inl ⟨by rfl, ?hy9⟩) (by assumption) ?rest9
          case hy9 => intro w hSw; (try dsimp only at hSw); go_simp; (try with_reducible rfl)
          try simp only [Act.put, List.setIfInBounds_toArray, List.set_cons_zero, List.set_cons_succ]
          refine wpAnyH_take (i := 9) (v := ?v10) (by rw [List.getElem?_toArray]; exact rfl) (by kernel_rfl) (by kernel_rfl) (by kernel_rfl) (fun _ _ _ h => h) (Or.inl ⟨by rfl, ?hy10⟩) (by assumption) ?rest10
          case hy10 => intro w hSw; (try dsimp only at hSw); go_simp; (try with_reducible rfl)
          try simp only [Act.put, List.setIfInBounds_toArray, List.set_cons_zero, List.set_cons_succ]
          refine wpAnyH_take (i := 11) (v := ?v11) (by rw [List.getElem?_toArray]; exact rfl) (by kernel_rfl) (by kernel_rfl) (by kernel_rfl) (fun _ _ _ h => h) (Or.inl ⟨by rfl, ?hy11⟩) (by assumption) ?rest11
          case hy11 => intro w hSw; (try dsimp only at hSw); go_simp; (try with_reducible rfl)
          try simp only [Act.put, List.setIfInBounds_toArray, List.set_cons_zero, List.set_cons_succ]
          refine wpAnyH_take (i := 12) (v := ?v12) (by rw [List.getElem?_toArray]; exact rfl) (by kernel_rfl) (by kernel_rfl) (by kernel_rfl) (fun _ _ _ h => h) (Or.inl ⟨by rfl, ?hy12⟩) (by assumption) ?rest12
          case hy12 => intro w hSw; (try dsimp only at hSw); go_simp; (try with_reducible rfl)
          try simp only [Act.put, List.setIfInBounds_toArray, List.set_cons_zero, List.set_cons_succ]
          refine wpAnyH_take (i := 13) (v := ?v13) (by rw [List.getElem?_toArray]; exact rfl) (by kernel_rfl) (by kernel_rfl) (by kernel_rfl) (fun _ _ _ h => h) (Or.inl ⟨by rfl, ?hy13⟩) (by assumption) ?rest13
          case hy13 => intro w hSw; (try dsimp only at hSw); go_simp; (try with_reducible rfl)
          try simp only [Act.put, List.setIfInBounds_toArray, List.set_cons_zero, List.set_cons_succ]
          refine wpAnyH_take (i := 14) (v := ?v14) (by rw [List.getElem?_toArray]; exact rfl) (by kernel_rfl) (by kernel_rfl) (by kernel_rfl) (fun _ _ _ h => h) (Or.inl ⟨by rfl, ?hy14⟩) (by assumption) ?rest14
          case hy14 => intro w hSw; (try dsimp only at hSw); go_simp; (try with_reducible rfl)
          try simp only [Act.put, List.setIfInBounds_toArray, List.set_cons_zero, List.set_cons_succ]
          refine ready_two (i := 10) (j := 15) (by kernel_rfl) (by rw [List.getElem?_toArray]; exact rfl) (by rw [List.getElem?_toArray]; exact rfl) (by kernel_rfl) (by kernel_rfl) (fun K1 hK1 => ?_) (fun K1 hK1 => ?_)
          · go_simp
            refine hK1.out _ _ (hS0) (fun hS1 => ?_)
            clear hK1 K1
            try simp only [Act.put, List.setIfInBounds_toArray, List.set_cons_zero, List.set_cons_succ]
            refine ready_call (i := 15) (by kernel_rfl) (by rw [List.getElem?_toArray]; exact rfl) (by kernel_rfl) (fun K1 hK1 => ?_)
            go_simp
            refine hK1.out _ _ (HL.out _ HBA.out) (fun hS2 => ?_)
            clear hK1 K1
            try simp only [Act.put, List.setIfInBounds_toArray, List.set_cons_zero, List.set_cons_succ]
            refine ready_call (i := 16) (by kernel_rfl) (by rw [List.getElem?_toArray]; exact rfl) (by kernel_rfl) (fun K1 hK1 => ?_)
            refine wp_append_own _ (.tmp 41) (.tmp 46) 23 (by rfl) mark 55 j0 (.agg #[.int .i64 0, .int .i64 0, .int .u32 0, .int .u32 0, .int .u32 0, .int .u32 0]) 6 32 Tryd.underlying23 HJ.out.1 HJ.out.2.1 HJ.out.2.2.1 HJ.out.2.2.2 rfl (by decide) (.slice none 0 0) 0 (entCs ((l.drop (25 * k)).take 0)) (by rfl) HSA.out.cur ⟨w3.drew.heap.size, 0, none⟩ 1 1 [.int .i64 f, .int .i64 t, .int .u32 a, .int .u32 mk, .int .u32 nx, .int .u32 z] (by rfl) rfl ?c1 ?c2 ?c3 ?c4 ?c5 ?_
            case c1 =>
              intro q u hq
              match q, hq with
              | 0, hq => simp at hq; subst hq; simp [Addr.add]
              | 1, hq => simp at hq; subst hq; simp [Addr.add]
              | 2, hq => simp at hq; subst hq; simp [Addr.add]
              | 3, hq => simp at hq; subst hq; simp [Addr.add]
              | 4, hq => simp at hq; subst hq; simp [Addr.add]
              | 5, hq => simp at hq; subst hq; simp [Addr.add]
              | q + 6, hq => simp at hq
            case c2 =>
              intro u hu
              simp at hu
              rcases hu with rfl | rfl | rfl | rfl | rfl | rfl <;> rfl
            case c3 => have := HMM.out; unfold maxLen; omega
            case c4 => have := HMM.out; omega
            case c5 => exact HSA.out.hi
            intro v2 w5 hown hgrow _
            obtain ⟨hcs5, hc5, hf5⟩ := HSA.out.push (x := ⟨f, t, a, mk, nx, z⟩) (by rw [← HIM.out]; exact HGI.out) hown hgrow
            have hb5 : Below w.heap.size w w5 := HBA.out.grown hgrow HBA.out.size (fun r e => Nat.le_trans HSA.out.lo (HSA.out.cur.lt r e).1)
            have hb6 : Below w.heap.size w (w5.setCell ⟨go, k * 2 + 1, none⟩ v2) := hb5.setCell (HSA.out.row.lt go rfl).1 v2
            obtain ⟨gv, capv, rfl⟩ := ownsRow_succ hown
            refine hK1.out _ _ (HL.out _ hb5) (fun hS5 => ?_)
            clear hK1 K1 hown hgrow
            try simp only [Act.put, List.setIfInBounds_toArray, List.set_cons_zero, List.set_cons_succ]
            refine ready_call (i := 17) (by kernel_rfl) (by rw [List.getElem?_toArray]; exact rfl) (by kernel_rfl) (fun K1 hK1 => ?_)
            go_simp
            refine hK1.out _ _ (hS5) (fun hS6 => ?_)
            clear hK1 K1
            try simp only [Act.put, List.setIfInBounds_toArray, List.set_cons_zero, List.set_cons_succ]
            refine ready_call (i := 18) (by kernel_rfl) (by rw [List.getElem?_toArray]; exact rfl) (by kernel_rfl) (fun K1 hK1 => ?_)
            go_simp
            refine hK1.out _ _ (hS6) (fun hS7 => ?_)
            clear hK1 K1
            try simp only [Act.put, List.setIfInBounds_toArray, List.set_cons_zero, List.set_cons_succ]
            have HB6 := Lib.hid hb6
            have HC6 := Lib.hid hcs5
            have hS8 := HL.out _ hb6
            clear hb5 hb6 hcs5
            refine ready_call (i := 19) (by kernel_rfl) (by rw [List.getElem?_toArray]; exact rfl) (by kernel_rfl) (fun K1 hK1 => ?_)
            go_simp
            refine hK1.out _ _ (hS8) (fun hS9 => ?_)
            clear hK1 K1
            try simp only [Act.put, List.setIfInBounds_toArray, List.set_cons_zero, List.set_cons_succ]
            refine wpAnyH_done (by kernel_rfl) ?_ _
            refine NoPanic.normal ?_
            clear hS0 hS5 hS6 hS7 hS8 hS9 hc5 hf5 hc3 hc4 hc6
            go_wp2_with fail
            go_roundw
            case rel => exact ⟨i + 1, by omega, by go_num, HZ2, HB6, Lib.hid (.inr ⟨k, 0 + 1, vs, _, mark, by have := HIM.out; omega, by omega, by have := HMM.out; omega, HC6.out⟩)⟩
            case measure => simp [intOf]; omega
          · go_simp
            refine hK1.out _ _ (HL.out _ HBA.out) (fun hS1 => ?_)
            clear hK1 K1
            try simp only [Act.put, List.setIfInBounds_toArray, List.set_cons_zero, List.set_cons_succ]
            refine ready_call (i := 10) (by kernel_rfl) (by rw [List.getElem?_toArray]; exact rfl) (by kernel_rfl) (fun K1 hK1 => ?_)
            go_simp
            refine hK1.out _ _ (hS1) (fun hS2 => ?_)
            clear hK1 K1
            try simp only [Act.put, List.setIfInBounds_toArray, List.set_cons_zero, List.set_cons_succ]
            refine ready_call (i := 16) (by kernel_rfl) (by rw [List.getElem?_toArray]; exact rfl) (by kernel_rfl) (fun K1 hK1 => ?_)
            refine wp_append_own _ (.tmp 41) (.tmp 46) 23 (by rfl) mark 55 j0 (.agg #[.int .i64 0, .int .i64 0, .int .u32 0, .int .u32 0, .int .u32 0, .int .u32 0]) 6 32 Tryd.underlying23 HJ.out.1 HJ.out.2.1 HJ.out.2.2.1 HJ.out.2.2.2 rfl (by decide) (.slice none 0 0) 0 (entCs ((l.drop (25 * k)).take 0)) (by rfl) HSA.out.cur ⟨w3.drew.heap.size, 0, none⟩ 1 1 [.int .i64 f, .int .i64 t, .int .u32 a, .int .u32 mk, .int .u32 nx, .int .u32 z] (by rfl) rfl ?c1 ?c2 ?c3 ?c4 ?c5 ?_
            case c1 =>
              intro q u hq
              match q, hq with
              | 0, hq => simp at hq; subst hq; simp [Addr.add]
              | 1, hq => simp at hq; subst hq; simp [Addr.add]
              | 2, hq => simp at hq; subst hq; simp [Addr.add]
              | 3, hq => simp at hq; subst hq; simp [Addr.add]
              | 4, hq => simp at hq; subst hq; simp [Addr.add]
              | 5, hq => simp at hq; subst hq; simp [Addr.add]
              | q + 6, hq => simp at hq
            case c2 =>
              intro u hu
              simp at hu
              rcases hu with rfl | rfl | rfl | rfl | rfl | rfl <;> rfl
            case c3 => have := HMM.out; unfold maxLen; omega
            case c4 => have := HMM.out; omega
            case c5 => exact HSA.out.hi
            intro v2 w5 hown hgrow _
            obtain ⟨hcs5, hc5, hf5⟩ := HSA.out.push (x := ⟨f, t, a, mk, nx, z⟩) (by rw [← HIM.out]; exact HGI.out) hown hgrow
            have hb5 : Below w.heap.size w w5 := HBA.out.grown hgrow HBA.out.size (fun r e => Nat.le_trans HSA.out.lo (HSA.out.cur.lt r e).1)
            have hb6 : Below w.heap.size w (w5.setCell ⟨go, k * 2 + 1, none⟩ v2) := hb5.setCell (HSA.out.row.lt go rfl).1 v2
            obtain ⟨gv, capv, rfl⟩ := ownsRow_succ hown
            refine hK1.out _ _ (HL.out _ hb5) (fun hS5 => ?_)
            clear hK1 K1 hown hgrow
            try simp only [Act.put, List.setIfInBounds_toArray, List.set_cons_zero, List.set_cons_succ]
            refine ready_call (i := 17) (by kernel_rfl) (by rw [List.getElem?_toArray]; exact rfl) (by kernel_rfl) (fun K1 hK1 => ?_)
            go_simp
            refine hK1.out _ _ (hS5) (fun hS6 => ?_)
            clear hK1 K1
            try simp only [Act.put, List.setIfInBounds_toArray, List.set_cons_zero, List.set_cons_succ]
            refine ready_call (i := 18) (by kernel_rfl) (by rw [List.getElem?_toArray]; exact rfl) (by kernel_rfl) (fun K1 hK1 => ?_)
            go_simp
            refine hK1.out _ _ (hS6) (fun hS7 => ?_)
            clear hK1 K1
            try simp only [Act.put, List.setIfInBounds_toArray, List.set_cons_zero, List.set_cons_succ]
            have HB6 := Lib.hid hb6
            have HC6 := Lib.hid hcs5
            have hS8 := HL.out _ hb6
            clear hb5 hb6 hcs5
            refine ready_call (i := 19) (by kernel_rfl) (by rw [List.getElem?_toArray]; exact rfl) (by kernel_rfl) (fun K1 hK1 => ?_)
            go_simp
            refine hK1.out _ _ (hS8) (fun hS9 => ?_)
            clear hK1 K1
            try simp only [Act.put, List.setIfInBounds_toArray, List.set_cons_zero, List.set_cons_succ]
            refine wpAnyH_done (by kernel_rfl) ?_ _
            refine NoPanic.normal ?_
            clear hS0 hS5 hS6 hS7 hS8 hS9 hc5 hf5 hc3 hc4 hc6
            go_wp2_with fail
            go_roundw
            case rel => exact ⟨i + 1, by omega, by go_num, HZ2, HB6, Lib.hid (.inr ⟨k, 0 + 1, vs, _, mark, by have := HIM.out; omega, by omega, by have := HMM.out; omega, HC6.out⟩)⟩
            case measure => simp [intOf]; omega
        · have hmz : ¬ ((i % 25 : Nat) : Int) = 0 := by omega
          obtain ⟨vs, u, mark, hcs⟩ := HC.out.part hm0
          obtain ⟨go, capo, rfl⟩ := ownsRow_succ hcs.row
          go_wp2_with fail
          refine (HCALL.out _).mono ?_
          rintro e w3 ⟨rfl, hb2⟩
          have HB3 := Lib.hid (HB.out.trans (hb2.mono HB.out.size))
          have HS3 := Lib.hid (hcs.past hb2)
          have HIM : Hid (i = 25 * (i / 25) + i % 25) := Lib.hid (by omega)
          have HMM : Hid (i % 25 < 25) := Lib.hid (by omega)
          have hk25 : i / 25 ≤ 1000000 := by omega
          clear hb2 hcs HC HB HCALL d0 d1 d2 d3 d4 d5 hm0
          go_wp2_with fail
          clear hmz hmod
          generalize i / 25 = k at *
          generalize i % 25 = m at *
          have hkw : IntKind.i64.wrap (k : Int) = (k : Int) := by rw [IntKind.wrap_i64]; omega
          have hkl : (k : Int) < (k : Int) + 1 := by omega
          have hc3 : w3.drew.cell? ⟨go, k * 2 + 1, none⟩ = some u := by
            have h1 := HS3.out.row.drew.cellAt (k * 2 + 1) (by omega)
            have h2 := (datCs_at c (vs ++ [u]) k (by simp [HS3.out.len])).2
            rw [h1, show k * 2 + 1 = 2 * k + 1 by omega, h2]
            simp [← HS3.out.len]
          have hdr := HB3.out.trans ((below_drew w3).mono HB3.out.size)
          have hal : Below w3.drew.heap.size w3.drew (w3.drew.alloc (.cells #[.int .i64 f, .int .i64 t, .int .u32 a, .int .u32 mk, .int .u32 nx, .int .u32 z] 55)) := (Below.refl _ _).alloc (Nat.le_refl _) _
          have HSA := Lib.hid ((HS3.out.past (below_drew w3)).past hal)
          have HBA := Lib.hid (hdr.trans (hal.mono hdr.size))
          have hc4 : (w3.drew.alloc (.cells #[.int .i64 f, .int .i64 t, .int .u32 a, .int .u32 mk, .int .u32 nx, .int .u32 z] 55)).cell? ⟨go, k * 2 + 1, none⟩ = some u := (hal.cell (p := ⟨go, k * 2 + 1, none⟩) (World.block_lt_of_cell? _ _ hc3)).trans hc3
          have hc6 : (w3.alloc (.cells #[.int .i64 f, .int .i64 t, .int .u32 a, .int .u32 mk, .int .u32 nx, .int .u32 z] 55)).cell? ⟨go, k * 2 + 1, none⟩ = some u := hc4
          refine wp_region_noPanic ?_
          refine wp_region_held_drew (S := fun W => W.cell? ⟨b, o + i * 6, none⟩ = some (.int .i64 f) ∧ W.cell? ⟨b, o + i * 6 + 1, none⟩ = some (.int .i64 t) ∧ W.cell? ⟨b, o + i * 6 + 2, none⟩ = some (.int .u32 a) ∧ W.cell? ⟨b, o + i * 6 + 3, none⟩ = some (.int .u32 mk) ∧ W.cell? ⟨b, o + i * 6 + 4, none⟩ = some (.int .u32 nx) ∧ W.cell? ⟨b, o + i * 6 + 5, none⟩ = some (.int .u32 z)) (by kernel_rfl) (HL.out _ hdr) ?_
          intro hS0
          refine wpAnyH_take (i := 0) (v := ?v15) (by rw [List.getElem?_toArray]; exact rfl) (by kernel_rfl) (by kernel_rfl) (by kernel_rfl) (fun _ _ _ h => h) (Or.inl ⟨by rfl, ?hy15⟩) (by assumption) ?rest15
          case hy15 => intro w hSw; (try dsimp only at hSw); go_simp; (try with_reducible rfl)
          try simp only [Act.put, List.setIfInBounds_toArray, List.set_cons_zero, List.set_cons_succ]
          refine wpAnyH_take (i := 1) (v := ?v16) (by rw [List.getElem?_toArray]; exact rfl) (by kernel_rfl) (by kernel_rfl) (by kernel_rfl) (fun _ _ _ h => h) (Or.inl ⟨by rfl, ?hy16⟩) (by assumption) ?rest16
          case hy16 => intro w hSw; (try dsimp only at hSw); go_simp; (try with_reducible rfl)
          try simp only [Act.put, List.setIfInBounds_toArray, List.set_cons_zero, List.set_cons_succ]
          refine wpAnyH_take (i := 2) (v := ?v17) (by rw [List.getElem?_toArray]; exact rfl) (by kernel_rfl) (by kernel_rfl) (by kernel_rfl) (fun _ _ _ h => h) (Or.inl ⟨by rfl, ?hy17⟩) (by assumption) ?rest17
          case hy17 => intro w hSw; (try dsimp only at hSw); go_simp; (try with_reducible rfl)
          try simp only [Act.put, List.setIfInBounds_toArray, List.set_cons_zero, List.set_cons_succ]
          refine wpAnyH_take (i := 3) (v := ?v18) (by rw [List.getElem?_toArray]; exact rfl) (by kernel_rfl) (by kernel_rfl) (by kernel_rfl) (fun _ _ _ h => h) (Or.inl ⟨by rfl, ?hy18⟩) (by assumption) ?rest18
          case hy18 => intro w hSw; (try dsimp only at hSw); go_simp; (try with_reducible rfl)
          try simp only [Act.put, List.setIfInBounds_toArray, List.set_cons_zero, List.set_cons_succ]
          refine wpAnyH_take (i := 4) (v := ?v19) (by rw [List.getElem?_toArray]; exact rfl) (by kernel_rfl) (by kernel_rfl) (by kernel_rfl) (fun _ _ _ h => h) (Or.inl ⟨by rfl, ?hy19⟩) (by assumption) ?rest19
          case hy19 => intro w hSw; (try dsimp only at hSw); go_simp; (try with_reducible rfl)
          try simp only [Act.put, List.setIfInBounds_toArray, List.set_cons_zero, List.set_cons_succ]
          refine wpAnyH_take (i := 5) (v := ?v20) (by rw [List.getElem?_toArray]; exact rfl) (by kernel_rfl) (by kernel_rfl) (by kernel_rfl) (fun _ _ _ h => h) (Or.inl ⟨by rfl, ?hy20⟩) (by assumption) ?rest20
          case hy20 => intro w hSw; (try dsimp only at hSw); go_simp; (try with_reducible rfl)
          try simp only [Act.put, List.setIfInBounds_toArray, List.set_cons_zero, List.set_cons_succ]
          refine wpAnyH_take (i := 6) (v := ?v21) (by rw [List.getElem?_toArray]; exact rfl) (by kernel_rfl) (by kernel_rfl) (by kernel_rfl) (fun _ _ _ h => h) (Or.inl ⟨by rfl, ?hy21⟩) (by assumption) ?rest21
          case hy21 => intro w hSw; (try dsimp only at hSw); go_simp; (try with_reducible rfl)
          try simp only [Act.put, List.setIfInBounds_toArray, List.set_cons_zero, List.set_cons_succ]
          refine wpAnyH_take (i := 7) (v := ?v22) (by rw [List.getElem?_toArray]; exact rfl) (by kernel_rfl) (by kernel_rfl) (by kernel_rfl) (fun _ _ _ h => h) (Or.inl ⟨by rfl, ?hy22⟩) (by assumption) ?rest22
          case hy22 => intro w hSw; (try dsimp only at hSw); go_simp; (try with_reducible rfl)
          try simp only [Act.put, List.setIfInBounds_toArray, List.set_cons_zero, List.set_cons_succ]
          refine wpAnyH_take (i := 8) (v := ?v23) (by rw [List.getElem?_toArray]; exact rfl) (by kernel_rfl) (by kernel_rfl) (by kernel_rfl) (fun _ _ _ h => h) (Or.inl ⟨by rfl, ?hy23⟩) (by assumption) ?rest23
          case hy23 => intro w hSw; (try dsimp only at hSw); go_simp; (try with_reducible rfl)
          try simp only [Act.put, List.setIfInBounds_toArray, List.set_cons_zero, List.set_cons_succ]
          refine wpAnyH_take (i := 9) (v := ?v24) (by rw [List.getElem?_toArray]; exact rfl) (by kernel_rfl) (by kernel_rfl) (by kernel_rfl) (fun _ _ _ h => h) (Or.inl ⟨by rfl, ?hy24⟩) (by assumption) ?rest24
          case hy24 => intro w hSw; (try dsimp only at hSw); go_simp; (try with_reducible rfl)
          try simp only [Act.put, List.setIfInBounds_toArray, List.set_cons_zero, List.set_cons_succ]
          refine wpAnyH_take (i := 11) (v := ?v25) (by rw [List.getElem?_toArray]; exact rfl) (by kernel_rfl) (by kernel_rfl) (by kernel_rfl) (fun _ _ _ h => h) (Or.inl ⟨by rfl, ?hy25⟩) (by assumption) ?rest25
          case hy25 => intro w hSw; (try dsimp only at hSw); go_simp; (try with_reducible rfl)
          try simp only [Act.put, List.setIfInBounds_toArray, List.set_cons_zero, List.set_cons_succ]
          refine wpAnyH_take (i := 12) (v := ?v26) (by rw [List.getElem?_toArray]; exact rfl) (by kernel_rfl) (by kernel_rfl) (by kernel_rfl) (fun _ _ _ h => h) (Or.inl ⟨by rfl, ?hy26⟩) (by assumption) ?rest26
          case hy26 => intro w hSw; (try dsimp only at hSw); go_simp; (try with_reducible rfl)
          try simp only [Act.put, List.setIfInBounds_toArray, List.set_cons_zero, List.set_cons_succ]
          refine wpAnyH_take (i := 13) (v := ?v27) (by rw [List.getElem?_toArray]; exact rfl) (by kernel_rfl) (by kernel_rfl) (by kernel_rfl) (fun _ _ _ h => h) (Or.inl ⟨by rfl, ?hy27⟩) (by assumption) ?rest27
          case hy27 => intro w hSw; (try dsimp only at hSw); go_simp; (try with_reducible rfl)
          try simp only [Act.put, List.setIfInBounds_toArray, List.set_cons_zero, List.set_cons_succ]
          refine wpAnyH_take (i := 14) (v := ?v28) (by rw [List.getElem?_toArray]; exact rfl) (by kernel_rfl) (by kernel_rfl) (by kernel_rfl) (fun _ _ _ h => h) (Or.inl ⟨by rfl, ?hy28⟩) (by assumption) ?rest28
          case hy28 => intro w hSw; (try dsimp only at hSw); go_simp; (try with_reducible rfl)
          try simp only [Act.put, List.setIfInBounds_toArray, List.set_cons_zero, List.set_cons_succ]
          refine ready_two (i := 10) (j := 15) (by kernel_rfl) (by rw [List.getElem?_toArray]; exact rfl) (by rw [List.getElem?_toArray]; exact rfl) (by kernel_rfl) (by kernel_rfl) (fun K1 hK1 => ?_) (fun K1 hK1 => ?_)
          · go_simp
            refine hK1.out _ _ (hS0) (fun hS1 => ?_)
            clear hK1 K1
            try simp only [Act.put, List.setIfInBounds_toArray, List.set_cons_zero, List.set_cons_succ]
            refine ready_call (i := 15) (by kernel_rfl) (by rw [List.getElem?_toArray]; exact rfl) (by kernel_rfl) (fun K1 hK1 => ?_)
            go_simp
            refine hK1.out _ _ (HL.out _ HBA.out) (fun hS2 => ?_)
            clear hK1 K1
            try simp only [Act.put, List.setIfInBounds_toArray, List.set_cons_zero, List.set_cons_succ]
            refine ready_call (i := 16) (by kernel_rfl) (by rw [List.getElem?_toArray]; exact rfl) (by kernel_rfl) (fun K1 hK1 => ?_)
            refine wp_append_own _ (.tmp 41) (.tmp 46) 23 (by rfl) mark 55 j0 (.agg #[.int .i64 0, .int .i64 0, .int .u32 0, .int .u32 0, .int .u32 0, .int .u32 0]) 6 32 Tryd.underlying23 HJ.out.1 HJ.out.2.1 HJ.out.2.2.1 HJ.out.2.2.2 rfl (by decide) u m (entCs ((l.drop (25 * k)).take m)) (by rfl) HSA.out.cur ⟨w3.drew.heap.size, 0, none⟩ 1 1 [.int .i64 f, .int .i64 t, .int .u32 a, .int .u32 mk, .int .u32 nx, .int .u32 z] (by rfl) rfl ?c1 ?c2 ?c3 ?c4 ?c5 ?_
            case c1 =>
              intro q u hq
              match q, hq with
              | 0, hq => simp at hq; subst hq; simp [Addr.add]
              | 1, hq => simp at hq; subst hq; simp [Addr.add]
              | 2, hq => simp at hq; subst hq; simp [Addr.add]
              | 3, hq => simp at hq; subst hq; simp [Addr.add]
              | 4, hq => simp at hq; subst hq; simp [Addr.add]
              | 5, hq => simp at hq; subst hq; simp [Addr.add]
              | q + 6, hq => simp at hq
            case c2 =>
              intro u hu
              simp at hu
              rcases hu with rfl | rfl | rfl | rfl | rfl | rfl <;> rfl
            case c3 => have := HMM.out; unfold maxLen; omega
            case c4 => have := HMM.out; omega
            case c5 => exact HSA.out.hi
            intro v2 w5 hown hgrow _
            obtain ⟨hcs5, hc5, hf5⟩ := HSA.out.push (x := ⟨f, t, a, mk, nx, z⟩) (by rw [← HIM.out]; exact HGI.out) hown hgrow
            have hb5 : Below w.heap.size w w5 := HBA.out.grown hgrow HBA.out.size (fun r e => Nat.le_trans HSA.out.lo (HSA.out.cur.lt r e).1)
            have hb6 : Below w.heap.size w (w5.setCell ⟨go, k * 2 + 1, none⟩ v2) := hb5.setCell (HSA.out.row.lt go rfl).1 v2
            obtain ⟨gv, capv, rfl⟩ := ownsRow_succ hown
            refine hK1.out _ _ (HL.out _ hb5) (fun hS5 => ?_)
            clear hK1 K1 hown hgrow
            try simp only [Act.put, List.setIfInBounds_toArray, List.set_cons_zero, List.set_cons_succ]
            refine ready_call (i := 17) (by kernel_rfl) (by rw [List.getElem?_toArray]; exact rfl) (by kernel_rfl) (fun K1 hK1 => ?_)
            go_simp
            refine hK1.out _ _ (hS5) (fun hS6 => ?_)
            clear hK1 K1
            try simp only [Act.put, List.setIfInBounds_toArray, List.set_cons_zero, List.set_cons_succ]
            refine ready_call (i := 18) (by kernel_rfl) (by rw [List.getElem?_toArray]; exact rfl) (by kernel_rfl) (fun K1 hK1 => ?_)
            go_simp
            refine hK1.out _ _ (hS6) (fun hS7 => ?_)
            clear hK1 K1
            try simp only [Act.put, List.setIfInBounds_toArray, List.set_cons_zero, List.set_cons_succ]
            have HB6 := Lib.hid hb6
            have HC6 := Lib.hid hcs5
            have hS8 := HL.out _ hb6
            clear hb5 hb6 hcs5
            refine ready_call (i := 19) (by kernel_rfl) (by rw [List.getElem?_toArray]; exact rfl) (by kernel_rfl) (fun K1 hK1 => ?_)
            go_simp
            refine hK1.out _ _ (hS8) (fun hS9 => ?_)
            clear hK1 K1
            try simp only [Act.put, List.setIfInBounds_toArray, List.set_cons_zero, List.set_cons_succ]
            refine wpAnyH_done (by kernel_rfl) ?_ _
            refine NoPanic.normal ?_
            clear hS0 hS5 hS6 hS7 hS8 hS9 hc5 hf5 hc3 hc4 hc6
            go_wp2_with fail
            go_roundw
            case rel => exact ⟨i + 1, by omega, by go_num, HZ2, HB6, Lib.hid (.inr ⟨k, m + 1, vs, _, mark, by have := HIM.out; omega, by omega, by have := HMM.out; omega, HC6.out⟩)⟩
            case measure => simp [intOf]; omega
          · go_simp
            refine hK1.out _ _ (HL.out _ HBA.out) (fun hS1 => ?_)
            clear hK1 K1
            try simp only [Act.put, List.setIfInBounds_toArray, List.set_cons_zero, List.set_cons_succ]
            refine ready_call (i := 10) (by kernel_rfl) (by rw [List.getElem?_toArray]; exact rfl) (by kernel_rfl) (fun K1 hK1 => ?_)
            go_simp
            refine hK1.out _ _ (hS1) (fun hS2 => ?_)
            clear hK1 K1
            try simp only [Act.put, List.setIfInBounds_toArray, List.set_cons_zero, List.set_cons_succ]
            refine ready_call (i := 16) (by kernel_rfl) (by rw [List.getElem?_toArray]; exact rfl) (by kernel_rfl) (fun K1 hK1 => ?_)
            refine wp_append_own _ (.tmp 41) (.tmp 46) 23 (by rfl) mark 55 j0 (.agg #[.int .i64 0, .int .i64 0, .int .u32 0, .int .u32 0, .int .u32 0, .int .u32 0]) 6 32 Tryd.underlying23 HJ.out.1 HJ.out.2.1 HJ.out.2.2.1 HJ.out.2.2.2 rfl (by decide) u m (entCs ((l.drop (25 * k)).take m)) (by rfl) HSA.out.cur ⟨w3.drew.heap.size, 0, none⟩ 1 1 [.int .i64 f, .int .i64 t, .int .u32 a, .int .u32 mk, .int .u32 nx, .int .u32 z] (by rfl) rfl ?c1 ?c2 ?c3 ?c4 ?c5 ?_
            case c1 =>
              intro q u hq
              match q, hq with
              | 0, hq => simp at hq; subst hq; simp [Addr.add]
              | 1, hq => simp at hq; subst hq; simp [Addr.add]
              | 2, hq => simp at hq; subst hq; simp [Addr.add]
              | 3, hq => simp at hq; subst hq; simp [Addr.add]
              | 4, hq => simp at hq; subst hq; simp [Addr.add]
              | 5, hq => simp at hq; subst hq; simp [Addr.add]
              | q + 6, hq => simp at hq
            case c2 =>
              intro u hu
              simp at hu
              rcases hu with rfl | rfl | rfl | rfl | rfl | rfl <;> rfl
            case c3 => have := HMM.out; unfold maxLen; omega
            case c4 => have := HMM.out; omega
            case c5 => exact HSA.out.hi
            intro v2 w5 hown hgrow _
            obtain ⟨hcs5, hc5, hf5⟩ := HSA.out.push (x := ⟨f, t, a, mk, nx, z⟩) (by rw [← HIM.out]; exact HGI.out) hown hgrow
            have hb5 : Below w.heap.size w w5 := HBA.out.grown hgrow HBA.out.size (fun r e => Nat.le_trans HSA.out.lo (HSA.out.cur.lt r e).1)
            have hb6 : Below w.heap.size w (w5.setCell ⟨go, k * 2 + 1, none⟩ v2) := hb5.setCell (HSA.out.row.lt go rfl).1 v2
            obtain ⟨gv, capv, rfl⟩ := ownsRow_succ hown
            refine hK1.out _ _ (HL.out _ hb5) (fun hS5 => ?_)
            clear hK1 K1 hown hgrow
            try simp only [Act.put, List.setIfInBounds_toArray, List.set_cons_zero, List.set_cons_succ]
            refine ready_call (i := 17) (by kernel_rfl) (by rw [List.getElem?_toArray]; exact rfl) (by kernel_rfl) (fun K1 hK1 => ?_)
            go_simp
            refine hK1.out _ _ (hS5) (fun hS6 => ?_)
            clear hK1 K1
            try simp only [Act.put, List.setIfInBounds_toArray, List.set_cons_zero, List.set_cons_succ]
            refine ready_call (i := 18) (by kernel_rfl) (by rw [List.getElem?_toArray]; exact rfl) (by kernel_rfl) (fun K1 hK1 => ?_)
            go_simp
            refine hK1.out _ _ (hS6) (fun hS7 => ?_)
            clear hK1 K1
            try simp only [Act.put, List.setIfInBounds_toArray, List.set_cons_zero, List.set_cons_succ]
            have HB6 := Lib.hid hb6
            have HC6 := Lib.hid hcs5
            have hS8 := HL.out _ hb6
            clear hb5 hb6 hcs5
            refine ready_call (i := 19) (by kernel_rfl) (by rw [List.getElem?_toArray]; exact rfl) (by kernel_rfl) (fun K1 hK1 => ?_)
            go_simp
            refine hK1.out _ _ (hS8) (fun hS9 => ?_)
            clear hK1 K1
            try simp only [Act.put, List.setIfInBounds_toArray, List.set_cons_zero, List.set_cons_succ]
            refine wpAnyH_done (by kernel_rfl) ?_ _
            refine NoPanic.normal ?_
            clear hS0 hS5 hS6 hS7 hS8 hS9 hc5 hf5 hc3 hc4 hc6
            go_wp2_with fail
            go_roundw
            case rel => exact ⟨i + 1, by omega, by go_num, HZ2, HB6, Lib.hid (.inr ⟨k, m + 1, vs, _, mark, by have := HIM.out; omega, by omega, by have := HMM.out; omega, HC6.out⟩)⟩
            case measure => simp [intOf]; omega
      · have hcall : ∀ W : World, Calls Tryd.prog 28 #[entV (l[i]'hlt)] W fun e w' => e = .returned (.bool false) ∧ Below W.heap.size W w' := fun W => (refRight4_any (l[i]'hlt) W).mono (by rintro e w' ⟨rfl, h⟩; exact ⟨by simp [hre], h⟩)
        have hno : ¬ rightL l := fun h => hre (h _ (List.getElem_mem hlt))
        have h2 : mayNo c 1 l = 2 := HE.out.trans (if_neg hno)
        have H2 := Lib.hid h2
        clear hre hno hgi h2
        generalize (l[i]'hlt) = x at *
        obtain ⟨f, t, a, mk, nx, z⟩ := x
        have HCALL := Lib.hid hcall
        clear hcall
        go_wp2_with fail
        refine (HCALL.out _).mono ?_
        rintro e w2 ⟨rfl, hb2⟩
        have HB2 := Lib.hid (HB.out.trans (hb2.mono HB.out.size))
        clear hb2 HCALL d0 d1 d2 d3 d4 d5
        go_wp2_with fail
        refine ⟨rfl, .tuple #[.slice none 0 0, .int .i64 2], ?_, ⟨.slice none 0 0, [], by rw [H2.out], ?_⟩, HB2.out⟩
        · simp [results, Tryd.f19, go_sem]
        · unfold cutL
          rw [if_neg (by rw [H2.out]; decide)]
          exact ⟨rfl, World.ownsRow_nil _ _ _ _, fun i h => absurd h (by simp)⟩
    · have jz : ¬ (i : Int) < (l.length : Int) := by omega
      obtain rfl : i = l.length := by omega
      have hrr : rightL l := fun x hx => by
        obtain ⟨q, hq, rfl⟩ := List.getElem_of_mem hx
        exact HZ.out q hq hq
      have h0 : mayNo c 1 l = 0 := HE.out.trans (if_pos hrr)
      obtain ⟨vs, hd⟩ := HC.out.all
      have HD := Lib.hid hd
      have H0 := Lib.hid h0
      clear hd h0 hrr HC HZ
      go_wp2_with fail
      refine ⟨rfl, .tuple #[u6, .int .i64 0], ?_, ⟨u6, vs, by rw [H0.out], by unfold cutL; rw [if_pos H0.out]; exact HD.out⟩, HB.out⟩
      simp [results, Tryd.f19, go_sem]

set_option maxRecDepth 100000 in
theorem refCut5_any (c : Int) (A : Option Addr) (ca : Nat) (l : List Ent) (hn : l.length ≤ 1000000) (w : World) (hA : EntS w A l) :
    Calls Tryd.prog 19 #[.int .i64 c, .slice A l.length ca] w fun e w' => CutY w c l e w' ∧ Below w.heap.size w w' := by
  by_cases hcm : comD c
  · exact refCut5_yes c hcm A ca l hn w hA
  · have H2 := Lib.hid (show mayNo c 1 l = 2 by unfold mayNo; rw [if_pos hcm])
    have HCM : Hid (∀ W, Calls Tryd.prog 27 #[.int .i64 c] W fun e w' => e = .returned (.bool false) ∧ Below W.heap.size W w') := Lib.hid (fun W => by
      have := refCom5_any c W
      rwa [decide_eq_false hcm] at this)
    clear hA hcm
    go_enter Tryd.func19, Tryd.ntmps19
    go_wp2_with fail
    refine (HCM.out _).mono ?_
    rintro e w1 ⟨rfl, hb⟩
    have HB0 := Lib.hid hb
    clear hb HCM
    go_wp2_with fail
    refine ⟨rfl, .tuple #[.slice none 0 0, .int .i64 2], ?_, ⟨.slice none 0 0, [], by rw [H2.out], ?_⟩, HB0.out⟩
    · simp [results, Tryd.f19, go_sem]
    · unfold cutL
      rw [if_neg (by rw [H2.out]; decide)]
      exact ⟨rfl, World.ownsRow_nil _ _ _ _, fun i h => absurd h (by simp)⟩
end Go.Proofs.YtehhablobfaplaaDoor
