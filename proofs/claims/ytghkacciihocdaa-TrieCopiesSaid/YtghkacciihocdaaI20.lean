/- Layer 6's program: fold, by count and by depth; Nodes, Depth. -/
import Derived.Test.YtghkacciihocdaaI19
namespace Go.Proofs.Ytghkacciihocdaa
open Go Go.RowKit Go.Shelf Go.Sort
attribute [local go_sem] Oper.semAt_some
attribute [local irreducible] wpQuiet
namespace T6

set_option maxRecDepth 100000 in
set_option maxHeartbeats 3200000 in
theorem foldCount_any (bo ba : Nat) (t : Tr) (hk : t.keys.length ≤ 2000) : ∀ w, Lies w t → w.cell? ⟨bo, 0, none⟩ = some (.func (.func 55) #[] #[]) → w.cell? ⟨ba, 0, none⟩ = some (.func (.func 74) #[] #[.pointer (some ⟨bo, 0, none⟩), .pointer (some ⟨ba, 0, none⟩)]) →
    Calls Try.prog 74 #[.pointer (ptr t), .pointer (some ⟨bo, 0, none⟩), .pointer (some ⟨ba, 0, none⟩)] w fun e w' => e = .returned (.int .i64 (t.keys.length : Int)) ∧ Below w.heap.size w w' := by
  induction t with
  | nil =>
    intro w _ _ _
    simp only [ptr]
    go_enter Try.func74, Try.ntmps74
    go_wp2_with fail
    go_ret
    exact ⟨rfl, Below.refl _ _⟩
  | node b k h v l r ihl ihr =>
    intro w hl ho ha
    have hkl : l.keys.length ≤ 2000 := by simp only [Tr.keys, List.length_cons, List.length_append] at hk; omega
    have hkr : r.keys.length ≤ 2000 := by simp only [Tr.keys, List.length_cons, List.length_append] at hk; omega
    have hks : l.keys.length + r.keys.length ≤ 2000 := by simp only [Tr.keys, List.length_cons, List.length_append] at hk; omega
    have HS : Hid (∀ w', Below w.heap.size w w' → w'.cell? ⟨b, 0, none⟩ = some (.int .u32 (kx k)) ∧ w'.cell? ⟨b, 1, none⟩ = some (.int .i64 (kn k)) ∧ w'.cell? ⟨b, 2, none⟩ = some (.bool h) ∧ w'.cell? ⟨b, 3, none⟩ = some (.int .i64 v) ∧ w'.cell? ⟨b, 4, none⟩ = some (.pointer (ptr l)) ∧ w'.cell? ⟨b, 5, none⟩ = some (.pointer (ptr r)) ∧
        w'.cell? ⟨bo, 0, none⟩ = some (.func (.func 55) #[] #[]) ∧ w'.cell? ⟨ba, 0, none⟩ = some (.func (.func 74) #[] #[.pointer (some ⟨bo, 0, none⟩), .pointer (some ⟨ba, 0, none⟩)])) := Lib.hid (fun w' hb => by
      obtain ⟨c0, c1, c2, c3, c4, c5⟩ := cellN (hl.1.below hb hl.1.lt)
      exact ⟨c0, c1, c2, c3, c4, c5, (hb.cell (p := ⟨bo, 0, none⟩) (World.block_lt_of_cell? _ _ ho)).trans ho, (hb.cell (p := ⟨ba, 0, none⟩) (World.block_lt_of_cell? _ _ ha)).trans ha⟩)
    have HL := Lib.hid (fun (W : World) (hW : Below w.heap.size w W) => ihl hkl W (hl.2.1.keep fun c hc => hW.block c (hl.2.1.lt c hc)) (HS.out W hW).2.2.2.2.2.2.1 (HS.out W hW).2.2.2.2.2.2.2)
    have HR := Lib.hid (fun (W : World) (hW : Below w.heap.size w W) => ihr hkr W (hl.2.2.keep fun c hc => hW.block c (hl.2.2.lt c hc)) (HS.out W hW).2.2.2.2.2.2.1 (HS.out W hW).2.2.2.2.2.2.2)
    have hlt := hl.1.lt
    clear ihl ihr hl ho ha
    simp only [ptr]
    go_enter Try.func74, Try.ntmps74
    go_wp2_with fail
    have hs0 : Below w.heap.size w w.drew := below_drew w
    refine wp_region_noPanic ?_
    refine wp_region_held_drew (S := fun W => Below w.heap.size w W) (by kernel_rfl) hs0 ?_
    intro _
    generalize w.drew = w0 at *
    refine wpAnyH_take (i := 0) (v := ?v1) (by rw [List.getElem?_toArray]; exact rfl) (by kernel_rfl) (by kernel_rfl) (by kernel_rfl) (fun _ _ _ h => h) (Or.inl ⟨by rfl, ?hy1⟩) (by assumption) ?rest1
    case hy1 => intro w hSw; (try dsimp only at hSw); obtain ⟨k0, k1, k2, k3, k4, k5, k6, k7⟩ := HS.out w hSw; go_simp; (try with_reducible rfl)
    try simp only [Act.put, List.setIfInBounds_toArray, List.set_cons_zero, List.set_cons_succ]
    refine wpAnyH_take (i := 1) (v := ?v2) (by rw [List.getElem?_toArray]; exact rfl) (by kernel_rfl) (by kernel_rfl) (by kernel_rfl) (fun _ _ _ h => h) (Or.inl ⟨by rfl, ?hy2⟩) (by assumption) ?rest2
    case hy2 => intro w hSw; (try dsimp only at hSw); obtain ⟨k0, k1, k2, k3, k4, k5, k6, k7⟩ := HS.out w hSw; go_simp; (try with_reducible rfl)
    try simp only [Act.put, List.setIfInBounds_toArray, List.set_cons_zero, List.set_cons_succ]
    refine wpAnyH_take (i := 2) (v := ?v3) (by rw [List.getElem?_toArray]; exact rfl) (by kernel_rfl) (by kernel_rfl) (by kernel_rfl) (fun _ _ _ h => h) (Or.inl ⟨by rfl, ?hy3⟩) (by assumption) ?rest3
    case hy3 => intro w hSw; (try dsimp only at hSw); obtain ⟨k0, k1, k2, k3, k4, k5, k6, k7⟩ := HS.out w hSw; go_simp; (try with_reducible rfl)
    try simp only [Act.put, List.setIfInBounds_toArray, List.set_cons_zero, List.set_cons_succ]
    refine wpAnyH_take (i := 3) (v := ?v4) (by rw [List.getElem?_toArray]; exact rfl) (by kernel_rfl) (by kernel_rfl) (by kernel_rfl) (fun _ _ _ h => h) (Or.inl ⟨by rfl, ?hy4⟩) (by assumption) ?rest4
    case hy4 => intro w hSw; (try dsimp only at hSw); obtain ⟨k0, k1, k2, k3, k4, k5, k6, k7⟩ := HS.out w hSw; go_simp; (try with_reducible rfl)
    try simp only [Act.put, List.setIfInBounds_toArray, List.set_cons_zero, List.set_cons_succ]
    refine wpAnyH_take (i := 4) (v := ?v5) (by rw [List.getElem?_toArray]; exact rfl) (by kernel_rfl) (by kernel_rfl) (by kernel_rfl) (fun _ _ _ h => h) (Or.inl ⟨by rfl, ?hy5⟩) (by assumption) ?rest5
    case hy5 => intro w hSw; (try dsimp only at hSw); obtain ⟨k0, k1, k2, k3, k4, k5, k6, k7⟩ := HS.out w hSw; go_simp; (try with_reducible rfl)
    try simp only [Act.put, List.setIfInBounds_toArray, List.set_cons_zero, List.set_cons_succ]
    refine wpAnyH_take (i := 5) (v := ?v6) (by rw [List.getElem?_toArray]; exact rfl) (by kernel_rfl) (by kernel_rfl) (by kernel_rfl) (fun _ _ _ h => h) (Or.inl ⟨by rfl, ?hy6⟩) (by assumption) ?rest6
    case hy6 => intro w hSw; (try dsimp only at hSw); obtain ⟨k0, k1, k2, k3, k4, k5, k6, k7⟩ := HS.out w hSw; go_simp; (try with_reducible rfl)
    try simp only [Act.put, List.setIfInBounds_toArray, List.set_cons_zero, List.set_cons_succ]
    refine wpAnyH_take (i := 6) (v := ?v7) (by rw [List.getElem?_toArray]; exact rfl) (by kernel_rfl) (by kernel_rfl) (by kernel_rfl) (fun _ _ _ h => h) (Or.inl ⟨by rfl, ?hy7⟩) (by assumption) ?rest7
    case hy7 => intro w hSw; (try dsimp only at hSw); obtain ⟨k0, k1, k2, k3, k4, k5, k6, k7⟩ := HS.out w hSw; go_simp; (try with_reducible rfl)
    try simp only [Act.put, List.setIfInBounds_toArray, List.set_cons_zero, List.set_cons_succ]
    refine wpAnyH_take (i := 7) (v := ?v8) (by rw [List.getElem?_toArray]; exact rfl) (by kernel_rfl) (by kernel_rfl) (by kernel_rfl) (fun _ _ _ h => h) (Or.inl ⟨by rfl, ?hy8⟩) (by assumption) ?rest8
    case hy8 => intro w hSw; (try dsimp only at hSw); obtain ⟨k0, k1, k2, k3, k4, k5, k6, k7⟩ := HS.out w hSw; go_simp; (try with_reducible rfl)
    try simp only [Act.put, List.setIfInBounds_toArray, List.set_cons_zero, List.set_cons_succ]
    refine wpAnyH_take (i := 8) (v := ?v9) (by rw [List.getElem?_toArray]; exact rfl) (by kernel_rfl) (by kernel_rfl) (by kernel_rfl) (fun _ _ _ h => h) (Or.inl ⟨by rfl, ?hy9⟩) (by assumption) ?rest9
    case hy9 => intro w hSw; (try dsimp only at hSw); obtain ⟨k0, k1, k2, k3, k4, k5, k6, k7⟩ := HS.out w hSw; go_simp; (try with_reducible rfl)
    try simp only [Act.put, List.setIfInBounds_toArray, List.set_cons_zero, List.set_cons_succ]
    refine wpAnyH_take (i := 9) (v := ?v10) (by rw [List.getElem?_toArray]; exact rfl) (by kernel_rfl) (by kernel_rfl) (by kernel_rfl) (fun _ _ _ h => h) (Or.inl ⟨by rfl, ?hy10⟩) (by assumption) ?rest10
    case hy10 => intro w hSw; (try dsimp only at hSw); obtain ⟨k0, k1, k2, k3, k4, k5, k6, k7⟩ := HS.out w hSw; go_simp; (try with_reducible rfl)
    try simp only [Act.put, List.setIfInBounds_toArray, List.set_cons_zero, List.set_cons_succ]
    refine wpAnyH_take (i := 11) (v := ?v11) (by rw [List.getElem?_toArray]; exact rfl) (by kernel_rfl) (by kernel_rfl) (by kernel_rfl) (fun _ _ _ h => h) (Or.inl ⟨by rfl, ?hy11⟩) (by assumption) ?rest11
    case hy11 => intro w hSw; (try dsimp only at hSw); obtain ⟨k0, k1, k2, k3, k4, k5, k6, k7⟩ := HS.out w hSw; go_simp; (try with_reducible rfl)
    try simp only [Act.put, List.setIfInBounds_toArray, List.set_cons_zero, List.set_cons_succ]
    refine wpAnyH_take (i := 12) (v := ?v12) (by rw [List.getElem?_toArray]; exact rfl) (by kernel_rfl) (by kernel_rfl) (by kernel_rfl) (fun _ _ _ h => h) (Or.inl ⟨by rfl, ?hy12⟩) (by assumption) ?rest12
    case hy12 => intro w hSw; (try dsimp only at hSw); obtain ⟨k0, k1, k2, k3, k4, k5, k6, k7⟩ := HS.out w hSw; go_simp; (try with_reducible rfl)
    try simp only [Act.put, List.setIfInBounds_toArray, List.set_cons_zero, List.set_cons_succ]
    refine wpAnyH_take (i := 13) (v := ?v13) (by rw [List.getElem?_toArray]; exact rfl) (by kernel_rfl) (by kernel_rfl) (by kernel_rfl) (fun _ _ _ h => h) (Or.inl ⟨by rfl, ?hy13⟩) (by assumption) ?rest13
    case hy13 => intro w hSw; (try dsimp only at hSw); obtain ⟨k0, k1, k2, k3, k4, k5, k6, k7⟩ := HS.out w hSw; go_simp; (try with_reducible rfl)
    try simp only [Act.put, List.setIfInBounds_toArray, List.set_cons_zero, List.set_cons_succ]
    refine wpAnyH_take (i := 14) (v := ?v14) (by rw [List.getElem?_toArray]; exact rfl) (by kernel_rfl) (by kernel_rfl) (by kernel_rfl) (fun _ _ _ h => h) (Or.inl ⟨by rfl, ?hy14⟩) (by assumption) ?rest14
    case hy14 => intro w hSw; (try dsimp only at hSw); obtain ⟨k0, k1, k2, k3, k4, k5, k6, k7⟩ := HS.out w hSw; go_simp; (try with_reducible rfl)
    try simp only [Act.put, List.setIfInBounds_toArray, List.set_cons_zero, List.set_cons_succ]
    refine wpAnyH_take (i := 15) (v := ?v15) (by rw [List.getElem?_toArray]; exact rfl) (by kernel_rfl) (by kernel_rfl) (by kernel_rfl) (fun _ _ _ h => h) (Or.inl ⟨by rfl, ?hy15⟩) (by assumption) ?rest15
    case hy15 => intro w hSw; (try dsimp only at hSw); obtain ⟨k0, k1, k2, k3, k4, k5, k6, k7⟩ := HS.out w hSw; go_simp; (try with_reducible rfl)
    try simp only [Act.put, List.setIfInBounds_toArray, List.set_cons_zero, List.set_cons_succ]
    refine wpAnyH_take (i := 16) (v := ?v16) (by rw [List.getElem?_toArray]; exact rfl) (by kernel_rfl) (by kernel_rfl) (by kernel_rfl) (fun _ _ _ h => h) (Or.inl ⟨by rfl, ?hy16⟩) (by assumption) ?rest16
    case hy16 => intro w hSw; (try dsimp only at hSw); obtain ⟨k0, k1, k2, k3, k4, k5, k6, k7⟩ := HS.out w hSw; go_simp; (try with_reducible rfl)
    try simp only [Act.put, List.setIfInBounds_toArray, List.set_cons_zero, List.set_cons_succ]
    refine ready_call (i := 10) (by kernel_rfl) (by rw [List.getElem?_toArray]; exact rfl) (by kernel_rfl) (fun K1 hK1 => ?_)
    go_simp
    refine (HL.out _ hs0).mono ?_
    rintro e w1 ⟨rfl, hb1⟩
    go_simp
    have hs1 := hs0.trans (hb1.mono hs0.size)
    refine hK1.out _ _ hs1 (fun _ => ?_)
    clear hK1 K1
    try simp only [Act.put, List.setIfInBounds_toArray, List.set_cons_zero, List.set_cons_succ]
    refine ready_call (i := 17) (by kernel_rfl) (by rw [List.getElem?_toArray]; exact rfl) (by kernel_rfl) (fun K1 hK1 => ?_)
    go_simp
    refine (HR.out _ hs1).mono ?_
    rintro e w2 ⟨rfl, hb2⟩
    go_simp
    have hs2 := hs1.trans (hb2.mono hs1.size)
    refine hK1.out _ _ hs2 (fun _ => ?_)
    clear hK1 K1
    try simp only [Act.put, List.setIfInBounds_toArray, List.set_cons_zero, List.set_cons_succ]
    refine ready_call (i := 18) (by kernel_rfl) (by rw [List.getElem?_toArray]; exact rfl) (by kernel_rfl) (fun K1 hK1 => ?_)
    go_simp
    have hbx := Blk.new w2 3 #[.int .i64 (l.keys.length : Int), .int .i64 (r.keys.length : Int)]
    have hs3 := hs2.trans ((box_below w2 (.cells #[.int .i64 (l.keys.length : Int), .int .i64 (r.keys.length : Int)] 3)).mono hs2.size)
    refine hK1.out _ _ hs3 (fun _ => ?_)
    clear hK1 K1
    try simp only [Act.put, List.setIfInBounds_toArray, List.set_cons_zero, List.set_cons_succ]
    generalize hW3 : (w2.alloc (.cells #[.int .i64 (l.keys.length : Int), .int .i64 (r.keys.length : Int)] 3)) = w3 at *
    refine ready_call (i := 19) (by kernel_rfl) (by rw [List.getElem?_toArray]; exact rfl) (by kernel_rfl) (fun K1 hK1 => ?_)
    go_simp
    refine (count_any _ _ _ _ _ _ _ _ _ (by omega) (by omega) (by omega) w3 hbx).mono ?_
    rintro e w4 ⟨rfl, hb4⟩
    go_simp
    have hs4 := hs3.trans (hb4.mono hs3.size)
    refine hK1.out _ _ hs4 (fun _ => ?_)
    clear hK1 K1
    try simp only [Act.put, List.setIfInBounds_toArray, List.set_cons_zero, List.set_cons_succ]
    refine wpAnyH_take (i := 20) (v := ?v17) (by rw [List.getElem?_toArray]; exact rfl) (by kernel_rfl) (by kernel_rfl) (by kernel_rfl) (fun _ _ _ h => h) (Or.inl ⟨by rfl, ?hy17⟩) (by assumption) ?rest17
    case hy17 => intro w hSw; (try dsimp only at hSw); go_simp; (try with_reducible rfl)
    try simp only [Act.put, List.setIfInBounds_toArray, List.set_cons_zero, List.set_cons_succ]
    refine wpAnyH_done (by kernel_rfl) ?_ _
    refine NoPanic.normal ?_
    go_wp2_with fail
    go_ret
    exact ⟨by rw [show ((Tr.node b k h v l r).keys.length : Int) = 1 + (l.keys.length : Int) + (r.keys.length : Int) from by simp only [Tr.keys, List.length_cons, List.length_append]; omega]; rfl, hs4⟩
set_option maxRecDepth 100000 in
set_option maxHeartbeats 3200000 in
theorem foldDepth_any (bo ba : Nat) (t : Tr) (hk : t.keys.length ≤ 2000) : ∀ w, Lies w t → w.cell? ⟨bo, 0, none⟩ = some (.func (.func 56) #[] #[]) → w.cell? ⟨ba, 0, none⟩ = some (.func (.func 74) #[] #[.pointer (some ⟨bo, 0, none⟩), .pointer (some ⟨ba, 0, none⟩)]) →
    Calls Try.prog 74 #[.pointer (ptr t), .pointer (some ⟨bo, 0, none⟩), .pointer (some ⟨ba, 0, none⟩)] w fun e w' => e = .returned (.int .i64 (t.depth : Int)) ∧ Below w.heap.size w w' := by
  induction t with
  | nil =>
    intro w _ _ _
    simp only [ptr]
    go_enter Try.func74, Try.ntmps74
    go_wp2_with fail
    go_ret
    exact ⟨rfl, Below.refl _ _⟩
  | node b k h v l r ihl ihr =>
    intro w hl ho ha
    have hkl : l.keys.length ≤ 2000 := by simp only [Tr.keys, List.length_cons, List.length_append] at hk; omega
    have hkr : r.keys.length ≤ 2000 := by simp only [Tr.keys, List.length_cons, List.length_append] at hk; omega
    have hks : l.keys.length + r.keys.length ≤ 2000 := by simp only [Tr.keys, List.length_cons, List.length_append] at hk; omega
    have HS : Hid (∀ w', Below w.heap.size w w' → w'.cell? ⟨b, 0, none⟩ = some (.int .u32 (kx k)) ∧ w'.cell? ⟨b, 1, none⟩ = some (.int .i64 (kn k)) ∧ w'.cell? ⟨b, 2, none⟩ = some (.bool h) ∧ w'.cell? ⟨b, 3, none⟩ = some (.int .i64 v) ∧ w'.cell? ⟨b, 4, none⟩ = some (.pointer (ptr l)) ∧ w'.cell? ⟨b, 5, none⟩ = some (.pointer (ptr r)) ∧
        w'.cell? ⟨bo, 0, none⟩ = some (.func (.func 56) #[] #[]) ∧ w'.cell? ⟨ba, 0, none⟩ = some (.func (.func 74) #[] #[.pointer (some ⟨bo, 0, none⟩), .pointer (some ⟨ba, 0, none⟩)])) := Lib.hid (fun w' hb => by
      obtain ⟨c0, c1, c2, c3, c4, c5⟩ := cellN (hl.1.below hb hl.1.lt)
      exact ⟨c0, c1, c2, c3, c4, c5, (hb.cell (p := ⟨bo, 0, none⟩) (World.block_lt_of_cell? _ _ ho)).trans ho, (hb.cell (p := ⟨ba, 0, none⟩) (World.block_lt_of_cell? _ _ ha)).trans ha⟩)
    have HL := Lib.hid (fun (W : World) (hW : Below w.heap.size w W) => ihl hkl W (hl.2.1.keep fun c hc => hW.block c (hl.2.1.lt c hc)) (HS.out W hW).2.2.2.2.2.2.1 (HS.out W hW).2.2.2.2.2.2.2)
    have HR := Lib.hid (fun (W : World) (hW : Below w.heap.size w W) => ihr hkr W (hl.2.2.keep fun c hc => hW.block c (hl.2.2.lt c hc)) (HS.out W hW).2.2.2.2.2.2.1 (HS.out W hW).2.2.2.2.2.2.2)
    have hdl := depth_keys l
    have hdr := depth_keys r
    have hlt := hl.1.lt
    clear ihl ihr hl ho ha
    simp only [ptr]
    go_enter Try.func74, Try.ntmps74
    go_wp2_with fail
    have hs0 : Below w.heap.size w w.drew := below_drew w
    refine wp_region_noPanic ?_
    refine wp_region_held_drew (S := fun W => Below w.heap.size w W) (by kernel_rfl) hs0 ?_
    intro _
    generalize w.drew = w0 at *
    refine wpAnyH_take (i := 0) (v := ?v18) (by rw [List.getElem?_toArray]; exact rfl) (by kernel_rfl) (by kernel_rfl) (by kernel_rfl) (fun _ _ _ h => h) (Or.inl ⟨by rfl, ?hy18⟩) (by assumption) ?rest18
    case hy18 => intro w hSw; (try dsimp only at hSw); obtain ⟨k0, k1, k2, k3, k4, k5, k6, k7⟩ := HS.out w hSw; go_simp; (try with_reducible rfl)
    try simp only [Act.put, List.setIfInBounds_toArray, List.set_cons_zero, List.set_cons_succ]
    refine wpAnyH_take (i := 1) (v := ?v19) (by rw [List.getElem?_toArray]; exact rfl) (by kernel_rfl) (by kernel_rfl) (by kernel_rfl) (fun _ _ _ h => h) (Or.inl ⟨by rfl, ?hy19⟩) (by assumption) ?rest19
    case hy19 => intro w hSw; (try dsimp only at hSw); obtain ⟨k0, k1, k2, k3, k4, k5, k6, k7⟩ := HS.out w hSw; go_simp; (try with_reducible rfl)
    try simp only [Act.put, List.setIfInBounds_toArray, List.set_cons_zero, List.set_cons_succ]
    refine wpAnyH_take (i := 2) (v := ?v20) (by rw [List.getElem?_toArray]; exact rfl) (by kernel_rfl) (by kernel_rfl) (by kernel_rfl) (fun _ _ _ h => h) (Or.inl ⟨by rfl, ?hy20⟩) (by assumption) ?rest20
    case hy20 => intro w hSw; (try dsimp only at hSw); obtain ⟨k0, k1, k2, k3, k4, k5, k6, k7⟩ := HS.out w hSw; go_simp; (try with_reducible rfl)
    try simp only [Act.put, List.setIfInBounds_toArray, List.set_cons_zero, List.set_cons_succ]
    refine wpAnyH_take (i := 3) (v := ?v21) (by rw [List.getElem?_toArray]; exact rfl) (by kernel_rfl) (by kernel_rfl) (by kernel_rfl) (fun _ _ _ h => h) (Or.inl ⟨by rfl, ?hy21⟩) (by assumption) ?rest21
    case hy21 => intro w hSw; (try dsimp only at hSw); obtain ⟨k0, k1, k2, k3, k4, k5, k6, k7⟩ := HS.out w hSw; go_simp; (try with_reducible rfl)
    try simp only [Act.put, List.setIfInBounds_toArray, List.set_cons_zero, List.set_cons_succ]
    refine wpAnyH_take (i := 4) (v := ?v22) (by rw [List.getElem?_toArray]; exact rfl) (by kernel_rfl) (by kernel_rfl) (by kernel_rfl) (fun _ _ _ h => h) (Or.inl ⟨by rfl, ?hy22⟩) (by assumption) ?rest22
    case hy22 => intro w hSw; (try dsimp only at hSw); obtain ⟨k0, k1, k2, k3, k4, k5, k6, k7⟩ := HS.out w hSw; go_simp; (try with_reducible rfl)
    try simp only [Act.put, List.setIfInBounds_toArray, List.set_cons_zero, List.set_cons_succ]
    refine wpAnyH_take (i := 5) (v := ?v23) (by rw [List.getElem?_toArray]; exact rfl) (by kernel_rfl) (by kernel_rfl) (by kernel_rfl) (fun _ _ _ h => h) (Or.inl ⟨by rfl, ?hy23⟩) (by assumption) ?rest23
    case hy23 => intro w hSw; (try dsimp only at hSw); obtain ⟨k0, k1, k2, k3, k4, k5, k6, k7⟩ := HS.out w hSw; go_simp; (try with_reducible rfl)
    try simp only [Act.put, List.setIfInBounds_toArray, List.set_cons_zero, List.set_cons_succ]
    refine wpAnyH_take (i := 6) (v := ?v24) (by rw [List.getElem?_toArray]; exact rfl) (by kernel_rfl) (by kernel_rfl) (by kernel_rfl) (fun _ _ _ h => h) (Or.inl ⟨by rfl, ?hy24⟩) (by assumption) ?rest24
    case hy24 => intro w hSw; (try dsimp only at hSw); obtain ⟨k0, k1, k2, k3, k4, k5, k6, k7⟩ := HS.out w hSw; go_simp; (try with_reducible rfl)
    try simp only [Act.put, List.setIfInBounds_toArray, List.set_cons_zero, List.set_cons_succ]
    refine wpAnyH_take (i := 7) (v := ?v25) (by rw [List.getElem?_toArray]; exact rfl) (by kernel_rfl) (by kernel_rfl) (by kernel_rfl) (fun _ _ _ h => h) (Or.inl ⟨by rfl, ?hy25⟩) (by assumption) ?rest25
    case hy25 => intro w hSw; (try dsimp only at hSw); obtain ⟨k0, k1, k2, k3, k4, k5, k6, k7⟩ := HS.out w hSw; go_simp; (try with_reducible rfl)
    try simp only [Act.put, List.setIfInBounds_toArray, List.set_cons_zero, List.set_cons_succ]
    refine wpAnyH_take (i := 8) (v := ?v26) (by rw [List.getElem?_toArray]; exact rfl) (by kernel_rfl) (by kernel_rfl) (by kernel_rfl) (fun _ _ _ h => h) (Or.inl ⟨by rfl, ?hy26⟩) (by assumption) ?rest26
    case hy26 => intro w hSw; (try dsimp only at hSw); obtain ⟨k0, k1, k2, k3, k4, k5, k6, k7⟩ := HS.out w hSw; go_simp; (try with_reducible rfl)
    try simp only [Act.put, List.setIfInBounds_toArray, List.set_cons_zero, List.set_cons_succ]
    refine wpAnyH_take (i := 9) (v := ?v27) (by rw [List.getElem?_toArray]; exact rfl) (by kernel_rfl) (by kernel_rfl) (by kernel_rfl) (fun _ _ _ h => h) (Or.inl ⟨by rfl, ?hy27⟩) (by assumption) ?rest27
    case hy27 => intro w hSw; (try dsimp only at hSw); obtain ⟨k0, k1, k2, k3, k4, k5, k6, k7⟩ := HS.out w hSw; go_simp; (try with_reducible rfl)
    try simp only [Act.put, List.setIfInBounds_toArray, List.set_cons_zero, List.set_cons_succ]
    refine wpAnyH_take (i := 11) (v := ?v28) (by rw [List.getElem?_toArray]; exact rfl) (by kernel_rfl) (by kernel_rfl) (by kernel_rfl) (fun _ _ _ h => h) (Or.inl ⟨by rfl, ?hy28⟩) (by assumption) ?rest28
    case hy28 => intro w hSw; (try dsimp only at hSw); obtain ⟨k0, k1, k2, k3, k4, k5, k6, k7⟩ := HS.out w hSw; go_simp; (try with_reducible rfl)
    try simp only [Act.put, List.setIfInBounds_toArray, List.set_cons_zero, List.set_cons_succ]
    refine wpAnyH_take (i := 12) (v := ?v29) (by rw [List.getElem?_toArray]; exact rfl) (by kernel_rfl) (by kernel_rfl) (by kernel_rfl) (fun _ _ _ h => h) (Or.inl ⟨by rfl, ?hy29⟩) (by assumption) ?rest29
    case hy29 => intro w hSw; (try dsimp only at hSw); obtain ⟨k0, k1, k2, k3, k4, k5, k6, k7⟩ := HS.out w hSw; go_simp; (try with_reducible rfl)
    try simp only [Act.put, List.setIfInBounds_toArray, List.set_cons_zero, List.set_cons_succ]
    refine wpAnyH_take (i := 13) (v := ?v30) (by rw [List.getElem?_toArray]; exact rfl) (by kernel_rfl) (by kernel_rfl) (by kernel_rfl) (fun _ _ _ h => h) (Or.inl ⟨by rfl, ?hy30⟩) (by assumption) ?rest30
    case hy30 => intro w hSw; (try dsimp only at hSw); obtain ⟨k0, k1, k2, k3, k4, k5, k6, k7⟩ := HS.out w hSw; go_simp; (try with_reducible rfl)
    try simp only [Act.put, List.setIfInBounds_toArray, List.set_cons_zero, List.set_cons_succ]
    refine wpAnyH_take (i := 14) (v := ?v31) (by rw [List.getElem?_toArray]; exact rfl) (by kernel_rfl) (by kernel_rfl) (by kernel_rfl) (fun _ _ _ h => h) (Or.inl ⟨by rfl, ?hy31⟩) (by assumption) ?rest31
    case hy31 => intro w hSw; (try dsimp only at hSw); obtain ⟨k0, k1, k2, k3, k4, k5, k6, k7⟩ := HS.out w hSw; go_simp; (try with_reducible rfl)
    try simp only [Act.put, List.setIfInBounds_toArray, List.set_cons_zero, List.set_cons_succ]
    refine wpAnyH_take (i := 15) (v := ?v32) (by rw [List.getElem?_toArray]; exact rfl) (by kernel_rfl) (by kernel_rfl) (by kernel_rfl) (fun _ _ _ h => h) (Or.inl ⟨by rfl, ?hy32⟩) (by assumption) ?rest32
    case hy32 => intro w hSw; (try dsimp only at hSw); obtain ⟨k0, k1, k2, k3, k4, k5, k6, k7⟩ := HS.out w hSw; go_simp; (try with_reducible rfl)
    try simp only [Act.put, List.setIfInBounds_toArray, List.set_cons_zero, List.set_cons_succ]
    refine wpAnyH_take (i := 16) (v := ?v33) (by rw [List.getElem?_toArray]; exact rfl) (by kernel_rfl) (by kernel_rfl) (by kernel_rfl) (fun _ _ _ h => h) (Or.inl ⟨by rfl, ?hy33⟩) (by assumption) ?rest33
    case hy33 => intro w hSw; (try dsimp only at hSw); obtain ⟨k0, k1, k2, k3, k4, k5, k6, k7⟩ := HS.out w hSw; go_simp; (try with_reducible rfl)
    try simp only [Act.put, List.setIfInBounds_toArray, List.set_cons_zero, List.set_cons_succ]
    refine ready_call (i := 10) (by kernel_rfl) (by rw [List.getElem?_toArray]; exact rfl) (by kernel_rfl) (fun K1 hK1 => ?_)
    go_simp
    refine (HL.out _ hs0).mono ?_
    rintro e w1 ⟨rfl, hb1⟩
    go_simp
    have hs1 := hs0.trans (hb1.mono hs0.size)
    refine hK1.out _ _ hs1 (fun _ => ?_)
    clear hK1 K1
    try simp only [Act.put, List.setIfInBounds_toArray, List.set_cons_zero, List.set_cons_succ]
    refine ready_call (i := 17) (by kernel_rfl) (by rw [List.getElem?_toArray]; exact rfl) (by kernel_rfl) (fun K1 hK1 => ?_)
    go_simp
    refine (HR.out _ hs1).mono ?_
    rintro e w2 ⟨rfl, hb2⟩
    go_simp
    have hs2 := hs1.trans (hb2.mono hs1.size)
    refine hK1.out _ _ hs2 (fun _ => ?_)
    clear hK1 K1
    try simp only [Act.put, List.setIfInBounds_toArray, List.set_cons_zero, List.set_cons_succ]
    refine ready_call (i := 18) (by kernel_rfl) (by rw [List.getElem?_toArray]; exact rfl) (by kernel_rfl) (fun K1 hK1 => ?_)
    go_simp
    have hbx := Blk.new w2 3 #[.int .i64 (l.depth : Int), .int .i64 (r.depth : Int)]
    have hs3 := hs2.trans ((box_below w2 (.cells #[.int .i64 (l.depth : Int), .int .i64 (r.depth : Int)] 3)).mono hs2.size)
    refine hK1.out _ _ hs3 (fun _ => ?_)
    clear hK1 K1
    try simp only [Act.put, List.setIfInBounds_toArray, List.set_cons_zero, List.set_cons_succ]
    generalize hW3 : (w2.alloc (.cells #[.int .i64 (l.depth : Int), .int .i64 (r.depth : Int)] 3)) = w3 at *
    refine ready_call (i := 19) (by kernel_rfl) (by rw [List.getElem?_toArray]; exact rfl) (by kernel_rfl) (fun K1 hK1 => ?_)
    go_simp
    refine (depth6_any _ _ _ _ _ _ _ _ _ (by omega) (by omega) (by omega) w3 hbx).mono ?_
    rintro e w4 ⟨rfl, hb4⟩
    go_simp
    have hs4 := hs3.trans (hb4.mono hs3.size)
    refine hK1.out _ _ hs4 (fun _ => ?_)
    clear hK1 K1
    try simp only [Act.put, List.setIfInBounds_toArray, List.set_cons_zero, List.set_cons_succ]
    refine wpAnyH_take (i := 20) (v := ?v34) (by rw [List.getElem?_toArray]; exact rfl) (by kernel_rfl) (by kernel_rfl) (by kernel_rfl) (fun _ _ _ h => h) (Or.inl ⟨by rfl, ?hy34⟩) (by assumption) ?rest34
    case hy34 => intro w hSw; (try dsimp only at hSw); go_simp; (try with_reducible rfl)
    try simp only [Act.put, List.setIfInBounds_toArray, List.set_cons_zero, List.set_cons_succ]
    refine wpAnyH_done (by kernel_rfl) ?_ _
    refine NoPanic.normal ?_
    go_wp2_with fail
    go_ret
    exact ⟨by rw [show ((Tr.node b k h v l r).depth : Int) = 1 + max (l.depth : Int) (r.depth : Int) from by simp only [Tr.depth]; omega]; rfl, hs4⟩
theorem foldCount_any_top (t : Tr) (hk : t.keys.length ≤ 2000) (w : World) (hl : Lies w t) :
    Calls Try.prog 54 #[.pointer (ptr t), .func (.func 55) #[] #[]] w fun e w' => e = .returned (.int .i64 (t.keys.length : Int)) ∧ Below w.heap.size w w' := by
  have hb2 := two_below w (.cells #[.func (.func 55) #[] #[]] 100) (.cells #[.func (.func 74) #[] #[.pointer (some ⟨w.heap.size, 0, none⟩), .pointer (some ⟨w.heap.size + 1, 0, none⟩)]] 123)
  have hbo := (Blk.new w 100 #[.func (.func 55) #[] #[]]).alloc (.cells #[.func (.func 74) #[] #[.pointer (some ⟨w.heap.size, 0, none⟩), .pointer (some ⟨w.heap.size + 1, 0, none⟩)]] 123)
  have hba := Blk.new (w.alloc (.cells #[.func (.func 55) #[] #[]] 100)) 123 #[.func (.func 74) #[] #[.pointer (some ⟨w.heap.size, 0, none⟩), .pointer (some ⟨w.heap.size + 1, 0, none⟩)]]
  have hs1 : (w.alloc (.cells #[.func (.func 55) #[] #[]] 100)).heap.size = w.heap.size + 1 := by simp
  rw [hs1] at hba
  have HX := Lib.hid (And.intro hb2 (And.intro hbo hba))
  have HL := Lib.hid hl
  clear hb2 hbo hba hl hs1
  go_enter Try.func54, Try.ntmps54
  go_wp2_with fail
  refine (foldCount_any w.heap.size (w.heap.size + 1) t hk _ (HL.out.keep fun c hc => HX.out.1.block c (HL.out.lt c hc)) (HX.out.2.1.cell 0) (HX.out.2.2.cell 0)).mono ?_
  rintro e w1 ⟨rfl, hb1⟩
  have HB1 := Lib.hid (HX.out.1.trans (hb1.mono HX.out.1.size))
  clear hb1
  go_wp2_with fail
  go_ret
  exact ⟨rfl, HB1.out⟩
theorem nodes6_any (t : Tr) (w : World) (g : Nat) (hT : Trie w g t) (hk : t.keys.length ≤ 2000) :
    Calls Try.prog 27 #[.pointer (some ⟨g, 0, none⟩)] w fun e w' => e = .returned (.int .i64 (t.keys.length : Int)) ∧ Below w.heap.size w w' := by
  have HT := Lib.hid hT
  clear hT
  go_enter Try.func27, Try.ntmps27
  go_wp2_with fail
  refine (first_any _ g _ _ HT.out.own).mono ?_
  rintro e w1 ⟨rfl, rfl⟩
  go_wp2_with fail
  refine (foldCount_any_top t hk _ HT.out.lies).mono ?_
  rintro e w1 ⟨rfl, hb1⟩
  have HB1 := Lib.hid hb1
  clear hb1
  go_wp2_with fail
  go_ret
  exact ⟨rfl, HB1.out⟩
theorem nodes6_any0 (w : World) :
    Calls Try.prog 27 #[.pointer none] w fun e w' => e = .returned (.int .i64 0) ∧ Below w.heap.size w w' := by
  go_enter Try.func27, Try.ntmps27
  go_wp2_with fail
  refine (first0_any _).mono ?_
  rintro e w1 ⟨rfl, rfl⟩
  go_wp2_with fail
  refine (foldCount_any_top .nil (by simp [Tr.keys]) _ trivial).mono ?_
  rintro e w1 ⟨rfl, hb1⟩
  have HB1 := Lib.hid hb1
  clear hb1
  go_wp2_with fail
  go_ret
  exact ⟨rfl, HB1.out⟩
theorem foldDepth_any_top (t : Tr) (hk : t.keys.length ≤ 2000) (w : World) (hl : Lies w t) :
    Calls Try.prog 54 #[.pointer (ptr t), .func (.func 56) #[] #[]] w fun e w' => e = .returned (.int .i64 (t.depth : Int)) ∧ Below w.heap.size w w' := by
  have hb2 := two_below w (.cells #[.func (.func 56) #[] #[]] 100) (.cells #[.func (.func 74) #[] #[.pointer (some ⟨w.heap.size, 0, none⟩), .pointer (some ⟨w.heap.size + 1, 0, none⟩)]] 123)
  have hbo := (Blk.new w 100 #[.func (.func 56) #[] #[]]).alloc (.cells #[.func (.func 74) #[] #[.pointer (some ⟨w.heap.size, 0, none⟩), .pointer (some ⟨w.heap.size + 1, 0, none⟩)]] 123)
  have hba := Blk.new (w.alloc (.cells #[.func (.func 56) #[] #[]] 100)) 123 #[.func (.func 74) #[] #[.pointer (some ⟨w.heap.size, 0, none⟩), .pointer (some ⟨w.heap.size + 1, 0, none⟩)]]
  have hs1 : (w.alloc (.cells #[.func (.func 56) #[] #[]] 100)).heap.size = w.heap.size + 1 := by simp
  rw [hs1] at hba
  have HX := Lib.hid (And.intro hb2 (And.intro hbo hba))
  have HL := Lib.hid hl
  clear hb2 hbo hba hl hs1
  go_enter Try.func54, Try.ntmps54
  go_wp2_with fail
  refine (foldDepth_any w.heap.size (w.heap.size + 1) t hk _ (HL.out.keep fun c hc => HX.out.1.block c (HL.out.lt c hc)) (HX.out.2.1.cell 0) (HX.out.2.2.cell 0)).mono ?_
  rintro e w1 ⟨rfl, hb1⟩
  have HB1 := Lib.hid (HX.out.1.trans (hb1.mono HX.out.1.size))
  clear hb1
  go_wp2_with fail
  go_ret
  exact ⟨rfl, HB1.out⟩
theorem depthT_any (t : Tr) (w : World) (g : Nat) (hT : Trie w g t) (hk : t.keys.length ≤ 2000) :
    Calls Try.prog 28 #[.pointer (some ⟨g, 0, none⟩)] w fun e w' => e = .returned (.int .i64 (t.depth : Int)) ∧ Below w.heap.size w w' := by
  have HT := Lib.hid hT
  clear hT
  go_enter Try.func28, Try.ntmps28
  go_wp2_with fail
  refine (first_any _ g _ _ HT.out.own).mono ?_
  rintro e w1 ⟨rfl, rfl⟩
  go_wp2_with fail
  refine (foldDepth_any_top t hk _ HT.out.lies).mono ?_
  rintro e w1 ⟨rfl, hb1⟩
  have HB1 := Lib.hid hb1
  clear hb1
  go_wp2_with fail
  go_ret
  exact ⟨rfl, HB1.out⟩
theorem depthT_any0 (w : World) :
    Calls Try.prog 28 #[.pointer none] w fun e w' => e = .returned (.int .i64 0) ∧ Below w.heap.size w w' := by
  go_enter Try.func28, Try.ntmps28
  go_wp2_with fail
  refine (first0_any _).mono ?_
  rintro e w1 ⟨rfl, rfl⟩
  go_wp2_with fail
  refine (foldDepth_any_top .nil (by simp [Tr.keys]) _ trivial).mono ?_
  rintro e w1 ⟨rfl, hb1⟩
  have HB1 := Lib.hid hb1
  clear hb1
  go_wp2_with fail
  go_ret
  exact ⟨rfl, HB1.out⟩
end T6
end Go.Proofs.Ytghkacciihocdaa
