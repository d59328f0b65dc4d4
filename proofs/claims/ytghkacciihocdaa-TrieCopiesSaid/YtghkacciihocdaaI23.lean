/- Layer 6's program: fold by what tells; From. -/
import Derived.Test.YtghkacciihocdaaI22
namespace Go.Proofs.Ytghkacciihocdaa
open Go Go.RowKit Go.Shelf Go.Sort
attribute [local go_sem] Oper.semAt_some
attribute [local irreducible] wpQuiet
namespace T6

/-- The nodes from a prefix on, as they are. -/
def snaps (x n : Int) : Tr → List Snap
  | .nil => []
  | .node _ k h v l r => selF x n k h v (ptr l) (ptr r) ++ (snaps x n l ++ snaps x n r)
theorem snaps_rows (x n : Int) (t : Tr) : (snaps x n t).map snapR = t.rows.filter (fun r => fromB x n r.1) := by
  induction t with
  | nil => rfl
  | node b k h v l r ihl ihr =>
    simp only [snaps, Tr.rows, List.map_append, List.filter_append, ihl, ihr]
    congr 1
    unfold selF
    cases h
    · simp
    · cases hf : fromB x n k <;> simp [hf, snapR]
theorem snaps_len (x n : Int) (t : Tr) : (snaps x n t).length ≤ t.keys.length := by
  have h1 := congrArg List.length (snaps_rows x n t)
  rw [List.length_map] at h1
  have h2 := List.length_filter_le (fun r : Key × Int => fromB x n r.1) t.rows
  have h3 := nodes_least t
  omega
set_option maxRecDepth 100000 in
set_option maxHeartbeats 3200000 in
theorem foldTell_any (bo ba : Nat) (bp : Nat) (x n : Int) (t : Tr) (hk : t.keys.length ≤ 2000) : ∀ w, Lies w t → w.cell? ⟨bo, 0, none⟩ = some (.func (.func 48) #[] #[.pointer (some ⟨bp, 0, none⟩)]) → w.cell? ⟨ba, 0, none⟩ = some (.func (.func 68) #[] #[.pointer (some ⟨bo, 0, none⟩), .pointer (some ⟨ba, 0, none⟩)]) → w.cell? ⟨bp, 0, none⟩ = some (.int .u32 x) → w.cell? ⟨bp, 1, none⟩ = some (.int .i64 n) →
    Calls Try.prog 68 #[.pointer (ptr t), .pointer (some ⟨bo, 0, none⟩), .pointer (some ⟨ba, 0, none⟩)] w fun e w' => ∃ u, e = .returned u ∧ w'.ownsRow w.heap.size 96 1 u (snaps x n t).length (tells (snaps x n t)) ∧ Below w.heap.size w w' := by
  induction t with
  | nil =>
    intro w _ _ _ _ _
    simp only [ptr]
    go_enter Try.func68, Try.ntmps68
    go_wp2_with fail
    go_ret
    exact ⟨_, rfl, World.ownsRow_nil _ _ _ _, Below.refl _ _⟩
  | node b k h v l r ihl ihr =>
    intro w hl ho ha hp0 hp1
    have hkl : l.keys.length ≤ 2000 := by simp only [Tr.keys, List.length_cons, List.length_append] at hk; omega
    have hkr : r.keys.length ≤ 2000 := by simp only [Tr.keys, List.length_cons, List.length_append] at hk; omega
    have hks : l.keys.length + r.keys.length ≤ 2000 := by simp only [Tr.keys, List.length_cons, List.length_append] at hk; omega
    have HS : Hid (∀ w', Below w.heap.size w w' → w'.cell? ⟨b, 0, none⟩ = some (.int .u32 (kx k)) ∧ w'.cell? ⟨b, 1, none⟩ = some (.int .i64 (kn k)) ∧ w'.cell? ⟨b, 2, none⟩ = some (.bool h) ∧ w'.cell? ⟨b, 3, none⟩ = some (.int .i64 v) ∧ w'.cell? ⟨b, 4, none⟩ = some (.pointer (ptr l)) ∧ w'.cell? ⟨b, 5, none⟩ = some (.pointer (ptr r)) ∧
        w'.cell? ⟨bo, 0, none⟩ = some (.func (.func 48) #[] #[.pointer (some ⟨bp, 0, none⟩)]) ∧ w'.cell? ⟨ba, 0, none⟩ = some (.func (.func 68) #[] #[.pointer (some ⟨bo, 0, none⟩), .pointer (some ⟨ba, 0, none⟩)])) := Lib.hid (fun w' hb => by
      obtain ⟨c0, c1, c2, c3, c4, c5⟩ := cellN (hl.1.below hb hl.1.lt)
      exact ⟨c0, c1, c2, c3, c4, c5, (hb.cell (p := ⟨bo, 0, none⟩) (World.block_lt_of_cell? _ _ ho)).trans ho, (hb.cell (p := ⟨ba, 0, none⟩) (World.block_lt_of_cell? _ _ ha)).trans ha⟩)
    have hsl := snaps_len x n l
    have hsr := snaps_len x n r
    have HP : Hid (∀ w', Below w.heap.size w w' → w'.cell? ⟨bp, 0, none⟩ = some (.int .u32 x) ∧ w'.cell? ⟨bp, 1, none⟩ = some (.int .i64 n)) := Lib.hid (fun w' hb => ⟨(hb.cell (p := ⟨bp, 0, none⟩) (World.block_lt_of_cell? _ _ hp0)).trans hp0, (hb.cell (p := ⟨bp, 1, none⟩) (World.block_lt_of_cell? _ _ hp1)).trans hp1⟩)
    have HL := Lib.hid (fun (W : World) (hW : Below w.heap.size w W) => ihl hkl W (hl.2.1.keep fun c hc => hW.block c (hl.2.1.lt c hc)) (HS.out W hW).2.2.2.2.2.2.1 (HS.out W hW).2.2.2.2.2.2.2 (HP.out W hW).1 (HP.out W hW).2)
    have HR := Lib.hid (fun (W : World) (hW : Below w.heap.size w W) => ihr hkr W (hl.2.2.keep fun c hc => hW.block c (hl.2.2.lt c hc)) (HS.out W hW).2.2.2.2.2.2.1 (HS.out W hW).2.2.2.2.2.2.2 (HP.out W hW).1 (HP.out W hW).2)
    have hlt := hl.1.lt
    clear ihl ihr hl ho ha hp0 hp1
    simp only [ptr]
    go_enter Try.func68, Try.ntmps68
    go_wp2_with fail
    have hs0 : Below w.heap.size w w.drew := below_drew w
    refine wp_region_noPanic ?_
    refine wp_region_held_drew (S := fun W => Below w.heap.size w W) (by kernel_rfl) hs0 ?_
    intro _
    generalize w.drew = w0 at *
    refine wpAnyH_take (i := 0) (v := ?v1) (by rw [List.getElem?_toArray]; exact rfl) (by kernel_rfl) (by kernel_rfl) (by kernel_rfl) (fun _ _ _ h => h) (Or.inl ⟨by rfl, ?hy1⟩) (by assumption) ?rest1
    case hy1 => intro w hSw; (try dsimp only at hSw); obtain ⟨k0, k1, k2, k3, k4, k5, k6, k7⟩ := HS.out w hSw; go_simp; (try with_reducible rfl)
    try simp only [Act.put, List.setIfInBounds_toArray, List.set_cons_zero, List.set_cons_succ]
    refine wpAnyH_take (i := 1) (v := ?v2) (by rw [List.getElem?_toArray]; exact rfl) (by kernel_rfl) (by kernel_rfl) (by kernel_rfl) (fun _ _ _ h => h) (Or.inl ⟨by rfl, ?hy2⟩) (by assumption) ?rest2
    case hy2 => intro w hSw; (try dsimp only at hSw); obtain ⟨k0, k1, k2, k3, k4, k5, k6, k7⟩ := HS.out w hSw; go_simp; (try with_reducible rfl)
    try simp only [Act.put, List.setIfInBounds_toArray, List.set_cons_zero, List.set_cons_succ]
    refine wpAnyH_take (i := 2) (v := ?v3) (by rw [List.getElem?_toArray]; exact rfl) (by kernel_rfl) (by kernel_rfl) (by kernel_rfl) (fun _ _ _ h => h) (Or.inl ⟨by rfl, ?hy3⟩) (by assumption) ?rest3
    case hy3 => intro w hSw; (try dsimp only at hSw); obtain ⟨k0, k1, k2, k3, k4, k5, k6, k7⟩ := HS.out w hSw; go_simp; (try with_reducible rfl)
    try simp only [Act.put, List.setIfInBounds_toArray, List.set_cons_zero, List.set_cons_succ]
    refine wpAnyH_take (i := 3) (v := ?v4) (by rw [List.getElem?_toArray]; exact rfl) (by kernel_rfl) (by kernel_rfl) (by kernel_rfl) (fun _ _ _ h => h) (Or.inl ⟨by rfl, ?hy4⟩) (by assumption) ?rest4
    case hy4 => intro w hSw; (try dsimp only at hSw); obtain ⟨k0, k1, k2, k3, k4, k5, k6, k7⟩ := HS.out w hSw; go_simp; (try with_reducible rfl)
    try simp only [Act.put, List.setIfInBounds_toArray, List.set_cons_zero, List.set_cons_succ]
    refine wpAnyH_take (i := 4) (v := ?v5) (by rw [List.getElem?_toArray]; exact rfl) (by kernel_rfl) (by kernel_rfl) (by kernel_rfl) (fun _ _ _ h => h) (Or.inl ⟨by rfl, ?hy5⟩) (by assumption) ?rest5
    case hy5 => intro w hSw; (try dsimp only at hSw); obtain ⟨k0, k1, k2, k3, k4, k5, k6, k7⟩ := HS.out w hSw; go_simp; (try with_reducible rfl)
    try simp only [Act.put, List.setIfInBounds_toArray, List.set_cons_zero, List.set_cons_succ]
    refine wpAnyH_take (i := 5) (v := ?v6) (by rw [List.getElem?_toArray]; exact rfl) (by kernel_rfl) (by kernel_rfl) (by kernel_rfl) (fun _ _ _ h => h) (Or.inl ⟨by rfl, ?hy6⟩) (by assumption) ?rest6
    case hy6 => intro w hSw; (try dsimp only at hSw); obtain ⟨k0, k1, k2, k3, k4, k5, k6, k7⟩ := HS.out w hSw; go_simp; (try with_reducible rfl)
    try simp only [Act.put, List.setIfInBounds_toArray, List.set_cons_zero, List.set_cons_succ]
    refine wpAnyH_take (i := 6) (v := ?v7) (by rw [List.getElem?_toArray]; exact rfl) (by kernel_rfl) (by kernel_rfl) (by kernel_rfl) (fun _ _ _ h => h) (Or.inl ⟨by rfl, ?hy7⟩) (by assumption) ?rest7
    case hy7 => intro w hSw; (try dsimp only at hSw); obtain ⟨k0, k1, k2, k3, k4, k5, k6, k7⟩ := HS.out w hSw; go_simp; (try with_reducible rfl)
    try simp only [Act.put, List.setIfInBounds_toArray, List.set_cons_zero, List.set_cons_succ]
    refine wpAnyH_take (i := 7) (v := ?v8) (by rw [List.getElem?_toArray]; exact rfl) (by kernel_rfl) (by kernel_rfl) (by kernel_rfl) (fun _ _ _ h => h) (Or.inl ⟨by rfl, ?hy8⟩) (by assumption) ?rest8
    case hy8 => intro w hSw; (try dsimp only at hSw); obtain ⟨k0, k1, k2, k3, k4, k5, k6, k7⟩ := HS.out w hSw; go_simp; (try with_reducible rfl)
    try simp only [Act.put, List.setIfInBounds_toArray, List.set_cons_zero, List.set_cons_succ]
    refine wpAnyH_take (i := 8) (v := ?v9) (by rw [List.getElem?_toArray]; exact rfl) (by kernel_rfl) (by kernel_rfl) (by kernel_rfl) (fun _ _ _ h => h) (Or.inl ⟨by rfl, ?hy9⟩) (by assumption) ?rest9
    case hy9 => intro w hSw; (try dsimp only at hSw); obtain ⟨k0, k1, k2, k3, k4, k5, k6, k7⟩ := HS.out w hSw; go_simp; (try with_reducible rfl)
    try simp only [Act.put, List.setIfInBounds_toArray, List.set_cons_zero, List.set_cons_succ]
    refine wpAnyH_take (i := 9) (v := ?v10) (by rw [List.getElem?_toArray]; exact rfl) (by kernel_rfl) (by kernel_rfl) (by kernel_rfl) (fun _ _ _ h => h) (Or.inl ⟨by rfl, ?hy10⟩) (by assumption) ?rest10
    case hy10 => intro w hSw; (try dsimp only at hSw); obtain ⟨k0, k1, k2, k3, k4, k5, k6, k7⟩ := HS.out w hSw; go_simp; (try with_reducible rfl)
    try simp only [Act.put, List.setIfInBounds_toArray, List.set_cons_zero, List.set_cons_succ]
    refine wpAnyH_take (i := 11) (v := ?v11) (by rw [List.getElem?_toArray]; exact rfl) (by kernel_rfl) (by kernel_rfl) (by kernel_rfl) (fun _ _ _ h => h) (Or.inl ⟨by rfl, ?hy11⟩) (by assumption) ?rest11
    case hy11 => intro w hSw; (try dsimp only at hSw); obtain ⟨k0, k1, k2, k3, k4, k5, k6, k7⟩ := HS.out w hSw; go_simp; (try with_reducible rfl)
    try simp only [Act.put, List.setIfInBounds_toArray, List.set_cons_zero, List.set_cons_succ]
    refine wpAnyH_take (i := 12) (v := ?v12) (by rw [List.getElem?_toArray]; exact rfl) (by kernel_rfl) (by kernel_rfl) (by kernel_rfl) (fun _ _ _ h => h) (Or.inl ⟨by rfl, ?hy12⟩) (by assumption) ?rest12
    case hy12 => intro w hSw; (try dsimp only at hSw); obtain ⟨k0, k1, k2, k3, k4, k5, k6, k7⟩ := HS.out w hSw; go_simp; (try with_reducible rfl)
    try simp only [Act.put, List.setIfInBounds_toArray, List.set_cons_zero, List.set_cons_succ]
    refine wpAnyH_take (i := 13) (v := ?v13) (by rw [List.getElem?_toArray]; exact rfl) (by kernel_rfl) (by kernel_rfl) (by kernel_rfl) (fun _ _ _ h => h) (Or.inl ⟨by rfl, ?hy13⟩) (by assumption) ?rest13
    case hy13 => intro w hSw; (try dsimp only at hSw); obtain ⟨k0, k1, k2, k3, k4, k5, k6, k7⟩ := HS.out w hSw; go_simp; (try with_reducible rfl)
    try simp only [Act.put, List.setIfInBounds_toArray, List.set_cons_zero, List.set_cons_succ]
    refine wpAnyH_take (i := 14) (v := ?v14) (by rw [List.getElem?_toArray]; exact rfl) (by kernel_rfl) (by kernel_rfl) (by kernel_rfl) (fun _ _ _ h => h) (Or.inl ⟨by rfl, ?hy14⟩) (by assumption) ?rest14
    case hy14 => intro w hSw; (try dsimp only at hSw); obtain ⟨k0, k1, k2, k3, k4, k5, k6, k7⟩ := HS.out w hSw; go_simp; (try with_reducible rfl)
    try simp only [Act.put, List.setIfInBounds_toArray, List.set_cons_zero, List.set_cons_succ]
    refine wpAnyH_take (i := 15) (v := ?v15) (by rw [List.getElem?_toArray]; exact rfl) (by kernel_rfl) (by kernel_rfl) (by kernel_rfl) (fun _ _ _ h => h) (Or.inl ⟨by rfl, ?hy15⟩) (by assumption) ?rest15
    case hy15 => intro w hSw; (try dsimp only at hSw); obtain ⟨k0, k1, k2, k3, k4, k5, k6, k7⟩ := HS.out w hSw; go_simp; (try with_reducible rfl)
    try simp only [Act.put, List.setIfInBounds_toArray, List.set_cons_zero, List.set_cons_succ]
    refine wpAnyH_take (i := 16) (v := ?v16) (by rw [List.getElem?_toArray]; exact rfl) (by kernel_rfl) (by kernel_rfl) (by kernel_rfl) (fun _ _ _ h => h) (Or.inl ⟨by rfl, ?hy16⟩) (by assumption) ?rest16
    case hy16 => intro w hSw; (try dsimp only at hSw); obtain ⟨k0, k1, k2, k3, k4, k5, k6, k7⟩ := HS.out w hSw; go_simp; (try with_reducible rfl)
    try simp only [Act.put, List.setIfInBounds_toArray, List.set_cons_zero, List.set_cons_succ]
    refine ready_call (i := 10) (by kernel_rfl) (by rw [List.getElem?_toArray]; exact rfl) (by kernel_rfl) (fun K1 hK1 => ?_)
    go_simp
    refine (HL.out _ hs0).mono ?_
    rintro e w1 ⟨u1, rfl, ho1, hb1⟩
    obtain ⟨A1, c1, rfl⟩ := own_slice ho1
    go_simp
    have hs1 := hs0.trans (hb1.mono hs0.size)
    refine hK1.out _ _ hs1 (fun _ => ?_)
    clear hK1 K1
    try simp only [Act.put, List.setIfInBounds_toArray, List.set_cons_zero, List.set_cons_succ]
    refine ready_call (i := 17) (by kernel_rfl) (by rw [List.getElem?_toArray]; exact rfl) (by kernel_rfl) (fun K1 hK1 => ?_)
    go_simp
    refine (HR.out _ hs1).mono ?_
    rintro e w2 ⟨u2, rfl, ho2, hb2⟩
    obtain ⟨A2, c2, rfl⟩ := own_slice ho2
    go_simp
    have hs2 := hs1.trans (hb2.mono hs1.size)
    refine hK1.out _ _ hs2 (fun _ => ?_)
    clear hK1 K1
    try simp only [Act.put, List.setIfInBounds_toArray, List.set_cons_zero, List.set_cons_succ]
    refine ready_call (i := 18) (by kernel_rfl) (by rw [List.getElem?_toArray]; exact rfl) (by kernel_rfl) (fun K1 hK1 => ?_)
    go_simp
    have hbx := Blk.new w2 84 #[.slice A1 (snaps x n l).length c1, .slice A2 (snaps x n r).length c2]
    have hs3 := hs2.trans ((box_below w2 (.cells #[.slice A1 (snaps x n l).length c1, .slice A2 (snaps x n r).length c2] 84)).mono hs2.size)
    refine hK1.out _ _ hs3 (fun _ => ?_)
    clear hK1 K1
    try simp only [Act.put, List.setIfInBounds_toArray, List.set_cons_zero, List.set_cons_succ]
    generalize hW3 : (w2.alloc (.cells #[.slice A1 (snaps x n l).length c1, .slice A2 (snaps x n r).length c2] 84)) = w3 at *
    refine ready_call (i := 19) (by kernel_rfl) (by rw [List.getElem?_toArray]; exact rfl) (by kernel_rfl) (fun K1 hK1 => ?_)
    go_simp
    have hl1 := ((lies_own ho1).below hb2).below (box_below w2 (.cells #[.slice A1 (snaps x n l).length c1, .slice A2 (snaps x n r).length c2] 84))
    have hl2 := (lies_own ho2).below (box_below w2 (.cells #[.slice A1 (snaps x n l).length c1, .slice A2 (snaps x n r).length c2] 84))
    rw [hW3] at hl1 hl2
    refine (from1_any k h v (ptr l) (ptr r) x n _ bp A1 A2 c1 c2 (snaps x n l) (snaps x n r) (by omega) w3 hbx hl1 hl2 (HP.out w3 hs3).1 (HP.out w3 hs3).2).mono ?_
    rintro e w4 ⟨u4, rfl, ho4, hb4⟩
    go_simp
    have hs4 := hs3.trans (hb4.mono hs3.size)
    refine hK1.out _ _ hs4 (fun _ => ?_)
    clear hK1 K1
    try simp only [Act.put, List.setIfInBounds_toArray, List.set_cons_zero, List.set_cons_succ]
    refine wpAnyH_take (i := 20) (v := ?v17) (by rw [List.getElem?_toArray]; exact rfl) (by kernel_rfl) (by kernel_rfl) (by kernel_rfl) (fun _ _ _ h => h) (Or.inl ⟨by rfl, ?hy17⟩) (by assumption) ?rest17
    case hy17 => intro w hSw; (try dsimp only at hSw); go_simp; (try with_reducible rfl)
    try simp only [Act.put, List.setIfInBounds_toArray, List.set_cons_zero, List.set_cons_succ]
    refine wpAnyH_done (by kernel_rfl) ?_ _
    refine NoPanic.normal ?_
    go_wp2_with fail
    go_ret
    exact ⟨_, rfl, own_fit ho4 (by have := hs3.size; omega) rfl rfl, hs4⟩
end T6
end Go.Proofs.Ytghkacciihocdaa
