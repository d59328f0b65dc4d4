/- Merged by tools/merge.py: I34, I35, I36, I37. -/
import Derived.Test.YtghkacciihocdaaI33
import Derived.Laws.IdiomCopy
namespace Go.Proofs.Ytghkacciihocdaa
open Go Go.RowKit Go.Shelf Go.Sort
attribute [local go_sem] Oper.semAt_some
attribute [local irreducible] wpQuiet
namespace T6

/-- The same tree, whatever blocks it lies in. -/
def Alike : Tr → Tr → Prop
  | .nil, .nil => True
  | .node _ k h v l r, .node _ k' h' v' l' r' => k = k' ∧ h = h' ∧ v = v' ∧ Alike l l' ∧ Alike r r'
  | _, _ => False
theorem Alike.rows : ∀ {t t' : Tr}, Alike t t' → t'.rows = t.rows
  | .nil, .nil, _ => rfl
  | .node _ _ _ _ _ _, .node _ _ _ _ _ _, ⟨h1, h2, h3, h4, h5⟩ => by subst h1 h2 h3; simp only [Tr.rows, h4.rows, h5.rows]
  | .nil, .node _ _ _ _ _ _, h => h.elim
  | .node _ _ _ _ _ _, .nil, h => h.elim
theorem Alike.keys : ∀ {t t' : Tr}, Alike t t' → t'.keys = t.keys
  | .nil, .nil, _ => rfl
  | .node _ _ _ _ _ _, .node _ _ _ _ _ _, ⟨h1, h2, h3, h4, h5⟩ => by subst h1 h2 h3; simp only [Tr.keys, h4.keys, h5.keys]
  | .nil, .node _ _ _ _ _ _, h => h.elim
  | .node _ _ _ _ _ _, .nil, h => h.elim
theorem Alike.some : ∀ {t t' : Tr}, Alike t t' → t ≠ .nil → t' ≠ .nil
  | .nil, _, _, h => absurd rfl h
  | .node _ _ _ _ _ _, .nil, h, _ => h.elim
  | .node _ _ _ _ _ _, .node _ _ _ _ _ _, _, _ => fun e => by cases e
theorem Alike.wf : ∀ {t t' : Tr}, Alike t t' → t.WF → t'.WF
  | .nil, .nil, _, _ => trivial
  | .node _ _ _ _ _ _, .node _ _ _ _ _ _, ⟨h1, h2, h3, h4, h5⟩, ⟨a1, a2, a3, a4, a5, a6⟩ => by
    subst h1 h2 h3
    exact ⟨a1, h4.wf a2, h5.wf a3, fun q hq => a4 q (by rw [← h4.keys]; exact hq), fun q hq => a5 q (by rw [← h5.keys]; exact hq), a6.imp id fun ⟨b1, b2⟩ => ⟨h4.some b1, h5.some b2⟩⟩
  | .nil, .node _ _ _ _ _ _, h, _ => h.elim
  | .node _ _ _ _ _ _, .nil, h, _ => h.elim
theorem copied_any (k : Key) (h : Bool) (v : Int) (pl pr : Option Addr) (s : Nat) (q0 q1 : Option Addr) (w : World) (hb : Blk w s 71 #[.pointer q0, .pointer q1]) :
    Calls Try.prog 58 #[.agg #[.int .u32 (kx k), .int .i64 (kn k), .bool h, .int .i64 v, .pointer pl, .pointer pr], .slice (some ⟨s, 0, none⟩) 2 2] w fun e w' => e = .returned (.pointer (some ⟨w.heap.size, 0, none⟩)) ∧
      Blk w' w.heap.size 81 #[.int .u32 (kx k), .int .i64 (kn k), .bool h, .int .i64 v, .pointer q0, .pointer q1] ∧ Below w.heap.size w w' := by
  have hbx := box_below w (.cells #[.int .u32 (kx k), .int .i64 (kn k), .bool h, .int .i64 v, .pointer pl, .pointer pr] 81)
  have hn := Blk.new w 81 #[.int .u32 (kx k), .int .i64 (kn k), .bool h, .int .i64 v, .pointer pl, .pointer pr]
  have hs := hb.below hbx hb.lt
  have hcp := run_copy_cells (P := Try.prog) (w.alloc (.cells #[.int .u32 (kx k), .int .i64 (kn k), .bool h, .int .i64 v, .pointer pl, .pointer pr] 81)) 77 77 3 71 w.heap.size 4 2 2 ⟨s, 0, none⟩ 2 2 [.pointer q0, .pointer q1]
    (by kernel_rfl) (by kernel_rfl) rfl (fun j u hj => by
      match j, hj with
      | 0, e => (simp at e; subst e; exact hs.cell 0)
      | 1, e => (simp at e; subst e; exact hs.cell 1)) (fun j hj => by
      match j, hj with
      | 0, _ => (rw [hn.cell 4]; rfl)
      | 1, _ => (rw [hn.cell 5]; rfl)) (fun j hj => hn.frozen _) (fun u hu => by
      simp only [List.mem_cons, List.mem_nil_iff, or_false] at hu
      rcases hu with rfl | rfl <;> rfl)
  have hn2 := (hn.set_ 4 (.pointer q0)).set_ 5 (.pointer q1)
  have hbl := (hbx.setCell (p := ⟨w.heap.size, 4, none⟩) (Nat.le_refl _) (.pointer q0)).setCell (p := ⟨w.heap.size, 5, none⟩) (Nat.le_refl _) (.pointer q1)
  have HN := Lib.hid (And.intro hn2 hbl)
  clear hn hs hb hbx hn2 hbl
  go_enter Try.func58, Try.ntmps58
  go_wp2_with fail
  go_ret
  refine ⟨rfl, ?_, ?_⟩
  · have := HN.out.1
    simpa [World.setCells] using this
  · have := HN.out.2
    simpa [World.setCells] using this

theorem copy_end {w w0 w1 w2 w3 w4 : World} {b : Nat} {k : Key} {h : Bool} {v : Int} {l r lt rt : Tr}
    (e1 : Lies w1 lt ∧ Alike l lt ∧ lt.blks.Nodup ∧ (∀ b ∈ lt.blks, w0.heap.size ≤ b) ∧ w0.heap.size ≤ w1.heap.size) (l2 : Lies w2 rt) (a2 : Alike r rt) (n2 : rt.blks.Nodup) (g2 : ∀ b ∈ rt.blks, w1.heap.size ≤ b) (b2 : Below w1.heap.size w1 w2)
    (b3 : Below w2.heap.size w2 w3) (hbn : Blk w4 w3.heap.size 81 #[.int .u32 (kx k), .int .i64 (kn k), .bool h, .int .i64 v, .pointer (ptr lt), .pointer (ptr rt)]) (b4 : Below w3.heap.size w3 w4)
    (hs0 : Below w.heap.size w w0) (hs4 : Below w.heap.size w w4) :
    ∃ t', Ending.returned (.pointer (some ⟨w3.heap.size, 0, none⟩)) = .returned (.pointer (ptr t')) ∧ Lies w4 t' ∧ Alike (.node b k h v l r) t' ∧ t'.blks.Nodup ∧ (∀ b ∈ t'.blks, w.heap.size ≤ b) ∧ Below w.heap.size w w4 := by
  obtain ⟨l1, a1, n1, g1, z01⟩ := e1
  have lt1 := l1.lt
  have lt2 := l2.lt
  have z1 := b2.size
  have z2 := b3.size
  have z0 := hs0.size
  refine ⟨.node w3.heap.size k h v lt rt, rfl, ⟨hbn, ((l1.below b2).below b3).below b4, (l2.below b3).below b4⟩, ⟨rfl, rfl, rfl, a1, a2⟩, ?_, ?_, hs4⟩
  · simp only [Tr.blks]
    refine List.nodup_cons.2 ⟨fun hm => ?_, List.nodup_append.2 ⟨n1, n2, fun x hx y hy e => ?_⟩⟩
    · rcases List.mem_append.1 hm with hm | hm
      · have := lt1 _ hm; omega
      · have := lt2 _ hm; omega
    · subst e
      have := lt1 _ hx
      have := g2 _ hy
      omega
  · intro c hc
    simp only [Tr.blks, List.mem_cons, List.mem_append] at hc
    rcases hc with rfl | hc | hc
    · omega
    · have := g1 c hc; omega
    · have := g2 c hc; omega
set_option maxRecDepth 100000 in
set_option maxHeartbeats 3200000 in
theorem foldCopy_any (bo ba : Nat) (t : Tr) (hk : t.keys.length ≤ 2000) : ∀ w, Lies w t → w.cell? ⟨bo, 0, none⟩ = some (.func (.func 58) #[] #[]) → w.cell? ⟨ba, 0, none⟩ = some (.func (.func 76) #[] #[.pointer (some ⟨bo, 0, none⟩), .pointer (some ⟨ba, 0, none⟩)]) →
    Calls Try.prog 76 #[.pointer (ptr t), .pointer (some ⟨bo, 0, none⟩), .pointer (some ⟨ba, 0, none⟩)] w fun e w' => ∃ t', e = .returned (.pointer (ptr t')) ∧ Lies w' t' ∧ Alike t t' ∧ t'.blks.Nodup ∧ (∀ b ∈ t'.blks, w.heap.size ≤ b) ∧ Below w.heap.size w w' := by
  induction t with
  | nil =>
    intro w _ _ _
    simp only [ptr]
    go_enter Try.func76, Try.ntmps76
    go_wp2_with fail
    go_ret
    exact ⟨.nil, rfl, trivial, trivial, by simp [Tr.blks], fun b hb => by simp [Tr.blks] at hb, Below.refl _ _⟩
  | node b k h v l r ihl ihr =>
    intro w hl ho ha
    have hkl : l.keys.length ≤ 2000 := by simp only [Tr.keys, List.length_cons, List.length_append] at hk; omega
    have hkr : r.keys.length ≤ 2000 := by simp only [Tr.keys, List.length_cons, List.length_append] at hk; omega
    have hks : l.keys.length + r.keys.length ≤ 2000 := by simp only [Tr.keys, List.length_cons, List.length_append] at hk; omega
    have HS : Hid (∀ w', Below w.heap.size w w' → w'.cell? ⟨b, 0, none⟩ = some (.int .u32 (kx k)) ∧ w'.cell? ⟨b, 1, none⟩ = some (.int .i64 (kn k)) ∧ w'.cell? ⟨b, 2, none⟩ = some (.bool h) ∧ w'.cell? ⟨b, 3, none⟩ = some (.int .i64 v) ∧ w'.cell? ⟨b, 4, none⟩ = some (.pointer (ptr l)) ∧ w'.cell? ⟨b, 5, none⟩ = some (.pointer (ptr r)) ∧
        w'.cell? ⟨bo, 0, none⟩ = some (.func (.func 58) #[] #[]) ∧ w'.cell? ⟨ba, 0, none⟩ = some (.func (.func 76) #[] #[.pointer (some ⟨bo, 0, none⟩), .pointer (some ⟨ba, 0, none⟩)])) := Lib.hid (fun w' hb => by
      obtain ⟨c0, c1, c2, c3, c4, c5⟩ := cellN (hl.1.below hb hl.1.lt)
      exact ⟨c0, c1, c2, c3, c4, c5, (hb.cell (p := ⟨bo, 0, none⟩) (World.block_lt_of_cell? _ _ ho)).trans ho, (hb.cell (p := ⟨ba, 0, none⟩) (World.block_lt_of_cell? _ _ ha)).trans ha⟩)
    have HL := Lib.hid (fun (W : World) (hW : Below w.heap.size w W) => ihl hkl W (hl.2.1.keep fun c hc => hW.block c (hl.2.1.lt c hc)) (HS.out W hW).2.2.2.2.2.2.1 (HS.out W hW).2.2.2.2.2.2.2)
    have HR := Lib.hid (fun (W : World) (hW : Below w.heap.size w W) => ihr hkr W (hl.2.2.keep fun c hc => hW.block c (hl.2.2.lt c hc)) (HS.out W hW).2.2.2.2.2.2.1 (HS.out W hW).2.2.2.2.2.2.2)
    have hlt := hl.1.lt
    clear ihl ihr hl ho ha
    simp only [ptr]
    go_enter Try.func76, Try.ntmps76
    go_wp2_with fail
    have hs0 : Below w.heap.size w w.drew := below_drew w
    refine wp_region_noPanic ?_
    refine wp_region_held_drew (S := fun W => Below w.heap.size w W) (by kernel_rfl) hs0 ?_
    intro _
    generalize w.drew = w0 at *
    refine wpAnyH_take (i := 0) (v := ?v1) (by rw [List.getElem?_toArray]; exact rfl) (by kernel_rfl) (by kernel_rfl) (by kernel_rfl) (fun _ _ _ h => h) (Or.inl ⟨by rfl, ?hy1⟩) (by assumption) ?rest1
    case hy1 => intro w hSw; (try dsimp only at hSw); obtain ⟨k0, k1, k2, k3, k4, k5, k6, k7⟩ := HS.out w hSw; go_simp; (try with_reducible rfl)
    try simp only [Act.put, List.setIfInBounds_toArray, List.set_cons_zero, List.set_cons_succ]
    refine wpAnyH_take (i := 1) (v := ?v2) (by rw [List.getElem?_toArray]; exact rfl) (by kernel_rfl) (by kernel_rfl) (by kernel_rfl) (fun _ _ _ h => h) (Or.inl ⟨by rfl, ?hy2⟩) (by assumption) ?rest2
    case hy2 => intro w hSw; (try dsimp only at hSw); obtain ⟨k0, k1, k2, k3, k4, k5, k6, k7⟩ := HS.out w hSw; go_simp; (try with_reducible rfl)
    try simp only [Act.put, List.setIfInBounds_toArray, List.set_cons_zero, List.set_cons_succ]
    refine wpAnyH_take (i := 2) (v := ?v3) (by rw [List.getElem?_toArray]; exact rfl) (by kernel_rfl) (by kernel_rfl) (by kernel_rfl) (fun _ _ _ h => h) (Or.inl ⟨by rfl, ?hy3⟩) (by assumption) ?rest3
    case hy3 => intro w hSw; (try dsimp only at hSw); obtain ⟨k0, k1, k2, k3, k4, k5, k6, k7⟩ := HS.out w hSw; go_simp; (try with_reducible rfl)
    try simp only [Act.put, List.setIfInBounds_toArray, List.set_cons_zero, List.set_cons_succ]
    refine wpAnyH_take (i := 3) (v := ?v4) (by rw [List.getElem?_toArray]; exact rfl) (by kernel_rfl) (by kernel_rfl) (by kernel_rfl) (fun _ _ _ h => h) (Or.inl ⟨by rfl, ?hy4⟩) (by assumption) ?rest4
    case hy4 => intro w hSw; (try dsimp only at hSw); obtain ⟨k0, k1, k2, k3, k4, k5, k6, k7⟩ := HS.out w hSw; go_simp; (try with_reducible rfl)
    try simp only [Act.put, List.setIfInBounds_toArray, List.set_cons_zero, List.set_cons_succ]
    refine wpAnyH_take (i := 4) (v := ?v5) (by rw [List.getElem?_toArray]; exact rfl) (by kernel_rfl) (by kernel_rfl) (by kernel_rfl) (fun _ _ _ h => h) (Or.inl ⟨by rfl, ?hy5⟩) (by assumption) ?rest5
    case hy5 => intro w hSw; (try dsimp only at hSw); obtain ⟨k0, k1, k2, k3, k4, k5, k6, k7⟩ := HS.out w hSw; go_simp; (try with_reducible rfl)
    try simp only [Act.put, List.setIfInBounds_toArray, List.set_cons_zero, List.set_cons_succ]
    refine wpAnyH_take (i := 5) (v := ?v6) (by rw [List.getElem?_toArray]; exact rfl) (by kernel_rfl) (by kernel_rfl) (by kernel_rfl) (fun _ _ _ h => h) (Or.inl ⟨by rfl, ?hy6⟩) (by assumption) ?rest6
    case hy6 => intro w hSw; (try dsimp only at hSw); obtain ⟨k0, k1, k2, k3, k4, k5, k6, k7⟩ := HS.out w hSw; go_simp; (try with_reducible rfl)
    try simp only [Act.put, List.setIfInBounds_toArray, List.set_cons_zero, List.set_cons_succ]
    refine wpAnyH_take (i := 6) (v := ?v7) (by rw [List.getElem?_toArray]; exact rfl) (by kernel_rfl) (by kernel_rfl) (by kernel_rfl) (fun _ _ _ h => h) (Or.inl ⟨by rfl, ?hy7⟩) (by assumption) ?rest7
    case hy7 => intro w hSw; (try dsimp only at hSw); obtain ⟨k0, k1, k2, k3, k4, k5, k6, k7⟩ := HS.out w hSw; go_simp; (try with_reducible rfl)
    try simp only [Act.put, List.setIfInBounds_toArray, List.set_cons_zero, List.set_cons_succ]
    refine wpAnyH_take (i := 7) (v := ?v8) (by rw [List.getElem?_toArray]; exact rfl) (by kernel_rfl) (by kernel_rfl) (by kernel_rfl) (fun _ _ _ h => h) (Or.inl ⟨by rfl, ?hy8⟩) (by assumption) ?rest8
    case hy8 => intro w hSw; (try dsimp only at hSw); obtain ⟨k0, k1, k2, k3, k4, k5, k6, k7⟩ := HS.out w hSw; go_simp; (try with_reducible rfl)
    try simp only [Act.put, List.setIfInBounds_toArray, List.set_cons_zero, List.set_cons_succ]
    refine wpAnyH_take (i := 8) (v := ?v9) (by rw [List.getElem?_toArray]; exact rfl) (by kernel_rfl) (by kernel_rfl) (by kernel_rfl) (fun _ _ _ h => h) (Or.inl ⟨by rfl, ?hy9⟩) (by assumption) ?rest9
    case hy9 => intro w hSw; (try dsimp only at hSw); obtain ⟨k0, k1, k2, k3, k4, k5, k6, k7⟩ := HS.out w hSw; go_simp; (try with_reducible rfl)
    try simp only [Act.put, List.setIfInBounds_toArray, List.set_cons_zero, List.set_cons_succ]
    refine wpAnyH_take (i := 9) (v := ?v10) (by rw [List.getElem?_toArray]; exact rfl) (by kernel_rfl) (by kernel_rfl) (by kernel_rfl) (fun _ _ _ h => h) (Or.inl ⟨by rfl, ?hy10⟩) (by assumption) ?rest10
    case hy10 => intro w hSw; (try dsimp only at hSw); obtain ⟨k0, k1, k2, k3, k4, k5, k6, k7⟩ := HS.out w hSw; go_simp; (try with_reducible rfl)
    try simp only [Act.put, List.setIfInBounds_toArray, List.set_cons_zero, List.set_cons_succ]
    refine wpAnyH_take (i := 11) (v := ?v11) (by rw [List.getElem?_toArray]; exact rfl) (by kernel_rfl) (by kernel_rfl) (by kernel_rfl) (fun _ _ _ h => h) (Or.inl ⟨by rfl, ?hy11⟩) (by assumption) ?rest11
    case hy11 => intro w hSw; (try dsimp only at hSw); obtain ⟨k0, k1, k2, k3, k4, k5, k6, k7⟩ := HS.out w hSw; go_simp; (try with_reducible rfl)
    try simp only [Act.put, List.setIfInBounds_toArray, List.set_cons_zero, List.set_cons_succ]
    refine wpAnyH_take (i := 12) (v := ?v12) (by rw [List.getElem?_toArray]; exact rfl) (by kernel_rfl) (by kernel_rfl) (by kernel_rfl) (fun _ _ _ h => h) (Or.inl ⟨by rfl, ?hy12⟩) (by assumption) ?rest12
    case hy12 => intro w hSw; (try dsimp only at hSw); obtain ⟨k0, k1, k2, k3, k4, k5, k6, k7⟩ := HS.out w hSw; go_simp; (try with_reducible rfl)
    try simp only [Act.put, List.setIfInBounds_toArray, List.set_cons_zero, List.set_cons_succ]
    refine wpAnyH_take (i := 13) (v := ?v13) (by rw [List.getElem?_toArray]; exact rfl) (by kernel_rfl) (by kernel_rfl) (by kernel_rfl) (fun _ _ _ h => h) (Or.inl ⟨by rfl, ?hy13⟩) (by assumption) ?rest13
    case hy13 => intro w hSw; (try dsimp only at hSw); obtain ⟨k0, k1, k2, k3, k4, k5, k6, k7⟩ := HS.out w hSw; go_simp; (try with_reducible rfl)
    try simp only [Act.put, List.setIfInBounds_toArray, List.set_cons_zero, List.set_cons_succ]
    refine wpAnyH_take (i := 14) (v := ?v14) (by rw [List.getElem?_toArray]; exact rfl) (by kernel_rfl) (by kernel_rfl) (by kernel_rfl) (fun _ _ _ h => h) (Or.inl ⟨by rfl, ?hy14⟩) (by assumption) ?rest14
    case hy14 => intro w hSw; (try dsimp only at hSw); obtain ⟨k0, k1, k2, k3, k4, k5, k6, k7⟩ := HS.out w hSw; go_simp; (try with_reducible rfl)
    try simp only [Act.put, List.setIfInBounds_toArray, List.set_cons_zero, List.set_cons_succ]
    refine wpAnyH_take (i := 15) (v := ?v15) (by rw [List.getElem?_toArray]; exact rfl) (by kernel_rfl) (by kernel_rfl) (by kernel_rfl) (fun _ _ _ h => h) (Or.inl ⟨by rfl, ?hy15⟩) (by assumption) ?rest15
    case hy15 => intro w hSw; (try dsimp only at hSw); obtain ⟨k0, k1, k2, k3, k4, k5, k6, k7⟩ := HS.out w hSw; go_simp; (try with_reducible rfl)
    try simp only [Act.put, List.setIfInBounds_toArray, List.set_cons_zero, List.set_cons_succ]
    refine wpAnyH_take (i := 16) (v := ?v16) (by rw [List.getElem?_toArray]; exact rfl) (by kernel_rfl) (by kernel_rfl) (by kernel_rfl) (fun _ _ _ h => h) (Or.inl ⟨by rfl, ?hy16⟩) (by assumption) ?rest16
    case hy16 => intro w hSw; (try dsimp only at hSw); obtain ⟨k0, k1, k2, k3, k4, k5, k6, k7⟩ := HS.out w hSw; go_simp; (try with_reducible rfl)
    try simp only [Act.put, List.setIfInBounds_toArray, List.set_cons_zero, List.set_cons_succ]
    refine ready_call (i := 10) (by kernel_rfl) (by rw [List.getElem?_toArray]; exact rfl) (by kernel_rfl) (fun K1 hK1 => ?_)
    go_simp
    refine (HL.out _ hs0).mono ?_
    rintro e w1 ⟨lt, rfl, hl1, ha1, hn1, hg1, hb1⟩
    have HE1 := Lib.hid (And.intro hl1 (And.intro ha1 (And.intro hn1 (And.intro hg1 hb1.size))))
    clear hl1 ha1 hn1 hg1
    go_simp
    have hs1 := hs0.trans (hb1.mono hs0.size)
    refine hK1.out _ _ hs1 (fun _ => ?_)
    clear hK1 K1
    try simp only [Act.put, List.setIfInBounds_toArray, List.set_cons_zero, List.set_cons_succ]
    refine ready_call (i := 17) (by kernel_rfl) (by rw [List.getElem?_toArray]; exact rfl) (by kernel_rfl) (fun K1 hK1 => ?_)
    go_simp
    refine (HR.out _ hs1).mono ?_
    rintro e w2 ⟨rt, rfl, hl2, ha2, hn2, hg2, hb2⟩
    have HE2 := Lib.hid (And.intro hl2 (And.intro ha2 (And.intro hn2 (And.intro hg2 hb2))))
    clear hl2 ha2 hn2 hg2
    go_simp
    have hs2 := hs1.trans (hb2.mono hs1.size)
    refine hK1.out _ _ hs2 (fun _ => ?_)
    clear hK1 K1
    try simp only [Act.put, List.setIfInBounds_toArray, List.set_cons_zero, List.set_cons_succ]
    refine ready_call (i := 18) (by kernel_rfl) (by rw [List.getElem?_toArray]; exact rfl) (by kernel_rfl) (fun K1 hK1 => ?_)
    go_simp
    have hbx := Blk.new w2 71 #[.pointer (ptr lt), .pointer (ptr rt)]
    have hs3 := hs2.trans ((box_below w2 (.cells #[.pointer (ptr lt), .pointer (ptr rt)] 71)).mono hs2.size)
    refine hK1.out _ _ hs3 (fun _ => ?_)
    clear hK1 K1
    try simp only [Act.put, List.setIfInBounds_toArray, List.set_cons_zero, List.set_cons_succ]
    generalize hW3 : (w2.alloc (.cells #[.pointer (ptr lt), .pointer (ptr rt)] 71)) = w3 at *
    refine ready_call (i := 19) (by kernel_rfl) (by rw [List.getElem?_toArray]; exact rfl) (by kernel_rfl) (fun K1 hK1 => ?_)
    go_simp
    have hbA : Below w2.heap.size w2 w3 := by rw [← hW3]; exact box_below _ _
    refine (copied_any k h v (ptr l) (ptr r) _ (ptr lt) (ptr rt) w3 hbx).mono ?_
    rintro e w4 ⟨rfl, hbn, hb4⟩
    have HE3 := Lib.hid (And.intro hbA (And.intro hbn hb4))
    clear hbA hbn
    go_simp
    have hs4 := hs3.trans (hb4.mono hs3.size)
    refine hK1.out _ _ hs4 (fun _ => ?_)
    clear hK1 K1
    try simp only [Act.put, List.setIfInBounds_toArray, List.set_cons_zero, List.set_cons_succ]
    refine wpAnyH_take (i := 20) (v := ?v17) (by rw [List.getElem?_toArray]; exact rfl) (by kernel_rfl) (by kernel_rfl) (by kernel_rfl) (fun _ _ _ h => h) (Or.inl ⟨by rfl, ?hy17⟩) (by assumption) ?rest17
    case hy17 => intro w hSw; (try dsimp only at hSw); go_simp; (try with_reducible rfl)
    try simp only [Act.put, List.setIfInBounds_toArray, List.set_cons_zero, List.set_cons_succ]
    refine wpAnyH_done (by kernel_rfl) ?_ _
    refine NoPanic.normal ?_
    go_wp2_with fail
    go_ret
    exact copy_end HE1.out HE2.out.1 HE2.out.2.1 HE2.out.2.2.1 HE2.out.2.2.2.1 HE2.out.2.2.2.2 HE3.out.1 HE3.out.2.1 HE3.out.2.2 hs0 hs4
theorem foldCopy_top (t : Tr) (hk : t.keys.length ≤ 2000) (w : World) (hl : Lies w t) :
    Calls Try.prog 57 #[.pointer (ptr t), .func (.func 58) #[] #[]] w fun e w' => ∃ t', e = .returned (.pointer (ptr t')) ∧ Lies w' t' ∧ Alike t t' ∧ t'.blks.Nodup ∧ (∀ b ∈ t'.blks, w.heap.size ≤ b) ∧ Below w.heap.size w w' := by
  have hb2 := two_below w (.cells #[.func (.func 58) #[] #[]] 103) (.cells #[.func (.func 76) #[] #[.pointer (some ⟨w.heap.size, 0, none⟩), .pointer (some ⟨w.heap.size + 1, 0, none⟩)]] 126)
  have hbo := (Blk.new w 103 #[.func (.func 58) #[] #[]]).alloc (.cells #[.func (.func 76) #[] #[.pointer (some ⟨w.heap.size, 0, none⟩), .pointer (some ⟨w.heap.size + 1, 0, none⟩)]] 126)
  have hba := Blk.new (w.alloc (.cells #[.func (.func 58) #[] #[]] 103)) 126 #[.func (.func 76) #[] #[.pointer (some ⟨w.heap.size, 0, none⟩), .pointer (some ⟨w.heap.size + 1, 0, none⟩)]]
  have hs1 : (w.alloc (.cells #[.func (.func 58) #[] #[]] 103)).heap.size = w.heap.size + 1 := by simp
  rw [hs1] at hba
  have HX := Lib.hid (And.intro hb2 (And.intro hbo hba))
  have HL := Lib.hid hl
  clear hb2 hbo hba hl hs1
  go_enter Try.func57, Try.ntmps57
  go_wp2_with fail
  refine (foldCopy_any w.heap.size (w.heap.size + 1) t hk _ (HL.out.keep fun c hc => HX.out.1.block c (HL.out.lt c hc)) (HX.out.2.1.cell 0) (HX.out.2.2.cell 0)).mono ?_
  rintro e w1 ⟨t', rfl, a1, a2, a3, a4, hb1⟩
  have HR := Lib.hid (And.intro a1 (And.intro a2 (And.intro a3 a4)))
  have HB1 := Lib.hid (HX.out.1.trans (hb1.mono HX.out.1.size))
  clear a1 a2 a3 a4 hb1
  go_wp2_with fail
  go_ret
  exact ⟨t', rfl, HR.out.1, HR.out.2.1, HR.out.2.2.1, fun b hb => Nat.le_trans HX.out.1.size (HR.out.2.2.2 b hb), HB1.out⟩
set_option maxRecDepth 100000 in
set_option maxHeartbeats 1600000 in
theorem copyT_any (w : World) (g : Nat) (L : List (Key × Int)) (hcap : L.length ≤ 512) (w0 : World) (h : OwnT w g L w0) :
    Calls Try.prog 29 #[.pointer (some ⟨g, 0, none⟩)] w0 fun e w' => ∃ g', e = .returned (.pointer (some ⟨g', 0, none⟩)) ∧ OwnT w0 g' L w' ∧ Below w0.heap.size w0 w' := by
  obtain ⟨t, hT, rfl, _, _⟩ := h
  have HT := Lib.hid hT
  have hkf := keys_fit hT.wf hcap
  have HS : Hid (∀ w', Below w0.heap.size w0 w' → w'.cell? ⟨g, 0, none⟩ = some (.bool true) ∧ w'.cell? ⟨g, 1, none⟩ = some (.pointer (ptr t)) ∧ w'.cell? ⟨g, 2, none⟩ = some (.int .i64 t.rows.length)) := Lib.hid (fun w' hb => by
    have h' := hT.own.below hb hT.own.lt
    exact ⟨h'.cell 0, h'.cell 1, h'.cell 2⟩)
  have HL := Lib.hid (fun (W : World) (hW : Below w0.heap.size w0 W) => foldCopy_top t hkf W (HT.out.lies.below hW))
  have hlt := hT.own.lt
  clear hT
  go_enter Try.func29, Try.ntmps29
  go_wp2_with fail
  refine (isNone_any _ g _ _ HT.out.own).mono ?_
  rintro e w1 ⟨rfl, rfl⟩
  go_wp2_with fail
  have hs0 : Below w0.heap.size w0 w0.drew := below_drew w0
  refine wp_region_noPanic ?_
  refine wp_region_held_drew (S := fun W => Below w0.heap.size w0 W) (by kernel_rfl) hs0 ?_
  intro _
  generalize w0.drew = w1 at *
  refine wpAnyH_take (i := 0) (v := ?v18) (by rw [List.getElem?_toArray]; exact rfl) (by kernel_rfl) (by kernel_rfl) (by kernel_rfl) (fun _ _ _ h => h) (Or.inl ⟨by rfl, ?hy18⟩) (by assumption) ?rest18
  case hy18 => intro w hSw; (try dsimp only at hSw); obtain ⟨k0, k1, k2⟩ := HS.out w hSw; go_simp; (try with_reducible rfl)
  try simp only [Act.put, List.setIfInBounds_toArray, List.set_cons_zero, List.set_cons_succ]
  refine wpAnyH_take (i := 1) (v := ?v19) (by rw [List.getElem?_toArray]; exact rfl) (by kernel_rfl) (by kernel_rfl) (by kernel_rfl) (fun _ _ _ h => h) (Or.inl ⟨by rfl, ?hy19⟩) (by assumption) ?rest19
  case hy19 => intro w hSw; (try dsimp only at hSw); obtain ⟨k0, k1, k2⟩ := HS.out w hSw; go_simp; (try with_reducible rfl)
  try simp only [Act.put, List.setIfInBounds_toArray, List.set_cons_zero, List.set_cons_succ]
  refine wpAnyH_take (i := 2) (v := ?v20) (by rw [List.getElem?_toArray]; exact rfl) (by kernel_rfl) (by kernel_rfl) (by kernel_rfl) (fun _ _ _ h => h) (Or.inl ⟨by rfl, ?hy20⟩) (by assumption) ?rest20
  case hy20 => intro w hSw; (try dsimp only at hSw); obtain ⟨k0, k1, k2⟩ := HS.out w hSw; go_simp; (try with_reducible rfl)
  try simp only [Act.put, List.setIfInBounds_toArray, List.set_cons_zero, List.set_cons_succ]
  refine wpAnyH_take (i := 3) (v := ?v21) (by rw [List.getElem?_toArray]; exact rfl) (by kernel_rfl) (by kernel_rfl) (by kernel_rfl) (fun _ _ _ h => h) (Or.inl ⟨by rfl, ?hy21⟩) (by assumption) ?rest21
  case hy21 => intro w hSw; (try dsimp only at hSw); obtain ⟨k0, k1, k2⟩ := HS.out w hSw; go_simp; (try with_reducible rfl)
  try simp only [Act.put, List.setIfInBounds_toArray, List.set_cons_zero, List.set_cons_succ]
  refine wpAnyH_take (i := 5) (v := ?v22) (by rw [List.getElem?_toArray]; exact rfl) (by kernel_rfl) (by kernel_rfl) (by kernel_rfl) (fun _ _ _ h => h) (Or.inl ⟨by rfl, ?hy22⟩) (by assumption) ?rest22
  case hy22 => intro w hSw; (try dsimp only at hSw); obtain ⟨k0, k1, k2⟩ := HS.out w hSw; go_simp; (try with_reducible rfl)
  try simp only [Act.put, List.setIfInBounds_toArray, List.set_cons_zero, List.set_cons_succ]
  refine wpAnyH_take (i := 6) (v := ?v23) (by rw [List.getElem?_toArray]; exact rfl) (by kernel_rfl) (by kernel_rfl) (by kernel_rfl) (fun _ _ _ h => h) (Or.inl ⟨by rfl, ?hy23⟩) (by assumption) ?rest23
  case hy23 => intro w hSw; (try dsimp only at hSw); obtain ⟨k0, k1, k2⟩ := HS.out w hSw; go_simp; (try with_reducible rfl)
  try simp only [Act.put, List.setIfInBounds_toArray, List.set_cons_zero, List.set_cons_succ]
  refine wpAnyH_take (i := 7) (v := ?v24) (by rw [List.getElem?_toArray]; exact rfl) (by kernel_rfl) (by kernel_rfl) (by kernel_rfl) (fun _ _ _ h => h) (Or.inl ⟨by rfl, ?hy24⟩) (by assumption) ?rest24
  case hy24 => intro w hSw; (try dsimp only at hSw); obtain ⟨k0, k1, k2⟩ := HS.out w hSw; go_simp; (try with_reducible rfl)
  try simp only [Act.put, List.setIfInBounds_toArray, List.set_cons_zero, List.set_cons_succ]
  refine wpAnyH_take (i := 8) (v := ?v25) (by rw [List.getElem?_toArray]; exact rfl) (by kernel_rfl) (by kernel_rfl) (by kernel_rfl) (fun _ _ _ h => h) (Or.inl ⟨by rfl, ?hy25⟩) (by assumption) ?rest25
  case hy25 => intro w hSw; (try dsimp only at hSw); obtain ⟨k0, k1, k2⟩ := HS.out w hSw; go_simp; (try with_reducible rfl)
  try simp only [Act.put, List.setIfInBounds_toArray, List.set_cons_zero, List.set_cons_succ]
  refine ready_call (i := 4) (by kernel_rfl) (by rw [List.getElem?_toArray]; exact rfl) (by kernel_rfl) (fun K1 hK1 => ?_)
  go_simp
  refine (HL.out _ hs0).mono ?_
  rintro e w2 ⟨t', rfl, a1, a2, a3, a4, hb2⟩
  go_simp
  have hs2 := hs0.trans (hb2.mono hs0.size)
  have HR := Lib.hid (And.intro a1 (And.intro a2 (And.intro a3 (And.intro a4 hs0.size))))
  clear a1 a2 a3 a4 hb2
  refine hK1.out _ _ hs2 (fun _ => ?_)
  clear hK1 K1
  try simp only [Act.put, List.setIfInBounds_toArray, List.set_cons_zero, List.set_cons_succ]
  refine ready_call (i := 9) (by kernel_rfl) (by rw [List.getElem?_toArray]; exact rfl) (by kernel_rfl) (fun K1 hK1 => ?_)
  go_simp
  refine hK1.out _ _ hs2 (fun _ => ?_)
  clear hK1 K1
  try simp only [Act.put, List.setIfInBounds_toArray, List.set_cons_zero, List.set_cons_succ]
  refine ready_call (i := 10) (by kernel_rfl) (by rw [List.getElem?_toArray]; exact rfl) (by kernel_rfl) (fun K1 hK1 => ?_)
  go_simp
  have hnew := Blk.new w2 73 #[.bool true, .pointer (ptr t'), .int .i64 t.rows.length]
  have hbx := box_below w2 (.cells #[.bool true, .pointer (ptr t'), .int .i64 t.rows.length] 73)
  have hs3 := hs2.trans (hbx.mono hs2.size)
  refine hK1.out _ _ hs3 (fun _ => ?_)
  clear hK1 K1
  try simp only [Act.put, List.setIfInBounds_toArray, List.set_cons_zero, List.set_cons_succ]
  generalize (w2.alloc (.cells #[.bool true, .pointer (ptr t'), .int .i64 t.rows.length] 73)) = w3 at *
  refine wpAnyH_take (i := 11) (v := ?v26) (by rw [List.getElem?_toArray]; exact rfl) (by kernel_rfl) (by kernel_rfl) (by kernel_rfl) (fun _ _ _ h => h) (Or.inl ⟨by rfl, ?hy26⟩) (by assumption) ?rest26
  case hy26 => intro w hSw; (try dsimp only at hSw); obtain ⟨k0, k1, k2⟩ := HS.out w hSw; go_simp; (try with_reducible rfl)
  try simp only [Act.put, List.setIfInBounds_toArray, List.set_cons_zero, List.set_cons_succ]
  refine wpAnyH_done (by kernel_rfl) ?_ _
  refine NoPanic.normal ?_
  have hw1 := HT.out.wf
  have HF : Hid (OwnT w0 w2.heap.size t.rows w3) := Lib.hid ⟨t', ⟨by rw [HR.out.2.1.rows]; exact hnew, HR.out.1.below hbx, HR.out.2.1.wf hw1, List.nodup_cons.2 ⟨fun hm => by have := HR.out.1.lt _ hm; omega, HR.out.2.2.1⟩⟩, HR.out.2.1.rows, fun b hb => by
    rcases List.mem_cons.1 hb with rfl | hb
    · exact hs2.size
    · exact Nat.le_trans HR.out.2.2.2.2 (HR.out.2.2.2.1 b hb), hs3⟩
  have HS3 := Lib.hid hs3
  clear hnew hbx hs0 hs2 hs3
  go_wp2_with fail
  go_ret
  exact ⟨_, rfl, HF.out, HS3.out⟩
end T6
end Go.Proofs.Ytghkacciihocdaa

namespace Go.Proofs.Ytghkacciihocdaa
open Go Go.RowKit Go.Shelf Go.Sort
attribute [local go_sem] Oper.semAt_some
namespace T6

def TwoT (w : World) (g : Nat) (L : List (Key × Int)) (h : Nat) (M : List (Key × Int)) (W : World) : Prop :=
  ∃ t s, Trie W g t ∧ Trie W h s ∧ t.rows = L ∧ s.rows = M ∧ (∀ b ∈ g :: t.blks, b ∉ h :: s.blks) ∧ (∀ b ∈ g :: t.blks, w.heap.size ≤ b) ∧ (∀ b ∈ h :: s.blks, w.heap.size ≤ b) ∧ Below w.heap.size w W
theorem TwoT.swap {w W : World} {g h : Nat} {L M : List (Key × Int)} (H : TwoT w g L h M W) : TwoT w h M g L W := by
  obtain ⟨t, s, a1, a2, a3, a4, a5, a6, a7, a8⟩ := H
  exact ⟨s, t, a2, a1, a4, a3, fun b hb hb' => a5 b hb' hb, a7, a6, a8⟩
theorem TwoT.below {w W W' : World} {g h : Nat} {L M : List (Key × Int)} (H : TwoT w g L h M W) (hb : Below W.heap.size W W') : TwoT w g L h M W' := by
  obtain ⟨t, s, a1, a2, a3, a4, a5, a6, a7, a8⟩ := H
  exact ⟨t, s, a1.below hb, a2.below hb, a3, a4, a5, a6, a7, a8.trans (hb.mono a8.size)⟩
theorem TwoT.one {w W : World} {g h : Nat} {L M : List (Key × Int)} (H : TwoT w g L h M W) : OwnT w g L W := by
  obtain ⟨t, s, a1, a2, a3, a4, a5, a6, a7, a8⟩ := H
  exact ⟨t, a1, a3, a6, a8⟩
theorem TwoT.two {w W : World} {g h : Nat} {L M : List (Key × Int)} (H : TwoT w g L h M W) : OwnT w h M W := H.swap.one
/-- A new one beside one that is there. -/
theorem TwoT.new {w w0 W W' : World} {g h : Nat} {L M : List (Key × Int)} (H : OwnT w g L W) (hb : Below W.heap.size W W') (H2 : OwnT w0 h M W') (h0 : W.heap.size ≤ w0.heap.size) : TwoT w g L h M W' := by
  obtain ⟨t, a1, a2, a3, a4⟩ := H
  obtain ⟨s, b1, b2, b3, b4⟩ := H2
  have hlt : ∀ b ∈ g :: t.blks, b < W.heap.size := fun b hb => by
    rcases List.mem_cons.1 hb with rfl | hb
    · exact a1.own.lt
    · exact a1.lies.lt b hb
  refine ⟨t, s, a1.below hb, b1, a2, b2, fun b hb1 hb2 => ?_, a3, fun b hb1 => ?_, a4.trans (hb.mono a4.size)⟩
  · have := hlt b hb1
    have := b3 b hb2
    omega
  · have := b3 b hb1
    have := a4.size
    omega
theorem TwoT.turned {w W W' : World} {g h : Nat} {t : Tr} {L' M : List (Key × Int)} (ht : Trie W g t) (H : ∃ s, Trie W h s ∧ s.rows = M ∧ (∀ b ∈ g :: t.blks, b ∉ h :: s.blks) ∧ (∀ b ∈ g :: t.blks, w.heap.size ≤ b) ∧ (∀ b ∈ h :: s.blks, w.heap.size ≤ b) ∧ Below w.heap.size w W)
    (hT : Turned W g t L' W') : TwoT w g L' h M W' := by
  obtain ⟨s, a2, a4, a5, a6, a7, a8⟩ := H
  have hO : OwnT w g L' W' := OwnT.turned a6 a8 hT
  have hbel := hO.bel
  obtain ⟨t', b1, b2, b3, b4⟩ := hT
  have hlt : ∀ b ∈ h :: s.blks, b < W.heap.size := fun b hb => by
    rcases List.mem_cons.1 hb with rfl | hb
    · exact a2.own.lt
    · exact a2.lies.lt b hb
  have hsame : ∀ b ∈ h :: s.blks, W'.heap[b]? = W.heap[b]? := fun b hb => by
    have hl := hlt b hb
    rw [Array.getElem?_eq_getElem hl]
    exact b4.same b _ (Array.getElem?_eq_getElem hl) (fun e => a5 b e hb) (.inl hl)
  refine ⟨t', s, b1, ⟨?_, a2.lies.keep fun b hb => hsame b (by simp [hb]), a2.wf, a2.nd⟩, b2, a4, fun b hb hb' => ?_, fun b hb => ?_, a7, hbel⟩
  · have := hsame h (by simp)
    unfold Blk at *
    rw [this]
    exact a2.own
  · rcases List.mem_cons.1 hb with rfl | hb
    · exact a5 _ (by simp) hb'
    · rcases b3 b hb with e | e
      · exact a5 b (by simp [e]) hb'
      · have := hlt b hb'
        omega
  · rcases List.mem_cons.1 hb with rfl | hb
    · exact a6 _ (by simp)
    · rcases b3 b hb with e | e
      · exact a6 b (by simp [e])
      · exact Nat.le_trans a8.size e
theorem put2_any (p : Key) (hp : p.length ≤ 32) (v : Int) (w : World) (g h : Nat) (L M : List (Key × Int)) (hcap : L.length < 512) (W : World) (H : TwoT w g L h M W) :
    Calls Try.prog 19 #[.pointer (some ⟨g, 0, none⟩), pfx (kx p) (kn p), .int .i64 v] W fun e w' => e = .returned (.tuple #[.int .i64 (valO (getR L p)), .bool (getR L p).isSome, .int .i64 0]) ∧ TwoT w g (putL L p v) h M w' ∧ TreeOnly W w' := by
  obtain ⟨t, s, a1, a2, rfl, a4, a5, a6, a7, a8⟩ := H
  exact (put6_any t p hp v W g a1 (by omega) (.inr hcap)).mono fun _ _ ⟨he, hT⟩ => ⟨he, TwoT.turned a1 ⟨s, a2, a4, a5, a6, a7, a8⟩ hT, hT.only a1⟩
theorem take2_any (p : Key) (hp : p.length ≤ 32) (w : World) (g h : Nat) (L M : List (Key × Int)) (hcap : L.length ≤ 512) (W : World) (H : TwoT w g L h M W) :
    Calls Try.prog 25 #[.pointer (some ⟨g, 0, none⟩), pfx (kx p) (kn p)] W fun e w' => e = .returned (.tuple #[.int .i64 (valO (getR L p)), .bool (getR L p).isSome, .int .i64 0]) ∧ TwoT w g (takeL L p) h M w' := by
  obtain ⟨t, s, a1, a2, rfl, a4, a5, a6, a7, a8⟩ := H
  exact (take6_any t p hp W g a1 hcap).mono fun _ _ ⟨he, hT⟩ => ⟨he, TwoT.turned a1 ⟨s, a2, a4, a5, a6, a7, a8⟩ hT⟩
/-- What a put of any prefix makes of rows: nothing, if it may not be. -/
def putP (L : List (Key × Int)) (p : Int × Int) (v : Int) : List (Key × Int) := if right p.1 p.2 then putL L (bitsOf p.1 p.2) v else L
def takeP (L : List (Key × Int)) (p : Int × Int) : List (Key × Int) := if right p.1 p.2 then takeL L (bitsOf p.1 p.2) else L
def getP (L : List (Key × Int)) (p : Int × Int) : Option Int := if right p.1 p.2 then getR L (bitsOf p.1 p.2) else none
theorem putP_any (x n : Int) (x0 : 0 ≤ x) (x1 : x < 4294967296) (v : Int) (w : World) (g h : Nat) (L M : List (Key × Int)) (hcap : L.length < 512) (W : World) (H : TwoT w g L h M W) :
    Calls Try.prog 19 #[.pointer (some ⟨g, 0, none⟩), pfx x n, .int .i64 v] W fun e w' => (∃ u, e = .returned u) ∧ TwoT w g (putP L (x, n) v) h M w' ∧ TreeOnly W w' := by
  unfold putP
  by_cases hr : right x n
  · have hk := kp_bitsOf x0 x1 hr
    have := put2_any (bitsOf x n) hk.2.2 v w g h L M hcap W H
    rw [hk.1, hk.2.1] at this
    rw [if_pos hr]
    exact this.mono fun _ _ ⟨he, h1⟩ => ⟨⟨_, he⟩, h1⟩
  · rw [if_neg hr]
    exact (putNo_any _ x n x0 x1 v W (H.one.noWay hr)).mono fun _ _ ⟨he, hb⟩ => ⟨⟨_, he⟩, H.below hb, .below hb⟩
theorem takeP_any (x n : Int) (x0 : 0 ≤ x) (x1 : x < 4294967296) (w : World) (g h : Nat) (L M : List (Key × Int)) (hcap : L.length ≤ 512) (W : World) (H : TwoT w g L h M W) :
    Calls Try.prog 25 #[.pointer (some ⟨g, 0, none⟩), pfx x n] W fun e w' => (∃ u, e = .returned u) ∧ TwoT w g (takeP L (x, n)) h M w' := by
  unfold takeP
  by_cases hr : right x n
  · have hk := kp_bitsOf x0 x1 hr
    have := take2_any (bitsOf x n) hk.2.2 w g h L M hcap W H
    rw [hk.1, hk.2.1] at this
    rw [if_pos hr]
    exact this.mono fun _ _ ⟨he, h1⟩ => ⟨⟨_, he⟩, h1⟩
  · rw [if_neg hr]
    exact (takeNo_any _ x n x0 x1 W (H.one.noWay hr)).mono fun _ _ ⟨he, hb⟩ => ⟨⟨_, he⟩, H.below hb⟩
theorem getP_any (x n : Int) (x0 : 0 ≤ x) (x1 : x < 4294967296) (w : World) (g : Nat) (L : List (Key × Int)) (W : World) (H : OwnT w g L W) :
    Calls Try.prog 12 #[.pointer (some ⟨g, 0, none⟩), pfx x n] W fun e w' => e = .returned (.tuple #[.int .i64 (valO (getP L (x, n))), .bool (getP L (x, n)).isSome]) ∧ Below W.heap.size W w' := by
  unfold getP
  by_cases hr : right x n
  · have hk := kp_bitsOf x0 x1 hr
    have := getT_any (bitsOf x n) hk.2.2 w g L W H
    rw [hk.1, hk.2.1] at this
    rw [if_pos hr]
    exact this
  · rw [if_neg hr]
    exact getNo_any _ x n x0 x1 W (H.noWay hr)
theorem setCell_other {W : World} {p : Addr} {v : Value} {k : Nat} (h : k ≠ p.block) : (W.setCell p v).heap[k]? = W.heap[k]? := by
  unfold World.setCell
  split <;> simp [Array.getElem?_modify, Ne.symm h]
theorem Trie.keep {W W' : World} {g : Nat} {t : Tr} (h : Trie W g t) (hs : ∀ (b : Nat) (o : Obj), W.heap[b]? = some o → treeO o = true → W'.heap[b]? = some o) : Trie W' g t :=
  ⟨hs g _ h.own rfl, h.lies.keep fun b hb => by
    obtain ⟨o, h1, h2⟩ := lies_tree h.lies b hb
    rw [hs b o h1 h2, h1], h.wf, h.nd⟩
/-- A store into a block that is no trie's. -/
theorem TwoT.set {w W : World} {g h B : Nat} {L M : List (Key × Int)} {T : TypeId} {cs : Array Value} (H : TwoT w g L h M W) (hb : Blk W B T cs) (h1 : T ≠ 73) (h2 : T ≠ 81) (hB : w.heap.size ≤ B) (o : Nat) (v : Value) : TwoT w g L h M (W.setCell ⟨B, o, none⟩ v) := by
  obtain ⟨t, s, a1, a2, a3, a4, a5, a6, a7, a8⟩ := H
  have hs : ∀ (b : Nat) (ob : Obj), W.heap[b]? = some ob → treeO ob = true → (W.setCell ⟨B, o, none⟩ v).heap[b]? = some ob := fun b ob e1 e2 => by
    rw [setCell_other]
    · exact e1
    · intro e
      subst e
      unfold Blk at hb
      rw [hb] at e1
      cases e1
      simp [treeO, h1, h2] at e2
  exact ⟨t, s, a1.keep hs, a2.keep hs, a3, a4, a5, a6, a7, a8.setCell (by simpa using hB) _⟩
end T6
end Go.Proofs.Ytghkacciihocdaa

namespace Go.Proofs.Ytghkacciihocdaa
open Go Go.RowKit Go.Shelf Go.Sort
namespace T6

/-- Each row's key is a prefix of the list that may be. -/
def Cov (l : List (Int × Int)) (L : List (Key × Int)) : Prop := ∀ r ∈ L, ∃ j, ∃ hj : j < l.length, right (l[j]'hj).1 (l[j]'hj).2 ∧ r.1 = bitsOf (l[j]'hj).1 (l[j]'hj).2
theorem Cov.put {l : List (Int × Int)} {L : List (Key × Int)} (h : Cov l L) {i : Nat} (hi : i < l.length) (v : Int) : Cov l (putP L (l[i]'hi) v) := fun r hr => by
  unfold putP at hr
  split at hr
  case isTrue hv =>
    obtain ⟨q, u⟩ := r
    rcases put_mem.1 hr with ⟨rfl, _⟩ | ⟨_, hm⟩
    · exact ⟨i, hi, hv, rfl⟩
    · exact h _ hm
  case isFalse => exact h r hr
theorem Cov.take {l : List (Int × Int)} {L : List (Key × Int)} (h : Cov l L) (p : Int × Int) : Cov l (takeP L p) := fun r hr => by
  unfold takeP at hr
  split at hr
  · exact h r (List.mem_filter.1 hr).1
  · exact h r hr
theorem takeP_len (L : List (Key × Int)) (p : Int × Int) : (takeP L p).length ≤ L.length := by
  unfold takeP
  split
  · exact List.length_filter_le _ _
  · exact Nat.le_refl _
theorem putP_len {L : List (Key × Int)} (hs : SRow L) (p : Int × Int) (v : Int) : (putP L p v).length ≤ L.length + 1 := by
  unfold putP
  split
  · rw [put_len hs]; split <;> omega
  · omega
/-- The rows of T whose keys stand from k on in the list are those of M; the longest around A is best, if there is one. -/
structure Inv (l : List (Int × Int)) (A : Key) (T M : List (Key × Int)) (k : Nat) (f : Bool) (best : Int × Int) : Prop where
  mem : ∀ q u, (q, u) ∈ M ↔ (q, u) ∈ T ∧ ∃ j, k ≤ j ∧ ∃ hj : j < l.length, right (l[j]'hj).1 (l[j]'hj).2 ∧ q = bitsOf (l[j]'hj).1 (l[j]'hj).2
  best : (f = false ∧ best = (0, 0) ∧ ∀ q u, (q, u) ∈ M → ¬ q <+: A) ∨ (f = true ∧ ∃ q u, (q, u) ∈ M ∧ q <+: A ∧ best = (kx q, kn q) ∧ ∀ q' u', (q', u') ∈ M → q' <+: A → q'.length ≤ q.length)
theorem Inv.start (l : List (Int × Int)) (A : Key) (T : List (Key × Int)) : Inv l A T [] l.length false (0, 0) :=
  ⟨fun q u => ⟨fun h => absurd h (by simp), fun ⟨_, j, h1, h2, _⟩ => absurd h2 (by omega)⟩, .inl ⟨rfl, rfl, fun q u h => absurd h (by simp)⟩⟩
theorem Inv.skip {l : List (Int × Int)} {A : Key} {T M : List (Key × Int)} {k : Nat} {f : Bool} {best : Int × Int} (h : Inv l A T M (k + 1) f best) (hk : k < l.length) (hg : getP T (l[k]'hk) = none) : Inv l A T M k f best :=
  ⟨fun q u => (h.mem q u).trans ⟨fun ⟨a, j, b, c⟩ => ⟨a, j, by omega, c⟩, fun ⟨a, j, b, hj, c1, c2⟩ => by
    rcases Nat.lt_or_ge k j with hlt | hge
    · exact ⟨a, j, hlt, hj, c1, c2⟩
    · obtain rfl : j = k := by omega
      unfold getP at hg
      rw [if_pos c1] at hg
      exact absurd (c2 ▸ a) (get_none.1 hg u)⟩, h.best⟩
theorem Inv.put_mem {l : List (Int × Int)} {A : Key} {T M : List (Key × Int)} {k : Nat} {f : Bool} {best : Int × Int} (hT : SRow T) (h : Inv l A T M (k + 1) f best) (hk : k < l.length) {v : Int} (hg : getP T (l[k]'hk) = some v) :
    right (l[k]'hk).1 (l[k]'hk).2 ∧ (∀ q u, (q, u) ∈ putP M (l[k]'hk) v ↔ (q, u) = (bitsOf (l[k]'hk).1 (l[k]'hk).2, v) ∨ (q, u) ∈ M) ∧
      (∀ q u, (q, u) ∈ putP M (l[k]'hk) v ↔ (q, u) ∈ T ∧ ∃ j, k ≤ j ∧ ∃ hj : j < l.length, right (l[j]'hj).1 (l[j]'hj).2 ∧ q = bitsOf (l[j]'hj).1 (l[j]'hj).2) := by
  unfold getP at hg
  split at hg
  case isFalse => cases hg
  case isTrue hr =>
  have hin := (get_some hT).1 hg
  have e : ∀ q u, (q, u) ∈ putP M (l[k]'hk) v ↔ (q, u) = (bitsOf (l[k]'hk).1 (l[k]'hk).2, v) ∨ (q, u) ∈ M := fun q u => by
    unfold putP
    rw [if_pos hr, T6.put_mem, Prod.mk.injEq]
    refine ⟨fun h0 => h0.imp id And.right, fun h0 => ?_⟩
    rcases h0 with h0 | h0
    · exact .inl h0
    · by_cases hq : q = bitsOf (l[k]'hk).1 (l[k]'hk).2
      · subst hq
        have h1 := (get_some hT).2 ((h.mem _ _).1 h0).1
        rw [hg] at h1
        exact .inl ⟨rfl, (Option.some.inj h1).symm⟩
      · exact .inr ⟨hq, h0⟩
  refine ⟨hr, e, fun q u => (e q u).trans ⟨fun h0 => ?_, fun ⟨a, j, b, hj, c1, c2⟩ => ?_⟩⟩
  · rcases h0 with h0 | h0
    · cases h0
      exact ⟨hin, k, Nat.le_refl _, hk, hr, rfl⟩
    · obtain ⟨a, j, b, c⟩ := (h.mem q u).1 h0
      exact ⟨a, j, by omega, c⟩
  · rcases Nat.lt_or_ge k j with hlt | hge
    · exact .inr ((h.mem q u).2 ⟨a, j, hlt, hj, c1, c2⟩)
    · obtain rfl : j = k := by omega
      have h1 := (get_some hT).2 a
      rw [c2, hg] at h1
      exact .inl (by rw [c2, Option.some.inj h1])
/-- A longer one around the address. -/
theorem Inv.more {l : List (Int × Int)} {A : Key} {T M : List (Key × Int)} {k : Nat} {f : Bool} {best : Int × Int} (hT : SRow T) (h : Inv l A T M (k + 1) f best) (hk : k < l.length) {v : Int} (hg : getP T (l[k]'hk) = some v)
    (x0 : 0 ≤ (l[k]'hk).1) (x1 : (l[k]'hk).1 < 4294967296) (ha : bitsOf (l[k]'hk).1 (l[k]'hk).2 <+: A) (hb : f = false ∨ best.2 < (l[k]'hk).2) : Inv l A T (putP M (l[k]'hk) v) k true (l[k]'hk) := by
  obtain ⟨hr, h1, h2⟩ := h.put_mem hT hk hg
  have hkp := kp_bitsOf x0 x1 hr
  refine ⟨h2, .inr ⟨rfl, _, v, (h1 _ _).2 (.inl rfl), ha, by rw [hkp.1, hkp.2.1], fun q u hq hqa => ?_⟩⟩
  rcases (h1 q u).1 hq with e | hm
  · cases e
    exact Nat.le_refl _
  · rcases h.best with ⟨_, _, h3⟩ | ⟨h3, q0, u0, _, _, h6, h7⟩
    · exact absurd hqa (h3 q u hm)
    · have := h7 q u hm hqa
      have e1 := hkp.2.1
      rw [h3] at hb
      simp only [h6, Bool.true_eq_false, false_or] at hb
      unfold kn at hb e1
      omega
theorem Inv.less {l : List (Int × Int)} {A : Key} {T M : List (Key × Int)} {k : Nat} {f : Bool} {best : Int × Int} (hT : SRow T) (h : Inv l A T M (k + 1) f best) (hk : k < l.length) {v : Int} (hg : getP T (l[k]'hk) = some v)
    (x0 : 0 ≤ (l[k]'hk).1) (x1 : (l[k]'hk).1 < 4294967296) (hb : ¬ (bitsOf (l[k]'hk).1 (l[k]'hk).2 <+: A ∧ (f = false ∨ best.2 < (l[k]'hk).2))) : Inv l A T (putP M (l[k]'hk) v) k f best := by
  obtain ⟨hr, h1, h2⟩ := h.put_mem hT hk hg
  have hkp := kp_bitsOf x0 x1 hr
  refine ⟨h2, ?_⟩
  rcases h.best with ⟨h3, h4, h5⟩ | ⟨h3, q0, u0, h4, h5, h6, h7⟩
  · refine .inl ⟨h3, h4, fun q u hq => ?_⟩
    rcases (h1 q u).1 hq with e | hm
    · cases e
      exact fun e => hb ⟨e, .inl h3⟩
    · exact h5 q u hm
  · refine .inr ⟨h3, q0, u0, (h1 _ _).2 (.inr h4), h5, h6, fun q u hq hqa => ?_⟩
    rcases (h1 q u).1 hq with e | hm
    · cases e
      have e1 := hkp.2.1
      have e2 : ¬ best.2 < (l[k]'hk).2 := fun e => hb ⟨hqa, .inr e⟩
      rw [h6] at e2
      unfold kn at e1
      simp only [kn] at e2
      omega
    · exact h7 q u hm hqa
theorem rows_ext {a b : List (Key × Int)} (ha : SRow a) (hb : SRow b) (h : ∀ q u, (q, u) ∈ a ↔ (q, u) ∈ b) : a = b := by
  have h1 := sorted_sub ha hb fun x hx => (h x.1 x.2).1 hx
  have h2 := sorted_sub hb ha fun x hx => (h x.1 x.2).2 hx
  exact h1.eq_of_length (Nat.le_antisymm h1.length_le h2.length_le)
theorem Inv.same {l : List (Int × Int)} {A : Key} {T M : List (Key × Int)} {f : Bool} {best : Int × Int} (h : Inv l A T M 0 f best) (hT : SRow T) (hM : SRow M) (hc : Cov l T) : M = T :=
  rows_ext hM hT fun q u => (h.mem q u).trans ⟨fun h0 => h0.1, fun h0 => ⟨h0, by
    obtain ⟨j, hj, c⟩ := hc _ h0
    exact ⟨j, Nat.zero_le _, hj, c⟩⟩⟩
/-- The last row around an address is the longest one. -/
theorem Inv.find {l : List (Int × Int)} {A : Key} {T : List (Key × Int)} {f : Bool} {best : Int × Int} (h : Inv l A T T 0 f best) (hT : SRow T) : ∃ v, lastR (T.filter (fun r => decide (r.1 <+: A))) = (best, v, f) := by
  have hs : SRow (T.filter (fun r => decide (r.1 <+: A))) := List.Pairwise.filter _ hT
  rcases h.best with ⟨h3, h4, h5⟩ | ⟨h3, q0, u0, h4, h5, h6, h7⟩
  · have : T.filter (fun r => decide (r.1 <+: A)) = [] := List.filter_eq_nil_iff.2 fun r hr => by simpa using h5 r.1 r.2 hr
    rw [this, h3, h4]
    exact ⟨0, rfl⟩
  · have hin : (q0, u0) ∈ T.filter (fun r => decide (r.1 <+: A)) := List.mem_filter.2 ⟨h4, by simpa using h5⟩
    generalize hF : T.filter (fun r => decide (r.1 <+: A)) = F at *
    unfold lastR
    cases hl : F.getLast? with
    | none => rw [List.getLast?_eq_none_iff.1 hl] at hin; simp at hin
    | some r =>
      have hr : r ∈ F := List.mem_of_getLast? hl
      have hr2 := hr
      rw [← hF] at hr2
      obtain ⟨hr3, hr4⟩ := List.mem_filter.1 hr2
      have hr5 : r.1 <+: A := by simpa using hr4
      have hlen := h7 r.1 r.2 hr3 hr5
      have heq : r.1 = q0 := by
        by_cases e : (q0, u0) = r
        · rw [← e]
        · have hlast : klt q0 r.1 = true := by
            obtain ⟨F', rfl⟩ := List.getLast?_eq_some_iff.1 hl
            rcases List.mem_append.1 hin with hm | hm
            · exact (List.pairwise_append.1 hs).2.2 _ hm r (by simp)
            · simp at hm; exact absurd hm e
          obtain ⟨m, hm⟩ := List.prefix_of_prefix_length_le hr5 h5 hlen
          cases m with
          | nil => rw [List.append_nil] at hm; exact hm
          | cons b m =>
            have h8 := klt_ext r.1 b m
            rw [hm] at h8
            rw [klt_asymm h8] at hlast
            cases hlast
      refine ⟨r.2, ?_⟩
      show ((kx r.1, kn r.1), r.2, true) = _
      rw [heq, h3, h6]
end T6
end Go.Proofs.Ytghkacciihocdaa

namespace Go.Proofs.Ytghkacciihocdaa
open Go Go.RowKit Go.Shelf Go.Sort
attribute [local go_sem] Oper.semAt_some
attribute [local irreducible] wpQuiet
namespace T6

theorem right32 (a : Int) : right a 32 := by
  refine ⟨by decide, by decide, ?_⟩
  have h : wgt (32 : Int).toNat = 1 := by decide
  unfold cutTo top
  rw [h]
  omega
theorem eqPfx6 (x n : Int) (W : World) : (binOp .eql 34 (.agg #[.int .u32 x, .int .i64 n]) (.agg #[.int .u32 x, .int .i64 n])).run Try.prog W = .ok (.bool true) W := by
  simp [go_sem]
set_option maxRecDepth 100000 in
set_option maxHeartbeats 12800000 in
theorem law06_holds (A : Option Addr) (c : Nat) (l : List (Int × Int)) (gone a : Int) (hl : ∀ p ∈ l, 0 ≤ p.1 ∧ p.1 < 4294967296) (a0 : 0 ≤ a) (a1 : a < 4294967296) (w : World) (hA : LiesS w A (pfxCs l)) :
    Calls Try.prog 8 #[.slice A l.length c, .int .u32 gone, .int .u32 a] w fun e w' => e = .returned (.bool true) ∧ Below w.heap.size w w' := by
  have HA := Lib.hid (fun (W : World) (hW : Below w.heap.size w W) => lies_pfxs (hA.below hW))
  have HL := Lib.hid hl
  clear hA hl
  go_enter Try.func8, Try.ntmps8
  by_cases h25 : 25 < (l.length : Int)
  · go_wp2_with fail
    refine (works6_any _).mono ?_
    rintro e w1 ⟨rfl, hb1⟩
    have HB1 := Lib.hid hb1
    clear hb1
    go_wp2_with fail
    go_ret
    exact ⟨rfl, HB1.out⟩
  go_wp2_with fail
  refine (newT_any w _ (Below.refl _ _)).mono ?_
  rintro e w1 ⟨rfl, ho1, hb1⟩
  have HO1 := Lib.hid ho1
  clear ho1 hb1
  go_wp2_with fail
  refine (newT_any w1 _ (Below.refl _ _)).mono ?_
  rintro e w2 ⟨rfl, ho2, hb2⟩
  have HT0 : Hid (TwoT w w.heap.size [] w1.heap.size [] w2) := Lib.hid (TwoT.new HO1.out hb2 ho2 (Nat.le_refl _))
  clear ho2 hb2 HO1
  generalize w.heap.size = g at HT0 ⊢
  generalize w1.heap.size = h at *
  go_wp2_with fail
  go_loopw [9] (fun i wr => ∃ (k : Nat) (L : List (Key × Int)), k ≤ l.length ∧ i = .int .i64 k ∧ Hid (L.length ≤ k ∧ Cov l L ∧ TwoT w g L h [] wr)) (fun i _ => l.length - (intOf i).toNat)
  case atStart => exact ⟨0, [], by omega, rfl, Lib.hid ⟨Nat.le_refl _, fun r hr => absurd hr (by simp), HT0.out⟩⟩
  case round =>
    obtain ⟨k, L, hk, rfl, HI⟩ := hrel
    by_cases hlt : k < l.length
    · obtain ⟨b, o, rfl, hb, hc⟩ := HA.out wr HI.out.2.2.one.bel (by omega)
      have hlt2 : (k : Int) < (l.length : Int) := by omega
      obtain ⟨d0, d1⟩ := hc k hlt
      have hxr := HL.out _ (List.getElem_mem hlt)
      have hcov := HI.out.2.1.put hlt (k : Int)
      have hle := putP_len HI.out.2.2.one.srow (l[k]'hlt) (k : Int)
      have hle2 := HI.out.1
      have HP := Lib.hid (putP_any (l[k]'hlt).1 (l[k]'hlt).2 hxr.1 hxr.2 (k : Int) w g h L [] (by omega) wr HI.out.2.2)
      have HC := Lib.hid (And.intro hcov hle)
      clear hc hxr hcov hle
      generalize (l[k]'hlt) = p at *
      obtain ⟨x, n⟩ := p
      dsimp only at d0 d1 HP HC
      have hk25 : (k : Int) ≤ 25 := by omega
      go_wp2_with fail
      refine HP.out.mono ?_
      rintro e wb ⟨⟨u, rfl⟩, hT, _⟩
      have HI2 : Hid ((putP L (x, n) k).length ≤ k + 1 ∧ Cov l (putP L (x, n) k) ∧ TwoT w g (putP L (x, n) k) h [] wb) := Lib.hid ⟨by have := HC.out.2; omega, HC.out.1, hT⟩
      clear hT HP HC HI d0 d1 hb
      go_wp2_with fail
      go_roundw
      case rel => exact ⟨k + 1, _, by omega, by go_num, HI2⟩
      case measure => simp [intOf] <;> omega
    · obtain rfl : k = l.length := by omega
      have hlt2 : ¬ (l.length : Int) < (l.length : Int) := by omega
      go_wp2_with fail
      have hle3 := HI.out.1
      have HI1 : Hid (L.length ≤ 25 ∧ Cov l L ∧ TwoT w g L h [] wr) := Lib.hid ⟨by omega, HI.out.2⟩
      clear HI hle3 HT0
      generalize wr = w3 at *
      go_loopw [10] (fun i wr => ∃ (k : Nat) (L : List (Key × Int)), k ≤ l.length ∧ i = .int .i64 k ∧ Hid (L.length ≤ 25 ∧ Cov l L ∧ TwoT w g L h [] wr)) (fun i _ => l.length - (intOf i).toNat)
      case atStart => exact ⟨0, L, by omega, rfl, HI1⟩
      case round =>
        clear HI1 L
        obtain ⟨k, L, hk, rfl, HI⟩ := hrel
        by_cases hlt : k < l.length
        · obtain ⟨b, o, rfl, hb, hc⟩ := HA.out wr HI.out.2.2.one.bel (by omega)
          have hlt2 : (k : Int) < (l.length : Int) := by omega
          obtain ⟨d0, d1⟩ := hc k hlt
          have hxr := HL.out _ (List.getElem_mem hlt)
          have hcov := HI.out.2.1.take (l[k]'hlt)
          have hle := takeP_len L (l[k]'hlt)
          have hle2 := HI.out.1
          have HP := Lib.hid (takeP_any (l[k]'hlt).1 (l[k]'hlt).2 hxr.1 hxr.2 w g h L [] (by omega) wr HI.out.2.2)
          have HC := Lib.hid (And.intro hcov hle)
          clear hc hxr hcov hle
          generalize (l[k]'hlt) = p at *
          obtain ⟨x, n⟩ := p
          dsimp only at d0 d1 HP HC
          have hk25 : (k : Int) ≤ 25 := by omega
          go_wp2_with fail
          · refine HP.out.mono ?_
            rintro e wb ⟨⟨u, rfl⟩, hT⟩
            have HI2 : Hid ((takeP L (x, n)).length ≤ 25 ∧ Cov l (takeP L (x, n)) ∧ TwoT w g (takeP L (x, n)) h [] wb) := Lib.hid ⟨by have := HC.out.2; omega, HC.out.1, hT⟩
            clear hT HP HC HI d0 d1 hb
            go_wp2_with fail
            go_roundw
            case rel => exact ⟨k + 1, _, by omega, by go_num, HI2⟩
            case measure => simp [intOf] <;> omega
          · exact ⟨⟨k + 1, L, by omega, rfl, HI⟩, by simp [intOf] <;> omega⟩
        · obtain rfl : k = l.length := by omega
          have hlt2 : ¬ (l.length : Int) < (l.length : Int) := by omega
          go_wp2_with fail
          have hbx := box_below wr (.cells #[.int .u32 0, .int .i64 0] 34)
          have hbest := Blk.new wr 34 #[.int .u32 0, .int .i64 0]
          have hbig : bitsOf a 32 = bitsOf a 32 := rfl
          have hr32 : right a 32 := right32 a
          have hka := kp_bitsOf a0 a1 hr32
          have hla := bitsOf_len a 32
          generalize bitsOf a 32 = K at *
          have HI3 : Hid (L.length ≤ 25 ∧ Cov l L ∧ SRow L) := Lib.hid ⟨HI.out.1, HI.out.2.1, HI.out.2.2.one.srow⟩
          have HJ0 : Hid (([] : List (Key × Int)).length ≤ l.length - l.length ∧ Inv l K L [] l.length false (0, 0) ∧ TwoT w g L h [] (wr.alloc (.cells #[.int .u32 0, .int .i64 0] 34)) ∧ Blk (wr.alloc (.cells #[.int .u32 0, .int .i64 0] 34)) wr.heap.size 34 #[.int .u32 0, .int .i64 0]) := Lib.hid ⟨Nat.zero_le _, Inv.start l K L, HI.out.2.2.below hbx, hbest⟩
          have HBW : Hid (w.heap.size ≤ wr.heap.size) := Lib.hid HI.out.2.2.one.bel.size
          clear hbx hbest HI hbig
          generalize (wr.alloc (.cells #[.int .u32 0, .int .i64 0] 34)) = w4 at *
          have hBw : w.heap.size ≤ wr.heap.size := HBW.out
          generalize wr.heap.size = B at *
          go_loopw [12, 13, 14, 15] (fun f i v is wr => ∃ (k : Nat) (M : List (Key × Int)) (fb : Bool) (bx bn : Int), k ≤ l.length ∧ i = .int .i64 ((k : Int) - 1) ∧ f = .bool fb ∧ Hid (M.length ≤ l.length - k ∧ Inv l K L M k fb (bx, bn) ∧ TwoT w g L h M wr ∧ Blk wr B 34 #[.int .u32 bx, .int .i64 bn])) (fun f i v is _ => (intOf i + 1).toNat)
          case atStart => exact ⟨l.length, [], false, 0, 0, by omega, rfl, rfl, HJ0⟩
          case round =>
            clear HJ0
            obtain ⟨k, M, fb, bx, bn, hk, rfl, rfl, HJ⟩ := hrel
            cases k with
            | succ k =>
              have hlt : k < l.length := by omega
              obtain ⟨b, o, rfl, hb, hc⟩ := HA.out wr HJ.out.2.2.1.one.bel (by omega)
              have hlt2 : (k : Int) < (l.length : Int) := by omega
              obtain ⟨d0, d1⟩ := hc k hlt
              have hxr := HL.out _ (List.getElem_mem hlt)
              have e1 : ((k + 1 : Nat) : Int) - 1 = (k : Int) := by omega
              have HG := Lib.hid (getP_any (l[k]'hlt).1 (l[k]'hlt).2 hxr.1 hxr.2 w g L wr HJ.out.2.2.1.one)
              rw [e1]
              have hk25 : (k : Int) ≤ 25 := by omega
              have hk0 : (0 : Int) ≤ (k : Int) := by omega
              obtain ⟨gv, hgv⟩ : ∃ gv, getP L (l[k]'hlt) = gv := ⟨_, rfl⟩
              have hge : getP L ((l[k]'hlt).1, (l[k]'hlt).2) = gv := hgv
              rw [hge] at HG
              clear hge
              obtain ⟨p, hp⟩ : ∃ p, l[k]'hlt = p := ⟨_, rfl⟩
              obtain ⟨x, n⟩ := p
              rw [hp] at HG d0 d1 hxr
              dsimp only at HG d0 d1 hxr
              have HPP := Lib.hid (And.intro hp (And.intro hgv hc))
              clear hc hp hgv
              cases gv with
              | none =>
                simp only [valO, Option.getD, Option.isSome] at HG
                go_wp2_with fail
                refine HG.out.mono ?_
                rintro e wb ⟨rfl, hb5⟩
                have HJ2 : Hid (M.length ≤ l.length - k ∧ Inv l K L M k fb (bx, bn) ∧ TwoT w g L h M wb ∧ Blk wb B 34 #[.int .u32 bx, .int .i64 bn]) := Lib.hid ⟨by have := HJ.out.1; omega, HJ.out.2.1.skip hlt HPP.out.2.1, HJ.out.2.2.1.below hb5, HJ.out.2.2.2.below hb5 HJ.out.2.2.2.lt⟩
                clear hb5 HG HJ HPP d0 d1 hb
                go_wp2_with fail
                go_roundw
                case rel => exact ⟨k, M, fb, bx, bn, by omega, rfl, rfl, HJ2⟩
                case measure => simp [intOf] <;> omega
              | some v =>
                simp only [valO, Option.getD, Option.isSome] at HG
                go_wp2_with fail
                refine HG.out.mono ?_
                rintro e wb ⟨rfl, hb5⟩
                have HJ2 : Hid (TwoT w g L h M wb ∧ Blk wb B 34 #[.int .u32 bx, .int .i64 bn]) := Lib.hid ⟨HJ.out.2.2.1.below hb5, HJ.out.2.2.2.below hb5 HJ.out.2.2.2.lt⟩
                have hMl := HJ.out.1
                have hMs := HJ.out.2.2.1.two.srow
                have HP := Lib.hid (putP_any x n hxr.1 hxr.2 v w h g M L (by omega) wb HJ2.out.1.swap)
                have hpl := putP_len hMs (x, n) v
                obtain ⟨b', o', e', _, hc'⟩ := HA.out wb HJ2.out.1.one.bel (by omega)
                cases e'
                obtain ⟨d0, d1⟩ := hc' k hlt
                clear hc'
                have hp := HPP.out.1
                rw [hp] at d0 d1
                dsimp only at d0 d1
                have HMM := Lib.hid (And.intro hMl hpl)
                have HI5 := Lib.hid HJ.out.2.1
                clear hb5 HG HJ hMl hpl hMs hp
                go_wp2_with fail
                refine HP.out.mono ?_
                rintro e wc ⟨⟨u, rfl⟩, hT, hO⟩
                have HJ3 : Hid (TwoT w g L h (putP M (x, n) v) wc ∧ Blk wc B 34 #[.int .u32 bx, .int .i64 bn]) := Lib.hid ⟨hT.swap, hO.blk HJ2.out.2 (by decide) (by decide)⟩
                clear hT hO HJ2 HP d0 d1
                obtain ⟨b', o', e', _, hc'⟩ := HA.out wc HJ3.out.1.one.bel (by omega)
                cases e'
                obtain ⟨d0, d1⟩ := hc' k hlt
                clear hc'
                have hp := HPP.out.1
                rw [hp] at d0 d1
                dsimp only at d0 d1
                clear hp
                have cb0 := HJ3.out.2.cell 0
                have cb1 := HJ3.out.2.cell 1
                have f0 := HJ3.out.2.frozen 0
                have f1 := HJ3.out.2.frozen 1
                simp only [List.getElem?_toArray, List.getElem?_cons_zero, List.getElem?_cons_succ] at cb0 cb1
                have hHas : Hid (hasP x n a ↔ bitsOf x n <+: K) := Lib.hid (by
                  have hr := (HI5.out.put_mem HI3.out.2.2 hlt HPP.out.2.1).1
                  rw [HPP.out.1] at hr
                  have hk3 := kp_bitsOf hxr.1 hxr.2 hr
                  have := has_pre hk3.2.2 (show K.length ≤ 32 from hka.2.2) (by have := hk3.2.2; rw [hla]; exact this)
                  rw [hk3.1, hk3.2.1, hka.1] at this
                  exact this)
                have k00 := cell_regrown d0
                have k01 := cell_regrown d1
                have k10 := cell_regrown cb0
                have k11 := cell_regrown cb1
                have cH : ∀ d os, Calls Try.prog 33 #[.agg #[.int .u32 x, .int .i64 n], .int .u32 a] (grow (redrawn wc d) os) fun e w'' => e = .returned (.bool (decide (hasP x n a))) ∧ ∃ p : Regrown, w'' = grow (redrawn wc p.d) p.os :=
                  fun d os => Calls.regrown_of (refHas_any x n a hxr.1 hxr.2 a0 a1 _)
                have HLESS : Hid (¬ (hasP x n a ∧ (fb = false ∨ bn < n)) → Inv l K L (putP M (x, n) v) k fb (bx, bn)) := Lib.hid (fun h0 => by
                  have := HI5.out.less HI3.out.2.2 hlt HPP.out.2.1
                  rw [HPP.out.1] at this
                  exact this hxr.1 hxr.2 (fun ⟨e1, e2⟩ => h0 ⟨hHas.out.2 e1, e2⟩))
                have HMORE : Hid (hasP x n a → (fb = false ∨ bn < n) → Inv l K L (putP M (x, n) v) k true (x, n)) := Lib.hid (fun h0 h1 => by
                  have := HI5.out.more HI3.out.2.2 hlt HPP.out.2.1
                  rw [HPP.out.1] at this
                  exact this hxr.1 hxr.2 (hHas.out.1 h0) h1)
                have hkl : (k : Int) < (l.length : Int) := hlt2
                clear HI5 d0 d1 cb0 cb1 hb
                by_cases hh : hasP x n a
                · rw [decide_eq_true hh] at cH
                  cases fb with
                  | false =>
                    go_wp2_with fail
                    refine wp_region_quiet_below (by kernel_rfl) (by kernel_rfl) ?_
                    repeat (quiet_step (with_reducible exact cH _ _))
                    refine wpQuiet_nil ?_
                    intro w3 hw3
                    obtain ⟨⟨dq, osq⟩, rfl⟩ := hw3
                    have HJ4 : Hid (TwoT w g L h (putP M (x, n) v) (grow (redrawn wc dq) osq) ∧ Blk (grow (redrawn wc dq) osq) B 34 #[.int .u32 bx, .int .i64 bn]) := Lib.hid ⟨HJ3.out.1.below (below_regrown wc dq osq), HJ3.out.2.below (below_regrown wc dq osq) HJ3.out.2.lt⟩
                    have d0 := k00 dq osq
                    have d1 := k01 dq osq
                    have f0 := HJ4.out.2.frozen 0
                    have f1 := HJ4.out.2.frozen 1
                    have cb0 := HJ4.out.2.cell 0
                    have cb1 := HJ4.out.2.cell 1
                    simp only [List.getElem?_toArray, List.getElem?_cons_zero, List.getElem?_cons_succ] at cb0 cb1
                    generalize grow (redrawn wc dq) osq = wd at *
                    clear k00 k01 k10 k11 cH HJ3
                    have HR := Lib.hid (HMORE.out hh (by first | exact .inl rfl | exact .inl trivial | simp))
                    have hs1 := HJ4.out.1.set HJ4.out.2 (by decide) (by decide) hBw 0 (.int .u32 x)
                    have hq1 := HJ4.out.2.set_ 0 (.int .u32 x)
                    have hs2 := hs1.set hq1 (by decide) (by decide) hBw 1 (.int .i64 n)
                    have hq2 := hq1.set_ 1 (.int .i64 n)
                    have HJ5 := Lib.hid (And.intro hs2 hq2)
                    clear hs1 hq1 hs2 hq2
                    go_wp2_with fail
                    exact ⟨⟨k, _, true, x, n, by omega, rfl, rfl, Lib.hid ⟨by have := HMM.out; omega, HR.out, HJ5.out.1, by simpa using HJ5.out.2⟩⟩, by simp [intOf] <;> omega⟩
                  | true =>
                    by_cases hbn : bn < n
                    · go_wp2_with fail
                      refine wp_region_quiet_below (by kernel_rfl) (by kernel_rfl) ?_
                      repeat (quiet_step (with_reducible exact cH _ _))
                      refine wpQuiet_nil ?_
                      intro w3 hw3
                      obtain ⟨⟨dq, osq⟩, rfl⟩ := hw3
                      have HJ4 : Hid (TwoT w g L h (putP M (x, n) v) (grow (redrawn wc dq) osq) ∧ Blk (grow (redrawn wc dq) osq) B 34 #[.int .u32 bx, .int .i64 bn]) := Lib.hid ⟨HJ3.out.1.below (below_regrown wc dq osq), HJ3.out.2.below (below_regrown wc dq osq) HJ3.out.2.lt⟩
                      have d0 := k00 dq osq
                      have d1 := k01 dq osq
                      have f0 := HJ4.out.2.frozen 0
                      have f1 := HJ4.out.2.frozen 1
                      have cb0 := HJ4.out.2.cell 0
                      have cb1 := HJ4.out.2.cell 1
                      simp only [List.getElem?_toArray, List.getElem?_cons_zero, List.getElem?_cons_succ] at cb0 cb1
                      generalize grow (redrawn wc dq) osq = wd at *
                      clear k00 k01 k10 k11 cH HJ3
                      have HR := Lib.hid (HMORE.out hh (.inr hbn))
                      have hs1 := HJ4.out.1.set HJ4.out.2 (by decide) (by decide) hBw 0 (.int .u32 x)
                      have hq1 := HJ4.out.2.set_ 0 (.int .u32 x)
                      have hs2 := hs1.set hq1 (by decide) (by decide) hBw 1 (.int .i64 n)
                      have hq2 := hq1.set_ 1 (.int .i64 n)
                      have HJ5 := Lib.hid (And.intro hs2 hq2)
                      clear hs1 hq1 hs2 hq2
                      go_wp2_with fail
                      exact ⟨⟨k, _, true, x, n, by omega, rfl, rfl, Lib.hid ⟨by have := HMM.out; omega, HR.out, HJ5.out.1, by simpa using HJ5.out.2⟩⟩, by simp [intOf] <;> omega⟩
                    · have HR := Lib.hid (HLESS.out (fun ⟨_, e⟩ => by rcases e with e | e; cases e; exact hbn e))
                      go_wp2_with fail
                      refine wp_region_quiet_below (by kernel_rfl) (by kernel_rfl) ?_
                      repeat (quiet_step (with_reducible exact cH _ _))
                      refine wpQuiet_nil ?_
                      intro w3 hw3
                      obtain ⟨⟨dq, osq⟩, rfl⟩ := hw3
                      have HJ4 : Hid (TwoT w g L h (putP M (x, n) v) (grow (redrawn wc dq) osq) ∧ Blk (grow (redrawn wc dq) osq) B 34 #[.int .u32 bx, .int .i64 bn]) := Lib.hid ⟨HJ3.out.1.below (below_regrown wc dq osq), HJ3.out.2.below (below_regrown wc dq osq) HJ3.out.2.lt⟩
                      have d0 := k00 dq osq
                      have d1 := k01 dq osq
                      have f0 := HJ4.out.2.frozen 0
                      have f1 := HJ4.out.2.frozen 1
                      have cb0 := HJ4.out.2.cell 0
                      have cb1 := HJ4.out.2.cell 1
                      simp only [List.getElem?_toArray, List.getElem?_cons_zero, List.getElem?_cons_succ] at cb0 cb1
                      generalize grow (redrawn wc dq) osq = wd at *
                      clear k00 k01 k10 k11 cH HJ3
                      go_wp2_with fail
                      go_roundw
                      case rel => exact ⟨k, _, _, bx, bn, by omega, rfl, rfl, Lib.hid ⟨by have := HMM.out; omega, HR.out, HJ4.out⟩⟩
                      case measure => simp [intOf] <;> omega
                · rw [decide_eq_false hh] at cH
                  have HR := Lib.hid (HLESS.out (fun e => hh e.1))
                  go_wp2_with fail
                  refine wp_region_quiet_below (by kernel_rfl) (by kernel_rfl) ?_
                  repeat (quiet_step (with_reducible exact cH _ _))
                  refine wpQuiet_nil ?_
                  intro w3 hw3
                  obtain ⟨⟨dq, osq⟩, rfl⟩ := hw3
                  have HJ4 : Hid (TwoT w g L h (putP M (x, n) v) (grow (redrawn wc dq) osq) ∧ Blk (grow (redrawn wc dq) osq) B 34 #[.int .u32 bx, .int .i64 bn]) := Lib.hid ⟨HJ3.out.1.below (below_regrown wc dq osq), HJ3.out.2.below (below_regrown wc dq osq) HJ3.out.2.lt⟩
                  have d0 := k00 dq osq
                  have d1 := k01 dq osq
                  have f0 := HJ4.out.2.frozen 0
                  have f1 := HJ4.out.2.frozen 1
                  have cb0 := HJ4.out.2.cell 0
                  have cb1 := HJ4.out.2.cell 1
                  simp only [List.getElem?_toArray, List.getElem?_cons_zero, List.getElem?_cons_succ] at cb0 cb1
                  generalize grow (redrawn wc dq) osq = wd at *
                  clear k00 k01 k10 k11 cH HJ3
                  go_wp2_with fail
                  go_roundw
                  case rel => exact ⟨k, _, _, bx, bn, by omega, rfl, rfl, Lib.hid ⟨by have := HMM.out; omega, HR.out, HJ4.out⟩⟩
                  case measure => simp [intOf] <;> omega
            | zero =>
              have e1 : ((0 : Nat) : Int) - 1 = -1 := rfl
              rw [e1]
              go_wp2_with fail
              have hMs := HJ.out.2.2.1.two.srow
              have hML := HJ.out.2.1.same HI3.out.2.2 hMs HI3.out.2.1
              subst hML
              obtain ⟨fv, hfv⟩ := HJ.out.2.1.find HI3.out.2.2
              have hfin := findT_any K (by rw [hla]; rfl) w g M wr HJ.out.2.2.1.one
              rw [hka.1, hfv] at hfin
              dsimp only at hfin
              have HFD := Lib.hid hfin
              have HT5 := Lib.hid HJ.out.2.2.1
              have HBX := Lib.hid HJ.out.2.2.2
              have HBD : Hid ((skeys M).length ≤ 2 * M.length - 1 ∧ M.length ≤ (skeys M).length ∧ depthK (skeys M) ≤ 33 ∧ (depthK (skeys M) = 0 ↔ M.length = 0)) := Lib.hid (by
                obtain ⟨t, ht1, ht2, _⟩ := HJ.out.2.2.1.one
                have hn1 := nodes_most ht1.wf
                have hn2 := nodes_least t
                have hn3 := depth_most ht1.wf
                have hn4 := depth_zero ht1.wf
                rw [keys_rows ht1.wf] at hn1 hn2
                rw [depth_rows ht1.wf] at hn3 hn4
                rw [ht2] at hn1 hn2 hn3 hn4
                exact ⟨hn1, hn2, hn3, hn4⟩)
              have HNS := Lib.hid (fun W (hW : TwoT w g M h M W) => And.intro (nodesT_any w g M (by have := HI3.out.1; omega) W hW.one) (nodesT_any w h M (by have := HI3.out.1; omega) W hW.two))
              have HDS := Lib.hid (fun W (hW : TwoT w g M h M W) => And.intro (depthT'_any w g M (by have := HI3.out.1; omega) W hW.one) (depthT'_any w h M (by have := HI3.out.1; omega) W hW.two))
              have HLN := Lib.hid (fun W (hW : TwoT w g M h M W) => lenT_any w g M W hW.one)
              have HSM : Hid (∀ W, TwoT w g M h M W → Calls Try.prog 30 #[.pointer (some ⟨g, 0, none⟩), .pointer (some ⟨h, 0, none⟩)] W fun e w' => e = .returned (.bool true) ∧ Below W.heap.size W w') := Lib.hid (fun W hW => by
                have := same6_any w (some ⟨g, 0, none⟩) (some ⟨h, 0, none⟩) M M (by have := HI3.out.1; omega) W hW.one.bel.size (.inr ⟨g, rfl, hW.one⟩) (.inr ⟨h, rfl, hW.two⟩)
                simpa using this)
              have h26 := HI3.out.1
              clear hfin hfv hMs HJ HI3
              generalize (skeys M).length = N at *
              generalize depthK (skeys M) = D at *
              generalize hml : M.length = m at *
              refine HFD.out.mono ?_
              rintro e w5 ⟨rfl, hb5⟩
              have HT6 := Lib.hid (HT5.out.below hb5)
              have HBX6 := Lib.hid (HBX.out.below hb5 HBX.out.lt)
              clear hb5 HT5 HBX HFD
              have hbp := box_below w5 (.cells #[.int .u32 bx, .int .i64 bn] 34)
              have HT7 := Lib.hid (HT6.out.below hbp)
              have HBX7 := Lib.hid (HBX6.out.below hbp HBX6.out.lt)
              have HPX7 := Lib.hid (Blk.new w5 34 #[.int .u32 bx, .int .i64 bn])
              clear hbp HT6 HBX6
              go_wp2_with fail
              generalize (w5.alloc (.cells #[.int .u32 bx, .int .i64 bn] 34)) = w6 at *
              generalize w5.heap.size = P at *
              have q0 := HBX7.out.cell 0
              have q1 := HBX7.out.cell 1
              have q2 := HPX7.out.cell 0
              have q3 := HPX7.out.cell 1
              simp only [List.getElem?_toArray, List.getElem?_cons_zero, List.getElem?_cons_succ] at q0 q1 q2 q3
              have hEQ := fun W => eqPfx6 bx bn W
              obtain ⟨e1, e2, e3, e4⟩ := HBD.out
              have hm25 : (m : Int) ≤ 25 := by omega
              have hm00 : (0 : Int) ≤ (m : Int) := by omega
              have hNa : (N : Int) ≤ max 0 (2 * (m : Int) - 1) := by omega
              have hNb : (m : Int) ≤ (N : Int) := by omega
              have hD33 : (D : Int) ≤ 33 := by omega
              by_cases hm0 : m = 0
              · have hmz : ((m : Int) == 0) = true := by simp; omega
                have hdz : ((D : Int) == 0) = true := by simp; omega
                clear e1 e2 e3 e4 hm0 HBD h26
                refine (HLN.out _ HT7.out).mono ?_
                rintro e Vs ⟨rfl, rfl⟩
                go_wp2_with fail
                refine (HSM.out _ HT7.out).mono ?_
                rintro e a ⟨rfl, hb⟩
                have HTa := Lib.hid (HT7.out.below hb)
                have HBXa := Lib.hid (HBX7.out.below hb HBX7.out.lt)
                have HPXa := Lib.hid (HPX7.out.below hb HPX7.out.lt)
                clear hb HT7 HBX7 HPX7 q0 q1 q2 q3
                have q0 := HBXa.out.cell 0
                have q1 := HBXa.out.cell 1
                have q2 := HPXa.out.cell 0
                have q3 := HPXa.out.cell 1
                simp only [List.getElem?_toArray, List.getElem?_cons_zero, List.getElem?_cons_succ] at q0 q1 q2 q3
                go_wp2_with fail
                refine ((HNS.out _ HTa.out).1).mono ?_
                rintro e b ⟨rfl, hb⟩
                have HTb := Lib.hid (HTa.out.below hb)
                have HBXb := Lib.hid (HBXa.out.below hb HBXa.out.lt)
                have HPXb := Lib.hid (HPXa.out.below hb HPXa.out.lt)
                clear hb HTa HBXa HPXa q0 q1 q2 q3
                have q0 := HBXb.out.cell 0
                have q1 := HBXb.out.cell 1
                have q2 := HPXb.out.cell 0
                have q3 := HPXb.out.cell 1
                simp only [List.getElem?_toArray, List.getElem?_cons_zero, List.getElem?_cons_succ] at q0 q1 q2 q3
                go_wp2_with fail
                refine ((HNS.out _ HTb.out).2).mono ?_
                rintro e c ⟨rfl, hb⟩
                have HTc := Lib.hid (HTb.out.below hb)
                have HBXc := Lib.hid (HBXb.out.below hb HBXb.out.lt)
                have HPXc := Lib.hid (HPXb.out.below hb HPXb.out.lt)
                clear hb HTb HBXb HPXb q0 q1 q2 q3
                have q0 := HBXc.out.cell 0
                have q1 := HBXc.out.cell 1
                have q2 := HPXc.out.cell 0
                have q3 := HPXc.out.cell 1
                simp only [List.getElem?_toArray, List.getElem?_cons_zero, List.getElem?_cons_succ] at q0 q1 q2 q3
                go_wp2_with fail
                refine ((HDS.out _ HTc.out).1).mono ?_
                rintro e d ⟨rfl, hb⟩
                have HTd := Lib.hid (HTc.out.below hb)
                have HBXd := Lib.hid (HBXc.out.below hb HBXc.out.lt)
                have HPXd := Lib.hid (HPXc.out.below hb HPXc.out.lt)
                clear hb HTc HBXc HPXc q0 q1 q2 q3
                have q0 := HBXd.out.cell 0
                have q1 := HBXd.out.cell 1
                have q2 := HPXd.out.cell 0
                have q3 := HPXd.out.cell 1
                simp only [List.getElem?_toArray, List.getElem?_cons_zero, List.getElem?_cons_succ] at q0 q1 q2 q3
                go_wp2_with fail
                refine ((HDS.out _ HTd.out).2).mono ?_
                rintro e e5 ⟨rfl, hb⟩
                have HTe5 := Lib.hid (HTd.out.below hb)
                have HBXe5 := Lib.hid (HBXd.out.below hb HBXd.out.lt)
                have HPXe5 := Lib.hid (HPXd.out.below hb HPXd.out.lt)
                clear hb HTd HBXd HPXd q0 q1 q2 q3
                have q0 := HBXe5.out.cell 0
                have q1 := HBXe5.out.cell 1
                have q2 := HPXe5.out.cell 0
                have q3 := HPXe5.out.cell 1
                simp only [List.getElem?_toArray, List.getElem?_cons_zero, List.getElem?_cons_succ] at q0 q1 q2 q3
                go_wp2_with fail
                refine ((HNS.out _ HTe5.out).1).mono ?_
                rintro e f5 ⟨rfl, hb⟩
                have HTf5 := Lib.hid (HTe5.out.below hb)
                have HBXf5 := Lib.hid (HBXe5.out.below hb HBXe5.out.lt)
                have HPXf5 := Lib.hid (HPXe5.out.below hb HPXe5.out.lt)
                clear hb HTe5 HBXe5 HPXe5 q0 q1 q2 q3
                have q0 := HBXf5.out.cell 0
                have q1 := HBXf5.out.cell 1
                have q2 := HPXf5.out.cell 0
                have q3 := HPXf5.out.cell 1
                simp only [List.getElem?_toArray, List.getElem?_cons_zero, List.getElem?_cons_succ] at q0 q1 q2 q3
                go_wp2_with fail
                refine ((HNS.out _ HTf5.out).1).mono ?_
                rintro e h5 ⟨rfl, hb⟩
                have HTh5 := Lib.hid (HTf5.out.below hb)
                have HBXh5 := Lib.hid (HBXf5.out.below hb HBXf5.out.lt)
                have HPXh5 := Lib.hid (HPXf5.out.below hb HPXf5.out.lt)
                clear hb HTf5 HBXf5 HPXf5 q0 q1 q2 q3
                have q0 := HBXh5.out.cell 0
                have q1 := HBXh5.out.cell 1
                have q2 := HPXh5.out.cell 0
                have q3 := HPXh5.out.cell 1
                simp only [List.getElem?_toArray, List.getElem?_cons_zero, List.getElem?_cons_succ] at q0 q1 q2 q3
                go_wp2_with fail
                refine ((HDS.out _ HTh5.out).1).mono ?_
                rintro e i5 ⟨rfl, hb⟩
                have HTi5 := Lib.hid (HTh5.out.below hb)
                have HBXi5 := Lib.hid (HBXh5.out.below hb HBXh5.out.lt)
                have HPXi5 := Lib.hid (HPXh5.out.below hb HPXh5.out.lt)
                clear hb HTh5 HBXh5 HPXh5 q0 q1 q2 q3
                have q0 := HBXi5.out.cell 0
                have q1 := HBXi5.out.cell 1
                have q2 := HPXi5.out.cell 0
                have q3 := HPXi5.out.cell 1
                simp only [List.getElem?_toArray, List.getElem?_cons_zero, List.getElem?_cons_succ] at q0 q1 q2 q3
                go_wp2_with fail
                refine ((HDS.out _ HTi5.out).1).mono ?_
                rintro e j5 ⟨rfl, hb⟩
                have HTj5 := Lib.hid (HTi5.out.below hb)
                have HBXj5 := Lib.hid (HBXi5.out.below hb HBXi5.out.lt)
                have HPXj5 := Lib.hid (HPXi5.out.below hb HPXi5.out.lt)
                clear hb HTi5 HBXi5 HPXi5 q0 q1 q2 q3
                have q0 := HBXj5.out.cell 0
                have q1 := HBXj5.out.cell 1
                have q2 := HPXj5.out.cell 0
                have q3 := HPXj5.out.cell 1
                simp only [List.getElem?_toArray, List.getElem?_cons_zero, List.getElem?_cons_succ] at q0 q1 q2 q3
                go_wp2_with fail
                refine (works6_any _).mono ?_
                rintro e wz ⟨rfl, hb⟩
                have HZ := Lib.hid (HTj5.out.one.bel.trans (hb.mono HTj5.out.one.bel.size))
                clear hb
                go_wp2_with fail
                go_ret
                exact ⟨rfl, HZ.out⟩
              · have hmz : ((m : Int) == 0) = false := by simp; omega
                have hdz : ((D : Int) == 0) = false := by simp; omega
                clear e1 e2 e3 e4 hm0 HBD h26
                refine (HLN.out _ HT7.out).mono ?_
                rintro e Vs ⟨rfl, rfl⟩
                go_wp2_with fail
                refine (HSM.out _ HT7.out).mono ?_
                rintro e a ⟨rfl, hb⟩
                have HTa := Lib.hid (HT7.out.below hb)
                have HBXa := Lib.hid (HBX7.out.below hb HBX7.out.lt)
                have HPXa := Lib.hid (HPX7.out.below hb HPX7.out.lt)
                clear hb HT7 HBX7 HPX7 q0 q1 q2 q3
                have q0 := HBXa.out.cell 0
                have q1 := HBXa.out.cell 1
                have q2 := HPXa.out.cell 0
                have q3 := HPXa.out.cell 1
                simp only [List.getElem?_toArray, List.getElem?_cons_zero, List.getElem?_cons_succ] at q0 q1 q2 q3
                go_wp2_with fail
                refine ((HNS.out _ HTa.out).1).mono ?_
                rintro e b ⟨rfl, hb⟩
                have HTb := Lib.hid (HTa.out.below hb)
                have HBXb := Lib.hid (HBXa.out.below hb HBXa.out.lt)
                have HPXb := Lib.hid (HPXa.out.below hb HPXa.out.lt)
                clear hb HTa HBXa HPXa q0 q1 q2 q3
                have q0 := HBXb.out.cell 0
                have q1 := HBXb.out.cell 1
                have q2 := HPXb.out.cell 0
                have q3 := HPXb.out.cell 1
                simp only [List.getElem?_toArray, List.getElem?_cons_zero, List.getElem?_cons_succ] at q0 q1 q2 q3
                go_wp2_with fail
                refine ((HNS.out _ HTb.out).2).mono ?_
                rintro e c ⟨rfl, hb⟩
                have HTc := Lib.hid (HTb.out.below hb)
                have HBXc := Lib.hid (HBXb.out.below hb HBXb.out.lt)
                have HPXc := Lib.hid (HPXb.out.below hb HPXb.out.lt)
                clear hb HTb HBXb HPXb q0 q1 q2 q3
                have q0 := HBXc.out.cell 0
                have q1 := HBXc.out.cell 1
                have q2 := HPXc.out.cell 0
                have q3 := HPXc.out.cell 1
                simp only [List.getElem?_toArray, List.getElem?_cons_zero, List.getElem?_cons_succ] at q0 q1 q2 q3
                go_wp2_with fail
                refine ((HDS.out _ HTc.out).1).mono ?_
                rintro e d ⟨rfl, hb⟩
                have HTd := Lib.hid (HTc.out.below hb)
                have HBXd := Lib.hid (HBXc.out.below hb HBXc.out.lt)
                have HPXd := Lib.hid (HPXc.out.below hb HPXc.out.lt)
                clear hb HTc HBXc HPXc q0 q1 q2 q3
                have q0 := HBXd.out.cell 0
                have q1 := HBXd.out.cell 1
                have q2 := HPXd.out.cell 0
                have q3 := HPXd.out.cell 1
                simp only [List.getElem?_toArray, List.getElem?_cons_zero, List.getElem?_cons_succ] at q0 q1 q2 q3
                go_wp2_with fail
                refine ((HDS.out _ HTd.out).2).mono ?_
                rintro e e5 ⟨rfl, hb⟩
                have HTe5 := Lib.hid (HTd.out.below hb)
                have HBXe5 := Lib.hid (HBXd.out.below hb HBXd.out.lt)
                have HPXe5 := Lib.hid (HPXd.out.below hb HPXd.out.lt)
                clear hb HTd HBXd HPXd q0 q1 q2 q3
                have q0 := HBXe5.out.cell 0
                have q1 := HBXe5.out.cell 1
                have q2 := HPXe5.out.cell 0
                have q3 := HPXe5.out.cell 1
                simp only [List.getElem?_toArray, List.getElem?_cons_zero, List.getElem?_cons_succ] at q0 q1 q2 q3
                go_wp2_with fail
                refine ((HNS.out _ HTe5.out).1).mono ?_
                rintro e f5 ⟨rfl, hb⟩
                have HTf5 := Lib.hid (HTe5.out.below hb)
                have HBXf5 := Lib.hid (HBXe5.out.below hb HBXe5.out.lt)
                have HPXf5 := Lib.hid (HPXe5.out.below hb HPXe5.out.lt)
                clear hb HTe5 HBXe5 HPXe5 q0 q1 q2 q3
                have q0 := HBXf5.out.cell 0
                have q1 := HBXf5.out.cell 1
                have q2 := HPXf5.out.cell 0
                have q3 := HPXf5.out.cell 1
                simp only [List.getElem?_toArray, List.getElem?_cons_zero, List.getElem?_cons_succ] at q0 q1 q2 q3
                go_wp2_with fail
                refine ((HNS.out _ HTf5.out).1).mono ?_
                rintro e h5 ⟨rfl, hb⟩
                have HTh5 := Lib.hid (HTf5.out.below hb)
                have HBXh5 := Lib.hid (HBXf5.out.below hb HBXf5.out.lt)
                have HPXh5 := Lib.hid (HPXf5.out.below hb HPXf5.out.lt)
                clear hb HTf5 HBXf5 HPXf5 q0 q1 q2 q3
                have q0 := HBXh5.out.cell 0
                have q1 := HBXh5.out.cell 1
                have q2 := HPXh5.out.cell 0
                have q3 := HPXh5.out.cell 1
                simp only [List.getElem?_toArray, List.getElem?_cons_zero, List.getElem?_cons_succ] at q0 q1 q2 q3
                go_wp2_with fail
                refine ((HDS.out _ HTh5.out).1).mono ?_
                rintro e i5 ⟨rfl, hb⟩
                have HTi5 := Lib.hid (HTh5.out.below hb)
                have HBXi5 := Lib.hid (HBXh5.out.below hb HBXh5.out.lt)
                have HPXi5 := Lib.hid (HPXh5.out.below hb HPXh5.out.lt)
                clear hb HTh5 HBXh5 HPXh5 q0 q1 q2 q3
                have q0 := HBXi5.out.cell 0
                have q1 := HBXi5.out.cell 1
                have q2 := HPXi5.out.cell 0
                have q3 := HPXi5.out.cell 1
                simp only [List.getElem?_toArray, List.getElem?_cons_zero, List.getElem?_cons_succ] at q0 q1 q2 q3
                go_wp2_with fail
                refine ((HDS.out _ HTi5.out).1).mono ?_
                rintro e j5 ⟨rfl, hb⟩
                have HTj5 := Lib.hid (HTi5.out.below hb)
                have HBXj5 := Lib.hid (HBXi5.out.below hb HBXi5.out.lt)
                have HPXj5 := Lib.hid (HPXi5.out.below hb HPXi5.out.lt)
                clear hb HTi5 HBXi5 HPXi5 q0 q1 q2 q3
                have q0 := HBXj5.out.cell 0
                have q1 := HBXj5.out.cell 1
                have q2 := HPXj5.out.cell 0
                have q3 := HPXj5.out.cell 1
                simp only [List.getElem?_toArray, List.getElem?_cons_zero, List.getElem?_cons_succ] at q0 q1 q2 q3
                go_wp2_with fail
                refine (works6_any _).mono ?_
                rintro e wz ⟨rfl, hb⟩
                have HZ := Lib.hid (HTj5.out.one.bel.trans (hb.mono HTj5.out.one.bel.size))
                clear hb
                go_wp2_with fail
                go_ret
                exact ⟨rfl, HZ.out⟩
end T6
end Go.Proofs.Ytghkacciihocdaa
