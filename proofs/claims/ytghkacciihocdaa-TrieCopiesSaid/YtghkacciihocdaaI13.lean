/- Layer 6's program: Put. -/
import Derived.Test.YtghkacciihocdaaI12
namespace Go.Proofs.Ytghkacciihocdaa
open Go Go.RowKit Go.Shelf Go.Sort
attribute [local go_sem] Oper.semAt_some
namespace T6

theorem PastC.low {B B' : Nat} {S : List Nat} {W W' : World} (h : PastC B S W W') (hB : B' ≤ B) : PastC B' S W W' := ⟨h.size, h.os, h.tape, h.output, fun k o ho hS hc => h.same k o ho hS (hc.imp (fun h => by omega) id)⟩
/-- What a call that changes a trie leaves: a trie of these rows, of its own blocks and new ones; all else is as it was. -/
def Turned (w : World) (g : Nat) (t : Tr) (L : List (Key × Int)) (w' : World) : Prop := ∃ t', Trie w' g t' ∧ t'.rows = L ∧ (∀ b ∈ t'.blks, b ∈ t.blks ∨ w.heap.size ≤ b) ∧ PastC w.heap.size (g :: t.blks) w w'
theorem spot_top {w wS : World} {g : Nat} {t : Tr} (hT : Trie w g t) {p : Key} {v : Int} {n : Int} (hn : n = (putL t.rows p v).length) (hb : PastC w.heap.size [g] w wS) (ho : Blk wS g 73 #[.bool true, .pointer (ptr t), .int .i64 n]) :
    Spot wS.heap.size p v (Turned w g t (putL t.rows p v)) ⟨g, 1, none⟩ 73 #[.bool true, .pointer (ptr t), .int .i64 n] t wS := by
  have hnd := List.nodup_cons.1 hT.nd
  refine ⟨rfl, ho, .inl rfl, rfl, hb.lies hT.lies fun c hc e => ?_, hT.nd, fun W' s' g1 g2 g3 g4 g5 g6 => ?_⟩
  · simp at e; subst e; exact hnd.1 hc
  · have hr := g4.rows_eq hT.wf
    refine ⟨s', ⟨?_, g3, g4.wf, List.nodup_cons.2 ⟨fun e => ?_, g5⟩⟩, hr, fun b hb' => (g6 b hb').imp id fun h => Nat.le_trans hb.size h, ?_⟩
    · rw [hr, ← hn]
      exact g2
    · rcases g6 _ e with e | e
      · exact hnd.1 e
      · have := ho.lt; omega
    · exact PastC.trans (hb.mono (fun k hk => by simp at hk; subst hk; exact .inl (by simp))) (g1.low hb.size)
set_option maxRecDepth 100000 in
set_option maxHeartbeats 1600000 in
theorem put6_any (t : Tr) (p : Key) (hp : p.length ≤ 32) (v : Int) (w : World) (g : Nat) (hT : Trie w g t) (hcap : t.rows.length ≤ 512) (hok : (getR t.rows p).isSome = true ∨ t.rows.length < 512) :
    Calls Try.prog 19 #[.pointer (some ⟨g, 0, none⟩), pfx (kx p) (kn p), .int .i64 v] w fun e w' => e = .returned (.tuple #[.int .i64 (valO (getR t.rows p)), .bool (getR t.rows p).isSome, .int .i64 0]) ∧ Turned w g t (putL t.rows p v) w' := by
  have hb0 := box_below w (.cells #[.int .u32 (kx p), .int .i64 (kn p)] 34)
  have hpb := Blk.new w 34 #[.int .u32 (kx p), .int .i64 (kn p)]
  have d0 := hpb.cell 0
  have d1 := hpb.cell 1
  simp only [List.getElem?_toArray, List.getElem?_cons_zero, List.getElem?_cons_succ] at d0 d1
  have rp := kx_range hp
  have hc : chk (kx p) (kn p) = 0 := if_pos (kp_right hp)
  have HC := Lib.hid hc
  have HT := Lib.hid hT
  have HB0 := Lib.hid hb0
  have HPB := Lib.hid hpb
  have HLEN := Lib.hid (put_len (rows_sorted hT.wf) p v)
  have HIT := Lib.hid (hit_rows hT.wf p)
  have HM := Lib.hid (fun W (hW : Trie W g t) => may_any (kx p) (kn p) rp.1 rp.2 W g _ _ hW.own)
  have HGET := Lib.hid (fun W (hW : Trie W g t) => get_any t p hp W g hW)
  rw [HIT.out] at HGET
  have HTOP := Lib.hid (fun (wS : World) (n : Int) (hn : n = ((putL t.rows p v).length : Int)) (hb : PastC w.heap.size [g] w wS) (ho : Blk wS g 73 #[.bool true, .pointer (ptr t), .int .i64 n]) => spot_top hT hn hb ho)
  have hgl := hT.own.lt
  clear hT hb0 hpb rp hc HIT
  obtain ⟨o, ho⟩ : ∃ o, getR t.rows p = o := ⟨_, rfl⟩
  rw [ho] at HGET HLEN hok ⊢
  have hfin2 : ∀ (W1 W : World) (b : Nat) (h : Bool) (v0 : Int) (l r : Tr), w.heap.size ≤ W1.heap.size → Blk W b 81 (cellsN p h v0 l r) → (∀ W', PastC W1.heap.size [b] W W' → Blk W' b 81 (cellsN p true v l r) → Turned w g t (putL t.rows p v) W') → Turned w g t (putL t.rows p v) ((W.setCell ⟨b, 2, none⟩ (.bool true)).setCell ⟨b, 3, none⟩ (.int .i64 v)) := fun W1 W b h v0 l r hle hB hW => by
    refine hW _ ((PastC.set_ _ _ _).trans (PastC.set_ _ _ _)) ?_
    have := (hB.set_ 2 (.bool true)).set_ 3 (.int .i64 v)
    simpa [cellsN] using this
  have HFIN2 := Lib.hid hfin2
  have HGROW := Lib.hid (fun (W : World) (n : Value) (hs : Spot W.heap.size p v (Turned w g t (putL t.rows p v)) ⟨g, 1, none⟩ 73 #[.bool true, .pointer (ptr t), n] t W) => grow6_any t p hp v W g n (HT.out.wf) _ hs)
  clear hfin2
  rcases o with _ | u
  · have hlt : t.rows.length < 512 := hok.elim (fun h => by simp at h) id
    have hN : ((putL t.rows p v).length : Int) = (t.rows.length : Int) + 1 := by have := HLEN.out; simp at this; omega
    have hne : ((t.rows.length : Int) == 512) = false := by simp; omega
    have HN := Lib.hid hN
    clear hN HLEN hok
    go_enter Try.func19, Try.ntmps19
    go_wp2_with fail
    refine wp_scope_straight ?_
    go_wp2_with fail
    generalize (w.alloc (.cells #[.int .u32 (kx p), .int .i64 (kn p)] 34)) = W0 at *
    refine (HM.out _ (HT.out.below HB0.out)).mono ?_
    rw [HC.out]
    rintro e w1 ⟨rfl, hb1⟩
    have HB1 := Lib.hid (HB0.out.trans (hb1.mono HB0.out.size))
    have HP1 := Lib.hid (HPB.out.below hb1 HPB.out.lt)
    have d10 := HP1.out.cell 0
    have d11 := HP1.out.cell 1
    simp only [List.getElem?_toArray, List.getElem?_cons_zero, List.getElem?_cons_succ] at d10 d11
    clear hb1 d0 d1 HB0 HPB
    go_wp2_with fail
    refine (HGET.out _ (HT.out.below HB1.out)).mono ?_
    rintro e w2 ⟨rfl, hb2⟩
    have HB2 := Lib.hid (HB1.out.trans (hb2.mono HB1.out.size))
    have HP2 := Lib.hid (HP1.out.below hb2 HP1.out.lt)
    have d20 := HP2.out.cell 0
    have d21 := HP2.out.cell 1
    have hT2 := HT.out.below HB2.out
    have m2 := hT2.own.cell 2
    have f2 := hT2.own.frozen 2
    simp only [List.getElem?_toArray, List.getElem?_cons_zero, List.getElem?_cons_succ] at d20 d21 m2
    have HT2 := Lib.hid hT2
    clear hb2 d10 d11 HB1 HP1 hT2
    have hP3 : PastC w.heap.size [g] w (w2.setCell ⟨g, 2, none⟩ (.int .i64 ((t.rows.length : Int) + 1))) := (PastC.of (KeptC.calls HB2.out)).trans (PastC.set_ _ _ _)
    have hB3 : Blk (w2.setCell ⟨g, 2, none⟩ (.int .i64 ((t.rows.length : Int) + 1))) g 73 #[.bool true, .pointer (ptr t), .int .i64 ((t.rows.length : Int) + 1)] := by
      have := HT2.out.own.set_ 2 (.int .i64 ((t.rows.length : Int) + 1))
      simpa using this
    have hZ3 : w.heap.size ≤ (w2.setCell ⟨g, 2, none⟩ (.int .i64 ((t.rows.length : Int) + 1))).heap.size := hP3.size
    have HP3 := Lib.hid hP3
    have HB3 := Lib.hid hB3
    have HZ3 := Lib.hid hZ3
    clear hP3 hB3 hZ3
    have hwr : IntKind.i64.wrap ((t.rows.length : Int) + 1) = (t.rows.length : Int) + 1 := by rw [IntKind.wrap_i64]; omega
    go_wp2_with fail
    refine (HGROW.out _ _ (HTOP.out _ _ HN.out.symm HP3.out HB3.out)).mono ?_
    rintro e w4 ⟨b, h, v0, l, r, rfl, hB, hW⟩
    have hD := HFIN2.out _ w4 b h v0 l r HZ3.out hB hW
    have HD := Lib.hid hD
    have HBN := Lib.hid hB
    clear hB hW hD
    go_wp2_with fail
    refine (set6_any w4 b (cellsN p h v0 l r) v rfl HBN.out).mono ?_
    rintro e w5 ⟨⟨u5, rfl⟩, rfl⟩
    clear HBN
    generalize ((w4.setCell ⟨b, 2, none⟩ (.bool true)).setCell ⟨b, 3, none⟩ (.int .i64 v)) = w6 at *
    go_wp2_with fail
    rw [Exit.noGoto_ret]
    exact bodyPost_ret (v := .tuple #[.int .i64 (valO none), .bool false, .int .i64 0]) (by simp [results, Try.results19, go_sem]) rfl ⟨rfl, HD.out⟩
  · have hN : ((putL t.rows p v).length : Int) = (t.rows.length : Int) := by have := HLEN.out; simp at this; omega
    have HN := Lib.hid hN
    clear hN HLEN hok
    go_enter Try.func19, Try.ntmps19
    go_wp2_with fail
    refine wp_scope_straight ?_
    go_wp2_with fail
    generalize (w.alloc (.cells #[.int .u32 (kx p), .int .i64 (kn p)] 34)) = W0 at *
    refine (HM.out _ (HT.out.below HB0.out)).mono ?_
    rw [HC.out]
    rintro e w1 ⟨rfl, hb1⟩
    have HB1 := Lib.hid (HB0.out.trans (hb1.mono HB0.out.size))
    have HP1 := Lib.hid (HPB.out.below hb1 HPB.out.lt)
    have d10 := HP1.out.cell 0
    have d11 := HP1.out.cell 1
    simp only [List.getElem?_toArray, List.getElem?_cons_zero, List.getElem?_cons_succ] at d10 d11
    clear hb1 d0 d1 HB0 HPB
    go_wp2_with fail
    refine (HGET.out _ (HT.out.below HB1.out)).mono ?_
    rintro e w2 ⟨rfl, hb2⟩
    have HB2 := Lib.hid (HB1.out.trans (hb2.mono HB1.out.size))
    have HP2 := Lib.hid (HP1.out.below hb2 HP1.out.lt)
    have d20 := HP2.out.cell 0
    have d21 := HP2.out.cell 1
    have hT2 := HT.out.below HB2.out
    have m2 := hT2.own.cell 2
    have f2 := hT2.own.frozen 2
    simp only [List.getElem?_toArray, List.getElem?_cons_zero, List.getElem?_cons_succ] at d20 d21 m2
    have HT2 := Lib.hid hT2
    clear hb2 d10 d11 HB1 HP1 hT2
    have hP3 : PastC w.heap.size [g] w w2 := PastC.of (KeptC.calls HB2.out)
    have HP3 := Lib.hid hP3
    have HB3 := Lib.hid HT2.out.own
    have HZ3 := Lib.hid hP3.size
    clear hP3 m2 f2
    go_wp2_with fail
    refine (HGROW.out _ _ (HTOP.out _ _ HN.out.symm HP3.out HB3.out)).mono ?_
    rintro e w4 ⟨b, h, v0, l, r, rfl, hB, hW⟩
    have hD := HFIN2.out _ w4 b h v0 l r HZ3.out hB hW
    have HD := Lib.hid hD
    have HBN := Lib.hid hB
    clear hB hW hD
    go_wp2_with fail
    refine (set6_any w4 b (cellsN p h v0 l r) v rfl HBN.out).mono ?_
    rintro e w5 ⟨⟨u5, rfl⟩, rfl⟩
    clear HBN
    generalize ((w4.setCell ⟨b, 2, none⟩ (.bool true)).setCell ⟨b, 3, none⟩ (.int .i64 v)) = w6 at *
    go_wp2_with fail
    rw [Exit.noGoto_ret]
    exact bodyPost_ret (v := .tuple #[.int .i64 (valO (some u)), .bool true, .int .i64 0]) (by simp [results, Try.results19, go_sem]) rfl ⟨rfl, HD.out⟩
set_option maxRecDepth 100000 in
set_option maxHeartbeats 1600000 in
/-- There is no room. -/
theorem putFull_any (t : Tr) (p : Key) (hp : p.length ≤ 32) (v : Int) (w : World) (g : Nat) (hT : Trie w g t) (hcap : t.rows.length = 512) (hno : getR t.rows p = none) :
    Calls Try.prog 19 #[.pointer (some ⟨g, 0, none⟩), pfx (kx p) (kn p), .int .i64 v] w fun e w' => e = .returned (.tuple #[.int .i64 0, .bool false, .int .i64 3]) ∧ Below w.heap.size w w' := by
  have hb0 := box_below w (.cells #[.int .u32 (kx p), .int .i64 (kn p)] 34)
  have hpb := Blk.new w 34 #[.int .u32 (kx p), .int .i64 (kn p)]
  have d0 := hpb.cell 0
  have d1 := hpb.cell 1
  simp only [List.getElem?_toArray, List.getElem?_cons_zero, List.getElem?_cons_succ] at d0 d1
  have rp := kx_range hp
  have hc : chk (kx p) (kn p) = 0 := if_pos (kp_right hp)
  have HC := Lib.hid hc
  have HT := Lib.hid hT
  have HB0 := Lib.hid hb0
  have HPB := Lib.hid hpb
  have HIT := Lib.hid (hit_rows hT.wf p)
  have HM := Lib.hid (fun W (hW : Trie W g t) => may_any (kx p) (kn p) rp.1 rp.2 W g _ _ hW.own)
  have HGET := Lib.hid (fun W (hW : Trie W g t) => get_any t p hp W g hW)
  rw [HIT.out, hno] at HGET
  have hgl := hT.own.lt
  have hle : ((t.rows.length : Int) == 512) = true := by simp; omega
  clear hT hb0 hpb rp hc HIT hno
  go_enter Try.func19, Try.ntmps19
  go_wp2_with fail
  refine wp_scope_fwd 0 rfl ?_
  go_wp2_with fail
  generalize (w.alloc (.cells #[.int .u32 (kx p), .int .i64 (kn p)] 34)) = W0 at *
  refine (HM.out _ (HT.out.below HB0.out)).mono ?_
  rw [HC.out]
  rintro e w1 ⟨rfl, hb1⟩
  have HB1 := Lib.hid (HB0.out.trans (hb1.mono HB0.out.size))
  have HP1 := Lib.hid (HPB.out.below hb1 HPB.out.lt)
  have d10 := HP1.out.cell 0
  have d11 := HP1.out.cell 1
  simp only [List.getElem?_toArray, List.getElem?_cons_zero, List.getElem?_cons_succ] at d10 d11
  clear hb1 d0 d1 HB0 HPB
  go_wp2_with fail
  refine (HGET.out _ (HT.out.below HB1.out)).mono ?_
  rintro e w2 ⟨rfl, hb2⟩
  have HB2 := Lib.hid (HB1.out.trans (hb2.mono HB1.out.size))
  have hT2 := HT.out.below HB2.out
  have m2 := hT2.own.cell 2
  simp only [List.getElem?_toArray, List.getElem?_cons_zero, List.getElem?_cons_succ] at m2
  clear hb2 d10 d11 HB1 HP1 hT2
  go_wp2_with fail
  go_step3
  refine ⟨rfl, ?_⟩
  go_wp2_with fail
  rw [Exit.noGoto_ret]
  exact bodyPost_ret (v := .tuple #[.int .i64 0, .bool false, .int .i64 3]) (by simp [results, Try.results19, go_sem]) rfl ⟨rfl, HB2.out⟩
/-- No trie, or a prefix that may not be. -/
def noE (q : Option Addr) : Int := if q = none then 1 else 2
set_option maxRecDepth 100000 in
theorem putNo_any (q : Option Addr) (x n : Int) (x0 : 0 ≤ x) (x1 : x < 4294967296) (v : Int) (w : World) (hno : NoWay q x n w) :
    Calls Try.prog 19 #[.pointer q, pfx x n, .int .i64 v] w fun e w' => e = .returned (.tuple #[.int .i64 0, .bool false, .int .i64 (noE q)]) ∧ Below w.heap.size w w' := by
  have hb0 := box_below w (.cells #[.int .u32 x, .int .i64 n] 34)
  have hpb := Blk.new w 34 #[.int .u32 x, .int .i64 n]
  have d0 := hpb.cell 0
  have d1 := hpb.cell 1
  simp only [List.getElem?_toArray, List.getElem?_cons_zero, List.getElem?_cons_succ] at d0 d1
  have HN := Lib.hid (hno.below hb0)
  have HB0 := Lib.hid hb0
  clear hb0 hpb hno
  obtain ⟨k0, hk0⟩ : ∃ k0, noE q = k0 := ⟨_, rfl⟩
  rw [hk0]
  have HK := Lib.hid hk0
  clear hk0
  go_enter Try.func19, Try.ntmps19
  go_wp2_with fail
  refine wp_scope_fwd 0 rfl ?_
  go_wp2_with fail
  generalize (w.alloc (.cells #[.int .u32 x, .int .i64 n] 34)) = W0 at *
  refine (mayNo_any q x n x0 x1 _ HN.out).mono ?_
  rintro e w1 ⟨⟨k, hk, hkq, rfl⟩, hb1⟩
  have hke : k = k0 := by
    rw [← HK.out]; unfold noE
    rcases hkq with ⟨h1, h2⟩ | ⟨h1, h2⟩
    · rw [if_pos h1]; exact h2
    · rw [if_neg h1]; exact h2
  subst hke
  have HB1 := Lib.hid (HB0.out.trans (hb1.mono HB0.out.size))
  have hk' : (k != 0) = true := by simpa using hk
  clear hb1 d0 d1 HB0 HN hk hkq
  go_wp2_with fail
  go_step3
  refine ⟨rfl, ?_⟩
  go_wp2_with fail
  rw [Exit.noGoto_ret]
  exact bodyPost_ret (v := .tuple #[.int .i64 0, .bool false, .int .i64 k]) (by simp [results, Try.results19, go_sem]) rfl ⟨rfl, HB1.out⟩
end T6
end Go.Proofs.Ytghkacciihocdaa
