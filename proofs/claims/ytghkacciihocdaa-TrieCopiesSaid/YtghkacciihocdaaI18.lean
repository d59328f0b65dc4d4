/- Layer 6's program: Take. -/
import Derived.Test.YtghkacciihocdaaI17
namespace Go.Proofs.Ytghkacciihocdaa
open Go Go.RowKit Go.Shelf Go.Sort
attribute [local go_sem] Oper.semAt_some
namespace T6

theorem take_mem {L : List (Key × Int)} {p q : Key} {u : Int} : (q, u) ∈ takeL L p ↔ q ≠ p ∧ (q, u) ∈ L := by
  unfold takeL
  simp only [List.mem_filter, decide_eq_true_eq]
  exact ⟨fun ⟨a, b⟩ => ⟨b, a⟩, fun ⟨a, b⟩ => ⟨b, a⟩⟩
theorem take_sorted {L : List (Key × Int)} (hs : SRow L) (p : Key) : SRow (takeL L p) := hs.sublist List.filter_sublist
theorem DropOf.rows_eq {p : Key} {s s' : Tr} (hw : s.WF) (h : DropOf p s s') : s'.rows = takeL s.rows p :=
  srow_ext (rows_sorted h.wf) (take_sorted (rows_sorted hw) p) fun ⟨q, u⟩ => by rw [h.rows, take_mem]
theorem take_none {L : List (Key × Int)} {p : Key} (h : getR L p = none) : takeL L p = L := by
  unfold takeL
  rw [List.filter_eq_self]
  rintro ⟨a, b⟩ hm
  simp only [decide_eq_true_eq]
  rintro rfl
  exact get_none.1 h b hm
theorem take_len {L : List (Key × Int)} (hs : SRow L) {p : Key} {y : Int} (h : getR L p = some y) : (takeL L p).length + 1 = L.length := by
  induction L with
  | nil => simp [getR] at h
  | cons a L ih =>
    obtain ⟨h1, h2⟩ := List.pairwise_cons.1 hs
    by_cases he : a.1 = p
    · have e2 : getR L p = none := get_none.2 fun v hv => by
        have := h1 _ hv
        rw [he, klt_irrefl] at this
        cases this
      have e3 := take_none e2
      have e4 : takeL (a :: L) p = takeL L p := by unfold takeL; rw [List.filter_cons]; simp [he]
      rw [e4, e3]; rfl
    · have e1 : getR (a :: L) p = getR L p := by unfold getR; rw [List.find?_cons]; simp [he]
      have e4 : takeL (a :: L) p = a :: takeL L p := by unfold takeL; rw [List.filter_cons]; simp [he]
      rw [e4, List.length_cons, List.length_cons, ih h2 (e1 ▸ h)]
theorem Trie.keptC {B : Nat} {w w' : World} {g : Nat} {t : Tr} (h : Trie w g t) (hk : KeptC B w w') : Trie w' g t := ⟨blkC h.own hk, liesC hk h.lies, h.wf, h.nd⟩
theorem Turned.keptC {w : World} {g : Nat} {t : Tr} {L : List (Key × Int)} {W W' : World} {B : Nat} (h : Turned w g t L W) (hk : KeptC B W W') (hB : w.heap.size ≤ B) : Turned w g t L W' := by
  obtain ⟨t', h1, h2, h3, h4⟩ := h
  exact ⟨t', h1.keptC hk, h2, h3, h4.trans (PastC.of (hk.low hB))⟩
theorem dspot_top {w wS : World} {g : Nat} {t : Tr} (hT : Trie w g t) {p : Key} {n : Int} (hn : n = (takeL t.rows p).length) (hb : PastC w.heap.size [g] w wS) (ho : Blk wS g 73 #[.bool true, .pointer (ptr t), .int .i64 n]) :
    DSpot w.heap.size p (Turned w g t (takeL t.rows p)) ⟨g, 1, none⟩ 73 #[.bool true, .pointer (ptr t), .int .i64 n] t wS := by
  have hnd := List.nodup_cons.1 hT.nd
  refine ⟨rfl, ho, .inl rfl, rfl, hb.lies hT.lies fun c hc e => ?_, hT.nd, fun W' s' g1 g2 g3 g4 => ?_⟩
  · simp at e; subst e; exact hnd.1 hc
  · have hr := g4.rows_eq hT.wf
    refine ⟨s', ⟨?_, g3, g4.wf, List.nodup_cons.2 ⟨fun e => hnd.1 (g4.blks.subset e), hnd.2.sublist g4.blks⟩⟩, hr, fun b hb' => .inl (g4.blks.subset hb'), ?_⟩
    · rw [hr, ← hn]
      exact g2
    · exact PastC.trans (hb.mono (fun k hk => by simp at hk; subst hk; exact .inl (by simp))) g1
set_option maxRecDepth 100000 in
set_option maxHeartbeats 1600000 in
theorem take6_any (t : Tr) (p : Key) (hp : p.length ≤ 32) (w : World) (g : Nat) (hT : Trie w g t) (hcap : t.rows.length ≤ 512) :
    Calls Try.prog 25 #[.pointer (some ⟨g, 0, none⟩), pfx (kx p) (kn p)] w fun e w' => e = .returned (.tuple #[.int .i64 (valO (getR t.rows p)), .bool (getR t.rows p).isSome, .int .i64 0]) ∧ Turned w g t (takeL t.rows p) w' := by
  have hb0 := box_below w (.cells #[.int .u32 (kx p), .int .i64 (kn p)] 34)
  have hpb := Blk.new w 34 #[.int .u32 (kx p), .int .i64 (kn p)]
  have d0 := hpb.cell 0
  have d1 := hpb.cell 1
  simp only [List.getElem?_toArray, List.getElem?_cons_zero, List.getElem?_cons_succ] at d0 d1
  have rp := kx_range hp
  have hc : chk (kx p) (kn p) = 0 := if_pos (kp_right hp)
  have HC := Lib.hid hc
  have HT := Lib.hid hT
  have HB0 := Lib.hid hb0
  have HPB := Lib.hid hpb
  have hsr := rows_sorted hT.wf
  have HIT := Lib.hid (hit_rows hT.wf p)
  have HM := Lib.hid (fun W (hW : Trie W g t) => may_any (kx p) (kn p) rp.1 rp.2 W g _ _ hW.own)
  have HGET := Lib.hid (fun W (hW : Trie W g t) => get_any t p hp W g hW)
  rw [HIT.out] at HGET
  have HTOP := Lib.hid (fun (wS : World) (n : Int) (hn : n = ((takeL t.rows p).length : Int)) (hb : PastC w.heap.size [g] w wS) (ho : Blk wS g 73 #[.bool true, .pointer (ptr t), .int .i64 n]) => dspot_top hT hn hb ho)
  have hgl := hT.own.lt
  clear hT hb0 hpb rp hc HIT
  obtain ⟨o, ho⟩ : ∃ o, getR t.rows p = o := ⟨_, rfl⟩
  rw [ho] at HGET ⊢
  rcases o with _ | u
  · have htn := take_none ho
    have HTU := Lib.hid (fun (W : World) (hW : Below w.heap.size w W) => (⟨t, HT.out.below hW, rfl, fun _ h => .inl h, PastC.of (KeptC.calls hW)⟩ : Turned w g t t.rows W))
    rw [htn]
    clear htn hsr ho HTOP
    go_enter Try.func25, Try.ntmps25
    go_wp2_with fail
    refine wp_scope_straight ?_
    go_wp2_with fail
    generalize (w.alloc (.cells #[.int .u32 (kx p), .int .i64 (kn p)] 34)) = W0 at *
    refine (HM.out _ (HT.out.below HB0.out)).mono ?_
    rw [HC.out]
    rintro e w1 ⟨rfl, hb1⟩
    have HB1 := Lib.hid (HB0.out.trans (hb1.mono HB0.out.size))
    have HP1 := Lib.hid (HPB.out.below hb1 HPB.out.lt)
    have d10 := HP1.out.cell 0
    have d11 := HP1.out.cell 1
    simp only [List.getElem?_toArray, List.getElem?_cons_zero, List.getElem?_cons_succ] at d10 d11
    clear hb1 d0 d1 HB0 HPB
    go_wp2_with fail
    refine (HGET.out _ (HT.out.below HB1.out)).mono ?_
    rintro e w2 ⟨rfl, hb2⟩
    have HB2 := Lib.hid (HB1.out.trans (hb2.mono HB1.out.size))
    have HP2 := Lib.hid (HP1.out.below hb2 HP1.out.lt)
    have d20 := HP2.out.cell 0
    have d21 := HP2.out.cell 1
    have hT2 := HT.out.below HB2.out
    have m2 := hT2.own.cell 2
    have f2 := hT2.own.frozen 2
    simp only [List.getElem?_toArray, List.getElem?_cons_zero, List.getElem?_cons_succ] at d20 d21 m2
    have HT2 := Lib.hid hT2
    clear hb2 d10 d11 HB1 HP1 hT2
    clear m2 f2 d20 d21
    go_wp2_with fail
    rw [Exit.noGoto_ret]
    exact bodyPost_ret (v := .tuple #[.int .i64 (valO none), .bool false, .int .i64 0]) (by simp [results, Try.results25, go_sem]) rfl ⟨rfl, HTU.out _ HB2.out⟩
  · have hlen := take_len hsr ho
    have hN : ((takeL t.rows p).length : Int) = (t.rows.length : Int) - 1 := by omega
    have HN := Lib.hid hN
    have HY := Lib.hid ((get_some hsr).1 ho)
    clear hN ho hsr
    go_enter Try.func25, Try.ntmps25
    go_wp2_with fail
    refine wp_scope_straight ?_
    go_wp2_with fail
    generalize (w.alloc (.cells #[.int .u32 (kx p), .int .i64 (kn p)] 34)) = W0 at *
    refine (HM.out _ (HT.out.below HB0.out)).mono ?_
    rw [HC.out]
    rintro e w1 ⟨rfl, hb1⟩
    have HB1 := Lib.hid (HB0.out.trans (hb1.mono HB0.out.size))
    have HP1 := Lib.hid (HPB.out.below hb1 HPB.out.lt)
    have d10 := HP1.out.cell 0
    have d11 := HP1.out.cell 1
    simp only [List.getElem?_toArray, List.getElem?_cons_zero, List.getElem?_cons_succ] at d10 d11
    clear hb1 d0 d1 HB0 HPB
    go_wp2_with fail
    refine (HGET.out _ (HT.out.below HB1.out)).mono ?_
    rintro e w2 ⟨rfl, hb2⟩
    have HB2 := Lib.hid (HB1.out.trans (hb2.mono HB1.out.size))
    have HP2 := Lib.hid (HP1.out.below hb2 HP1.out.lt)
    have d20 := HP2.out.cell 0
    have d21 := HP2.out.cell 1
    have hT2 := HT.out.below HB2.out
    have m2 := hT2.own.cell 2
    have f2 := hT2.own.frozen 2
    simp only [List.getElem?_toArray, List.getElem?_cons_zero, List.getElem?_cons_succ] at d20 d21 m2
    have HT2 := Lib.hid hT2
    clear hb2 d10 d11 HB1 HP1 hT2
    have hP3 : PastC w.heap.size [g] w (w2.setCell ⟨g, 2, none⟩ (.int .i64 ((t.rows.length : Int) - 1))) := (PastC.of (KeptC.calls HB2.out)).trans (PastC.set_ _ _ _)
    have hB3 : Blk (w2.setCell ⟨g, 2, none⟩ (.int .i64 ((t.rows.length : Int) - 1))) g 73 #[.bool true, .pointer (ptr t), .int .i64 ((t.rows.length : Int) - 1)] := by
      have := HT2.out.own.set_ 2 (.int .i64 ((t.rows.length : Int) - 1))
      simpa using this
    have hZ3 : w.heap.size ≤ (w2.setCell ⟨g, 2, none⟩ (.int .i64 ((t.rows.length : Int) - 1))).heap.size := hP3.size
    have HDR := Lib.hid (drop_any w.heap.size t p u hp _ g _ hZ3 HT.out.wf HY.out (Turned w g t (takeL t.rows p)) (fun W W' h hk => h.keptC hk (Nat.le_refl _)) (HTOP.out _ _ HN.out.symm hP3 hB3))
    clear hP3 hB3 hZ3 hlen
    have hwr : IntKind.i64.wrap ((t.rows.length : Int) - 1) = (t.rows.length : Int) - 1 := by rw [IntKind.wrap_i64]; omega
    go_wp2_with fail
    refine HDR.out.mono ?_
    rintro e w4 ⟨⟨u4, rfl⟩, hD⟩
    have HD := Lib.hid hD
    clear hD HDR
    go_wp2_with fail
    rw [Exit.noGoto_ret]
    exact bodyPost_ret (v := .tuple #[.int .i64 (valO (some u)), .bool true, .int .i64 0]) (by simp [results, Try.results25, go_sem]) rfl ⟨rfl, HD.out⟩
set_option maxRecDepth 100000 in
theorem takeNo_any (q : Option Addr) (x n : Int) (x0 : 0 ≤ x) (x1 : x < 4294967296) (w : World) (hno : NoWay q x n w) :
    Calls Try.prog 25 #[.pointer q, pfx x n] w fun e w' => e = .returned (.tuple #[.int .i64 0, .bool false, .int .i64 (noE q)]) ∧ Below w.heap.size w w' := by
  have hb0 := box_below w (.cells #[.int .u32 x, .int .i64 n] 34)
  have hpb := Blk.new w 34 #[.int .u32 x, .int .i64 n]
  have d0 := hpb.cell 0
  have d1 := hpb.cell 1
  simp only [List.getElem?_toArray, List.getElem?_cons_zero, List.getElem?_cons_succ] at d0 d1
  have HN := Lib.hid (hno.below hb0)
  have HB0 := Lib.hid hb0
  clear hb0 hpb hno
  obtain ⟨k0, hk0⟩ : ∃ k0, noE q = k0 := ⟨_, rfl⟩
  rw [hk0]
  have HK := Lib.hid hk0
  clear hk0
  go_enter Try.func25, Try.ntmps25
  go_wp2_with fail
  refine wp_scope_fwd 0 rfl ?_
  go_wp2_with fail
  generalize (w.alloc (.cells #[.int .u32 x, .int .i64 n] 34)) = W0 at *
  refine (mayNo_any q x n x0 x1 _ HN.out).mono ?_
  rintro e w1 ⟨⟨k, hk, hkq, rfl⟩, hb1⟩
  have hke : k = k0 := by
    rw [← HK.out]; unfold noE
    rcases hkq with ⟨h1, h2⟩ | ⟨h1, h2⟩
    · rw [if_pos h1]; exact h2
    · rw [if_neg h1]; exact h2
  subst hke
  have HB1 := Lib.hid (HB0.out.trans (hb1.mono HB0.out.size))
  have hk' : (k != 0) = true := by simpa using hk
  clear hb1 d0 d1 HB0 HN hk hkq
  go_wp2_with fail
  go_step3
  refine ⟨rfl, ?_⟩
  go_wp2_with fail
  rw [Exit.noGoto_ret]
  exact bodyPost_ret (v := .tuple #[.int .i64 0, .bool false, .int .i64 k]) (by simp [results, Try.results25, go_sem]) rfl ⟨rfl, HB1.out⟩
end T6
end Go.Proofs.Ytghkacciihocdaa
