/- Layer 4's program: All, Prefix, Of, Name. -/
import Derived.Test.YtfbfdjcdjogefaaDoorW3
import Derived.Test.YtfbfdjcdjogefaaDoorW2
import Derived.Defers
import Derived.Recover
namespace Go.Proofs.YtfbfdjcdjogefaaDoor
open Go Go.RowKit
attribute [local go_sem] Oper.semAt_some

theorem blks2 (w : World) (tA tB : TypeId) (A B : Array Value) {w1 : World} (hb : Below ((w.alloc (.cells A tA)).alloc (.cells B tB)).heap.size ((w.alloc (.cells A tA)).alloc (.cells B tB)) w1) :
    Blk w1 w.heap.size tA A ∧ Blk w1 (w.heap.size + 1) tB B ∧ Below w.heap.size w w1 := by
  refine ⟨((Blk.new w _ _).alloc _).below hb (by simp; omega), ?_, (two_below w _ _).trans (hb.mono (by simp; omega))⟩
  have := Blk.new (w.alloc (.cells A tA)) tB B
  simpa using this.below hb this.lt
theorem blks3 (w : World) (tA tB tC : TypeId) (A B C : Array Value) {w1 : World} (hb : Below (((w.alloc (.cells A tA)).alloc (.cells B tB)).alloc (.cells C tC)).heap.size (((w.alloc (.cells A tA)).alloc (.cells B tB)).alloc (.cells C tC)) w1) :
    Blk w1 w.heap.size tA A ∧ Blk w1 (w.heap.size + 1) tB B ∧ Blk w1 (w.heap.size + 1 + 1) tC C ∧ Below w.heap.size w w1 := by
  have h1 := ((two_below w (.cells A tA) (.cells B tB)).alloc (by simp; omega) (.cells C tC))
  refine ⟨(((Blk.new w _ _).alloc _).alloc _).below hb (by simp; omega), ?_, ?_, h1.trans (hb.mono (by simp; omega))⟩
  · have := (Blk.new (w.alloc (.cells A tA)) tB B).alloc (.cells C tC)
    simpa using this.below hb this.lt
  · have := Blk.new ((w.alloc (.cells A tA)).alloc (.cells B tB)) tC C
    simpa using this.below hb this.lt

set_option maxRecDepth 100000 in
theorem all4_any (w : World) :
    Calls Tryd.prog 22 #[] w fun en w' => en = .returned (entV allE) ∧ Below w.heap.size w w' := by
  go_enter Tryd.func22, Tryd.ntmps22
  go_wp2_with fail
  refine ⟨rfl, entV allE, ?_, rfl, (Below.refl _ _).alloc (Nat.le_refl _) _⟩
  simp [results, Tryd.f22, go_sem, allE]

set_option maxRecDepth 100000 in
set_option maxHeartbeats 1600000 in
theorem prefix4_any (e : Ent) (ho : e.Ok) (w : World) :
    Calls Tryd.prog 15 #[entV e] w fun en w' => en = .returned (.tuple #[pfx (preA e) (preL e), .int .i64 (preNo e)]) ∧ Below w.heap.size w w' := by
  have HW := Lib.hid (fun W => why_any e ho W)
  have HL := Lib.hid (fun W => len2_any e.m ho.m0 ho.m1 W)
  have hz := whyE_zero (e := e)
  clear ho
  obtain ⟨f, t, a, m, n, k⟩ := e
  have hbw : Below w.heap.size w (w.alloc (.cells #[.int .i64 f, .int .i64 t, .int .u32 a, .int .u32 m, .int .u32 n, .int .u32 k] 25)) := (Below.refl _ _).alloc (Nat.le_refl _) _
  have HBW := Lib.hid (hbw.alloc (by simp) (.cells #[.int .u32 0, .int .i64 0] 41))
  clear hbw
  unfold preA preL preNo
  dsimp only at *
  generalize whyE ⟨f, t, a, m, n, k⟩ = r at *
  have HB : ∀ w1 : World, Below (((w.alloc (.cells #[.int .i64 f, .int .i64 t, .int .u32 a, .int .u32 m, .int .u32 n, .int .u32 k] 25)).alloc (.cells #[.int .u32 0, .int .i64 0] 41)).heap.size) ((w.alloc (.cells #[.int .i64 f, .int .i64 t, .int .u32 a, .int .u32 m, .int .u32 n, .int .u32 k] 25)).alloc (.cells #[.int .u32 0, .int .i64 0] 41)) w1 →
      Blk w1 w.heap.size 25 #[.int .i64 f, .int .i64 t, .int .u32 a, .int .u32 m, .int .u32 n, .int .u32 k] ∧ Blk w1 (w.heap.size + 1) 41 #[.int .u32 0, .int .i64 0] ∧ Below w.heap.size w w1 := fun w1 hb => by
    refine ⟨((Blk.new w _ _).alloc _).below hb (by simp; omega), ?_, HBW.out.trans (hb.mono (by simp; omega))⟩
    have := Blk.new (w.alloc (.cells #[.int .i64 f, .int .i64 t, .int .u32 a, .int .u32 m, .int .u32 n, .int .u32 k] 25)) 41 #[.int .u32 0, .int .i64 0]
    simpa using this.below hb this.lt
  have HH := Lib.hid HB
  clear HB HBW
  by_cases hr : r = 0
  · subst hr
    obtain ⟨-, ⟨j, j32, hj, hm, -⟩, -⟩ := hz.1 rfl
    rw [if_pos rfl, if_pos rfl, if_pos rfl, hj]
    clear hz hj
    go_enter Tryd.func15, Tryd.ntmps15
    go_wp2_with fail
    refine (HL.out _).mono ?_
    rintro en w2 ⟨⟨j', hj', hm', rfl⟩ | ⟨hno, rfl⟩, rfl⟩
    · obtain rfl := maskOf_inj _ _ hj' j32 (hm'.trans hm.symm)
      clear hm hm' hj' j32
      go_wp2_with fail
      refine (HW.out _).mono ?_
      rintro en w1 ⟨rfl, hb1⟩
      obtain ⟨b1, b2, hbl⟩ := HH.out w1 hb1
      have c2 := b1.cell 2
      have d0 := b2.cell 0
      have d1 := b2.cell 1
      have z0 := b2.frozen 0
      have z1 := b2.frozen 1
      have HBL := Lib.hid hbl
      simp only [List.getElem?_toArray, List.getElem?_cons_zero, List.getElem?_cons_succ] at c2 d0 d1
      clear b1 b2 hbl hb1 HH HW
      go_wp2_with fail
      exact bodyPost_ret (v := .tuple #[pfx a j', .int .i64 0]) (by simp [results, Tryd.results15, go_sem, d0, d1, pfx]) rfl ⟨rfl, (HBL.out.setCell (by simp) _).setCell (by simp) _⟩
    · exact absurd hm (hno j j32)
  · rw [if_neg hr, if_neg hr, if_neg hr]
    have hb : (r != 0) = true := by simpa using hr
    clear hz
    go_enter Tryd.func15, Tryd.ntmps15
    go_wp2_with fail
    refine (HL.out _).mono ?_
    rintro en w2 ⟨⟨j', hj', hm', rfl⟩ | ⟨hno, rfl⟩, rfl⟩
    all_goals
      try clear hm' hj'
      try clear hno
      go_wp2_with fail
      refine (HW.out _).mono ?_
      rintro en w1 ⟨rfl, hb1⟩
      obtain ⟨b1, b2, hbl⟩ := HH.out w1 hb1
      have d0 := b2.cell 0
      have d1 := b2.cell 1
      have z0 := b2.frozen 0
      have z1 := b2.frozen 1
      have HBL := Lib.hid hbl
      simp only [List.getElem?_toArray, List.getElem?_cons_zero, List.getElem?_cons_succ] at d0 d1
      clear b1 b2 hbl hb1 HH HW
      go_wp2_with fail
      exact bodyPost_ret (v := .tuple #[pfx 0 0, .int .i64 140]) (by simp [results, Tryd.results15, go_sem, d0, d1, pfx]) rfl ⟨rfl, (HBL.out.setCell (by simp) _).setCell (by simp) _⟩

/-- Of's entry is good just if its prefix may be told. -/
theorem why_one {x metric : Int} {j : Nat} (hj : j ≤ 32) (m0 : 1 ≤ metric) (m1 : metric ≤ 16) : whyE (oneE x j metric) = 0 ↔ goodP x j := by
  constructor
  · intro h
    obtain ⟨-, ⟨i, i32, hi, hm, hg⟩, -⟩ := whyE_zero.1 h
    have : maskOf i = maskOf j := by simpa [oneE] using hm
    rw [maskOf_inj _ _ i32 hj this] at hg
    exact hg
  · intro h
    exact (pre_one h m0 m1).1

theorem oneE_ok {x metric : Int} {j : Nat} (x0 : 0 ≤ x) (x1 : x < 4294967296) (m0 : 1 ≤ metric) (m1 : metric ≤ 16) : (oneE x j metric).Ok := by
  have := maskOf_range j
  refine ⟨x0, x1, ?_, ?_, by simp [oneE], by simp [oneE], by simp [oneE]; omega, by simp [oneE]; omega⟩
  · simp only [oneE, Int.toNat_natCast]; omega
  · simp only [oneE, Int.toNat_natCast]; omega

set_option maxRecDepth 100000 in
set_option maxHeartbeats 3200000 in
theorem of4_any (x n metric : Int) (x0 : 0 ≤ x) (x1 : x < 4294967296) (w : World) :
    Calls Tryd.prog 20 #[pfx x n, .int .i64 metric] w fun e w' => e = .returned (.tuple #[entV (ofV x n metric), .int .i64 (ofNo x n metric)]) ∧ Below w.heap.size w w' := by
  have HM := Lib.hid (fun W => mask_any n W)
  have HT := Lib.hid (fun W => metI_any metric W)
  by_cases hn : 0 ≤ n ∧ n ≤ 32
  · obtain ⟨j, rfl⟩ : ∃ j : Nat, n = j := ⟨n.toNat, by omega⟩
    have hj : j ≤ 32 := by omega
    have e1 : maskA j = maskOf j := by unfold maskA; rw [if_pos hn]; simp
    have e2 : okA j = 0 := if_pos hn
    rw [e1, e2] at HM
    clear e1 e2 hn
    by_cases hm : 1 ≤ metric ∧ metric ≤ 16
    · have hmb : metB metric = true := by unfold metB; simp [hm]
      rw [hmb] at HT
      have hw : IntKind.u32.wrap metric = metric := by rw [IntKind.wrap_u32]; omega
      have HW := Lib.hid (fun W => why_any (oneE x j metric) (oneE_ok x0 x1 hm.1 hm.2) W)
      have hwo := why_one (x := x) hj hm.1 hm.2
      have hoe : oneE x j metric = ⟨2, 0, x, maskOf j, 0, metric⟩ := by simp [oneE]
      by_cases hg : goodP x j
      · obtain ⟨q1, q2⟩ := ofV_ok ⟨hg, hm⟩
        rw [q1, q2]
        have hz := hwo.2 hg
        rw [hz] at HW
        rw [hoe] at HW ⊢
        clear hz hwo q1 q2 hg hoe hmb hm
        generalize maskOf j = mk at *
        go_enter Tryd.func20, Tryd.ntmps20
        go_wp2_with fail
        refine (HM.out _).mono ?_
        rintro e w1 ⟨rfl, rfl⟩
        go_wp2_with (first | (go_at_call 43; refine (HT.out _).mono ?_; rintro e w1 ⟨rfl, rfl⟩))
        refine (HW.out _).mono ?_
        rintro en w1 ⟨rfl, hb1⟩
        obtain ⟨-, b2, b3, hbl⟩ := blks3 _ _ _ _ _ _ _ hb1
        have d0 := b2.cell 0
        have d1 := b2.cell 1
        have d2 := b2.cell 2
        have d3 := b2.cell 3
        have d4 := b2.cell 4
        have d5 := b2.cell 5
        have z0 := b2.frozen 0
        have z1 := b2.frozen 1
        have z2 := b2.frozen 2
        have z3 := b2.frozen 3
        have z4 := b2.frozen 4
        have z5 := b2.frozen 5
        have c0 := b3.cell 0
        have c1 := b3.cell 1
        have c2 := b3.cell 2
        have c3 := b3.cell 3
        have c4 := b3.cell 4
        have c5 := b3.cell 5
        simp only [List.getElem?_toArray, List.getElem?_cons_zero, List.getElem?_cons_succ] at c0 c1 c2 c3 c4 c5 d0 d1 d2 d3 d4 d5
        have HBL := Lib.hid hbl
        clear hb1 b2 b3 hbl HW HM HT
        go_wp2_with fail
        exact bodyPost_ret (v := .tuple #[entV ⟨2, 0, x, mk, 0, metric⟩, .int .i64 0]) (by simp [results, Tryd.results20, go_sem, d0, d1, d2, d3, d4, d5]) rfl ⟨rfl, (((((HBL.out.setCell (by simp) _).setCell (by simp) _).setCell (by simp) _).setCell (by simp) _).setCell (by simp) _).setCell (by simp) _⟩
      · obtain ⟨q1, q2⟩ := ofV_no (fun h => hg h.1 : ¬ (goodP x j ∧ 1 ≤ metric ∧ metric ≤ 16))
        rw [q1, q2]
        have hr : ¬ whyE (oneE x j metric) = 0 := fun h => hg (hwo.1 h)
        generalize whyE (oneE x j metric) = r at *
        have hrb : (r != 0) = true := by simpa using hr
        rw [hoe] at HW
        clear hwo q1 q2 hg hoe hmb hm hr
        generalize maskOf j = mk at *
        go_enter Tryd.func20, Tryd.ntmps20
        go_wp2_with fail
        refine (HM.out _).mono ?_
        rintro e w1 ⟨rfl, rfl⟩
        go_wp2_with (first | (go_at_call 43; refine (HT.out _).mono ?_; rintro e w1 ⟨rfl, rfl⟩))
        refine (HW.out _).mono ?_
        rintro en w1 ⟨rfl, hb1⟩
        obtain ⟨-, b2, b3, hbl⟩ := blks3 _ _ _ _ _ _ _ hb1
        have d0 := b2.cell 0
        have d1 := b2.cell 1
        have d2 := b2.cell 2
        have d3 := b2.cell 3
        have d4 := b2.cell 4
        have d5 := b2.cell 5
        have z0 := b2.frozen 0
        have z1 := b2.frozen 1
        have z2 := b2.frozen 2
        have z3 := b2.frozen 3
        have z4 := b2.frozen 4
        have z5 := b2.frozen 5
        simp only [List.getElem?_toArray, List.getElem?_cons_zero, List.getElem?_cons_succ] at d0 d1 d2 d3 d4 d5
        have HBL := Lib.hid hbl
        clear hb1 b2 b3 hbl HW HM HT
        go_wp2_with fail
        exact bodyPost_ret (v := .tuple #[entV ⟨0, 0, 0, 0, 0, 0⟩, .int .i64 2]) (by simp [results, Tryd.results20, go_sem, d0, d1, d2, d3, d4, d5]) rfl ⟨rfl, (((((HBL.out.setCell (by simp) _).setCell (by simp) _).setCell (by simp) _).setCell (by simp) _).setCell (by simp) _).setCell (by simp) _⟩
    · obtain ⟨q1, q2⟩ := ofV_no (fun h => hm h.2 : ¬ (goodP x j ∧ 1 ≤ metric ∧ metric ≤ 16))
      rw [q1, q2]
      have hmb : metB metric = false := by unfold metB; rw [Bool.eq_false_iff]; simpa using fun h => by omega
      rw [hmb] at HT
      clear q1 q2 hmb hm
      generalize maskOf j = mk at *
      go_enter Tryd.func20, Tryd.ntmps20
      go_wp2_with fail
      refine (HM.out _).mono ?_
      rintro e w1 ⟨rfl, rfl⟩
      go_wp2_with (first | (go_at_call 43; refine (HT.out _).mono ?_; rintro e w1 ⟨rfl, rfl⟩))
      exact bodyPost_ret (v := .tuple #[entV ⟨0, 0, 0, 0, 0, 0⟩, .int .i64 2]) (by simp [results, Tryd.results20, go_sem]) rfl ⟨rfl, (two_below w _ _).alloc (by simp; omega) _⟩
  · obtain ⟨q1, q2⟩ := ofV_no (fun h => hn ⟨h.1.1.1, h.1.1.2.1⟩ : ¬ (goodP x n ∧ 1 ≤ metric ∧ metric ≤ 16))
    rw [q1, q2]
    have e2 : okA n = 2 := if_neg hn
    rw [e2] at HM
    clear q1 q2 e2 hn
    generalize maskA n = mk at *
    go_enter Tryd.func20, Tryd.ntmps20
    go_wp2_with fail
    refine (HM.out _).mono ?_
    rintro e w1 ⟨rfl, rfl⟩
    go_wp2_with (first | (go_at_call 43; refine (HT.out _).mono ?_; rintro e w1 ⟨rfl, rfl⟩))
    exact bodyPost_ret (v := .tuple #[entV ⟨0, 0, 0, 0, 0, 0⟩, .int .i64 2]) (by simp [results, Tryd.results20, go_sem]) rfl ⟨rfl, (two_below w _ _).alloc (by simp; omega) _⟩
end Go.Proofs.YtfbfdjcdjogefaaDoor
