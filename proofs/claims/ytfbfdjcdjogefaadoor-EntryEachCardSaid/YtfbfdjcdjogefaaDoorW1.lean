/- Layer 4's reference: Right, Kind, Why, All, Prefix. -/
import Derived.Test.YtfbfdjcdjogefaaDoorV2
import Derived.Test.YtfbfdjcdjogefaaDoorC4
namespace Go.Proofs.YtfbfdjcdjogefaaDoor
open Go Go.RowKit
attribute [local go_sem] Oper.semAt_some

/-- An entry as a value, and as it lies. -/
abbrev entV (e : Ent) : Value := .agg #[.int .i64 e.f, .int .i64 e.t, .int .u32 e.a, .int .u32 e.m, .int .u32 e.n, .int .u32 e.k]
abbrev entC (e : Ent) : Array Value := #[.int .i64 e.f, .int .i64 e.t, .int .u32 e.a, .int .u32 e.m, .int .u32 e.n, .int .u32 e.k]

theorem kindOf_range (a : Int) : kindOf a = 1 ∨ kindOf a = 2 ∨ kindOf a = 3 ∨ kindOf a = 4 ∨ kindOf a = 5 ∨ kindOf a = 6 := by
  unfold kindOf
  repeat' split
  all_goals simp

theorem kindX_is (a m : Int) : decide (kindX a m) = ((decide (2 ≤ kindOf a) && decide (kindOf a ≤ 5)) || (decide (kindOf a = 1) && decide (m ≠ 0))) := by
  rw [Bool.eq_iff_iff, decide_eq_true_iff]
  unfold kindX
  simp

set_option maxRecDepth 100000 in
set_option maxHeartbeats 800000 in
theorem refKind4_any (a m : Int) (a0 : 0 ≤ a) (a1 : a < 4294967296) (w : World) :
    Calls Tryd.prog 40 #[.int .u32 a, .int .u32 m] w fun e w' => e = .returned (.bool (decide (kindX a m))) ∧ Below w.heap.size w w' := by
  have hq := kindOf_range a
  rw [kindX_is]
  have HR := Lib.hid (fun W => refKind_any a a0 a1 W)
  generalize kindOf a = q at *
  by_cases hm : m = 0
  · have hb : (m != 0) = false := by simpa using hm
    rcases hq with rfl | rfl | rfl | rfl | rfl | rfl
    all_goals
      go_enter Tryd.func40, Tryd.ntmps40
      go_wp2_with fail
      refine (HR.out _).mono ?_
      rintro e w1 ⟨rfl, hb1⟩
      go_wp2_with fail
      go_ret
      exact ⟨by simp [hm], hb1⟩
  · have hb : (m != 0) = true := by simpa using hm
    rcases hq with rfl | rfl | rfl | rfl | rfl | rfl
    all_goals
      go_enter Tryd.func40, Tryd.ntmps40
      go_wp2_with fail
      refine (HR.out _).mono ?_
      rintro e w1 ⟨rfl, hb1⟩
      go_wp2_with fail
      go_ret
      exact ⟨by simp [hm], hb1⟩

set_option maxRecDepth 100000 in
set_option maxHeartbeats 800000 in
theorem refRight4_any (e : Ent) (w : World) :
    Calls Tryd.prog 13 #[entV e] w fun en w' => en = .returned (.bool (decide (rightE e))) ∧ Below w.heap.size w w' := by
  obtain ⟨f, t, a, m, n, k⟩ := e
  have hbw : Below w.heap.size w (w.alloc (.cells #[.int .i64 f, .int .i64 t, .int .u32 a, .int .u32 m, .int .u32 n, .int .u32 k] 25)) := (Below.refl _ _).alloc (Nat.le_refl _) _
  have HBW := Lib.hid hbw
  clear hbw
  have hd : decide (rightE ⟨f, t, a, m, n, k⟩) = (decide (0 ≤ f) && (decide (f ≤ 65535) && (decide (0 ≤ t) && decide (t ≤ 65535)))) := by
    rw [Bool.eq_iff_iff, decide_eq_true_iff]
    unfold rightE
    simp
  rw [hd]
  clear hd
  by_cases h1 : 0 ≤ f
  · have h1' : decide (0 ≤ f) = true := decide_eq_true h1
    by_cases h2 : f ≤ 65535
    · have h2' : decide (f ≤ 65535) = true := decide_eq_true h2
      by_cases h3 : 0 ≤ t
      · have h3' : decide (0 ≤ t) = true := decide_eq_true h3
        go_enter Tryd.func13, Tryd.ntmps13
        go_wp2_with fail
        go_ret
        exact ⟨by first | rfl | simp [*], HBW.out⟩
      · have h3' : decide (0 ≤ t) = false := decide_eq_false h3
        go_enter Tryd.func13, Tryd.ntmps13
        go_wp2_with fail
        go_ret
        exact ⟨by first | rfl | simp [*], HBW.out⟩
    · have h2' : decide (f ≤ 65535) = false := decide_eq_false h2
      go_enter Tryd.func13, Tryd.ntmps13
      go_wp2_with fail
      go_ret
      exact ⟨by first | rfl | simp [*], HBW.out⟩
  · have h1' : decide (0 ≤ f) = false := decide_eq_false h1
    go_enter Tryd.func13, Tryd.ntmps13
    go_wp2_with fail
    go_ret
    exact ⟨by first | rfl | simp [*], HBW.out⟩

set_option maxRecDepth 100000 in
set_option maxHeartbeats 1600000 in
theorem refWhy_any (e : Ent) (ho : e.Ok) (w : World) :
    Calls Tryd.prog 18 #[entV e] w fun en w' => en = .returned (.int .i64 (whyE e)) ∧ Below w.heap.size w w' := by
  obtain ⟨f, t, a, m, n, k⟩ := e
  obtain ⟨a0, a1, -, -, -, -, k0, k1⟩ := ho
  dsimp only at a0 a1 k0 k1
  have hbw : Below w.heap.size w (w.alloc (.cells #[.int .i64 f, .int .i64 t, .int .u32 a, .int .u32 m, .int .u32 n, .int .u32 k] 25)) := (Below.refl _ _).alloc (Nat.le_refl _) _
  have HBW := Lib.hid hbw
  clear hbw
  have hw := whyE.eq_1 ⟨f, t, a, m, n, k⟩
  dsimp only at hw
  go_enter Tryd.func18, Tryd.ntmps18
  by_cases hf : f = 2
  · subst hf
    rw [if_neg (by decide)] at hw
    have HW := Lib.hid hw
    clear hw
    go_wp2_with fail
    refine (refLen_any m _).mono ?_
    rintro en w1 ⟨⟨j, hj, hm, rfl⟩ | ⟨hno, rfl⟩, rfl⟩
    · have hw := HW.out
      rw [lenF_some hj hm] at hw
      dsimp only at hw
      by_cases hr : right a j
      · rw [if_neg (not_not_intro hr)] at hw
        have hrd : decide (right a j) = true := decide_eq_true hr
        have HR := Lib.hid (fun W => refRight_any a j a0 a1 W)
        rw [hrd] at HR
        have HK := Lib.hid (fun W => refKind4_any a m a0 a1 W)
        by_cases hk : kindX a m
        · rw [if_pos hk] at hw
          rw [decide_eq_true hk] at HK
          have HW2 := Lib.hid hw
          clear hw HW hr hrd hk
          go_wp2_with fail
          refine (HR.out _).mono ?_
          rintro en w1 ⟨rfl, hb1⟩
          have bl := (Blk.new w 25 #[.int .i64 2, .int .i64 t, .int .u32 a, .int .u32 m, .int .u32 n, .int .u32 k]).below hb1 (by simp)
          have c2 := bl.cell 2
          have c3 := bl.cell 3
          have HB1 := Lib.hid (HBW.out.trans (hb1.mono (by simp)))
          clear bl hb1
          go_wp2_with fail
          refine (HK.out _).mono ?_
          rintro en w2 ⟨rfl, hb2⟩
          go_wp2_with fail
          go_ret
          exact ⟨by rw [HW2.out]; rfl, HB1.out.trans (hb2.mono HB1.out.size)⟩
        · rw [if_neg hk] at hw
          rw [decide_eq_false hk] at HK
          have HW2 := Lib.hid hw
          clear hw HW hr hrd hk
          go_wp2_with fail
          refine (HR.out _).mono ?_
          rintro en w1 ⟨rfl, hb1⟩
          have bl := (Blk.new w 25 #[.int .i64 2, .int .i64 t, .int .u32 a, .int .u32 m, .int .u32 n, .int .u32 k]).below hb1 (by simp)
          have c2 := bl.cell 2
          have c3 := bl.cell 3
          have HB1 := Lib.hid (HBW.out.trans (hb1.mono (by simp)))
          have HBL := Lib.hid bl
          clear bl hb1
          go_wp2_with fail
          refine (HK.out _).mono ?_
          rintro en w2 ⟨rfl, hb2⟩
          have bl := HBL.out.below hb2 HBL.out.lt
          have c4 := bl.cell 4
          have c5 := bl.cell 5
          have HB2 := Lib.hid (HB1.out.trans (hb2.mono HB1.out.size))
          clear bl hb2 HBL HB1
          by_cases hn : n = 0
          · subst hn
            by_cases h1 : k < 1
            · go_wp2_with fail
              go_ret
              exact ⟨by rw [HW2.out, if_neg (by decide), if_pos (.inl h1)]; rfl, HB2.out⟩
            · by_cases h2 : 16 < k
              · go_wp2_with fail
                go_ret
                exact ⟨by rw [HW2.out, if_neg (by decide), if_pos (.inr h2)]; rfl, HB2.out⟩
              · go_wp2_with fail
                go_ret
                exact ⟨by rw [HW2.out, if_neg (by decide), if_neg (by omega)]; rfl, HB2.out⟩
          · have hnb : (n != 0) = true := by simpa using hn
            go_wp2_with fail
            go_ret
            exact ⟨by rw [HW2.out, if_pos hn]; rfl, HB2.out⟩
      · rw [if_pos hr] at hw
        have hrd : decide (right a j) = false := decide_eq_false hr
        have HR := Lib.hid (fun W => refRight_any a j a0 a1 W)
        rw [hrd] at HR
        have HW2 := Lib.hid hw
        clear hw HW hr hrd
        go_wp2_with fail
        refine (HR.out _).mono ?_
        rintro en w1 ⟨rfl, hb1⟩
        go_wp2_with fail
        go_ret
        exact ⟨by rw [HW2.out]; rfl, HBW.out.trans (hb1.mono (by simp))⟩
    · have hw := HW.out
      rw [lenF_none hno] at hw
      have HW2 := Lib.hid hw
      clear hw HW hno
      go_wp2_with fail
      go_ret
      exact ⟨by rw [HW2.out]; rfl, HBW.out⟩
  · rw [if_pos hf] at hw
    have HW := Lib.hid hw
    have hfb : (f != 2) = true := by simpa using hf
    clear hw
    go_wp2_with fail
    refine (refLen_any m _).mono ?_
    rintro en w1 ⟨⟨j, hj, hm, rfl⟩ | ⟨hno, rfl⟩, rfl⟩
    · clear hm hj
      go_wp2_with fail
      go_ret
      exact ⟨by rw [HW.out]; rfl, HBW.out⟩
    · clear hno
      go_wp2_with fail
      go_ret
      exact ⟨by rw [HW.out]; rfl, HBW.out⟩

def allE : Ent := ⟨0, 0, 0, 0, 0, 16⟩
set_option maxRecDepth 100000 in
theorem refAll_any (w : World) :
    Calls Tryd.prog 23 #[] w fun en w' => en = .returned (entV allE) ∧ Below w.heap.size w w' := by
  go_enter Tryd.func23, Tryd.ntmps23
  go_wp2_with fail
  refine ⟨rfl, entV allE, ?_, rfl, (Below.refl _ _).alloc (Nat.le_refl _) _⟩
  simp [results, Tryd.f23, go_sem, allE]

/-- What Prefix tells: a prefix, an error. -/
def preA (e : Ent) : Int := if whyE e = 0 then e.a else 0
def preL (e : Ent) : Int := if whyE e = 0 then ((lenF e.m).getD 0 : Nat) else 0
def preNo (e : Ent) : Int := if whyE e = 0 then 0 else 140

set_option maxRecDepth 100000 in
set_option maxHeartbeats 800000 in
theorem refPrefix_any (e : Ent) (ho : e.Ok) (w : World) :
    Calls Tryd.prog 16 #[entV e] w fun en w' => en = .returned (.tuple #[pfx (preA e) (preL e), .int .i64 (preNo e)]) ∧ Below w.heap.size w w' := by
  have HW := Lib.hid (fun W => refWhy_any e ho W)
  have hz := whyE_zero (e := e)
  obtain ⟨f, t, a, m, n, k⟩ := e
  have hbw : Below w.heap.size w (w.alloc (.cells #[.int .i64 f, .int .i64 t, .int .u32 a, .int .u32 m, .int .u32 n, .int .u32 k] 25)) := (Below.refl _ _).alloc (Nat.le_refl _) _
  have HBW := Lib.hid (hbw.alloc (by simp) (.cells #[.int .u32 0, .int .i64 0] 41))
  clear hbw
  unfold preA preL preNo
  dsimp only at *
  generalize whyE ⟨f, t, a, m, n, k⟩ = r at *
  have HB : ∀ w1 : World, Below (((w.alloc (.cells #[.int .i64 f, .int .i64 t, .int .u32 a, .int .u32 m, .int .u32 n, .int .u32 k] 25)).alloc (.cells #[.int .u32 0, .int .i64 0] 41)).heap.size) ((w.alloc (.cells #[.int .i64 f, .int .i64 t, .int .u32 a, .int .u32 m, .int .u32 n, .int .u32 k] 25)).alloc (.cells #[.int .u32 0, .int .i64 0] 41)) w1 →
      Blk w1 w.heap.size 25 #[.int .i64 f, .int .i64 t, .int .u32 a, .int .u32 m, .int .u32 n, .int .u32 k] ∧ Blk w1 (w.heap.size + 1) 41 #[.int .u32 0, .int .i64 0] ∧ Below w.heap.size w w1 := fun w1 hb => by
    refine ⟨((Blk.new w _ _).alloc _).below hb (by simp; omega), ?_, HBW.out.trans (hb.mono (by simp; omega))⟩
    have := Blk.new (w.alloc (.cells #[.int .i64 f, .int .i64 t, .int .u32 a, .int .u32 m, .int .u32 n, .int .u32 k] 25)) 41 #[.int .u32 0, .int .i64 0]
    simpa using this.below hb this.lt
  have HH := Lib.hid HB
  clear HB HBW
  go_enter Tryd.func16, Tryd.ntmps16
  by_cases hr : r = 0
  · subst hr
    obtain ⟨-, ⟨j, j32, hj, hm, -⟩, -⟩ := hz.1 rfl
    rw [if_pos rfl, if_pos rfl, if_pos rfl, hj]
    clear hz hj
    go_wp2_with fail
    refine (HW.out _).mono ?_
    rintro en w1 ⟨rfl, hb1⟩
    obtain ⟨b1, b2, hbl⟩ := HH.out w1 hb1
    have c2 := b1.cell 2
    have c3 := b1.cell 3
    have d0 := b2.cell 0
    have d1 := b2.cell 1
    have z0 := b2.frozen 0
    have z1 := b2.frozen 1
    have HBL := Lib.hid hbl
    simp only [List.getElem?_toArray, List.getElem?_cons_zero, List.getElem?_cons_succ] at c2 c3 d0 d1
    clear b1 b2 hbl hb1 HH HW
    go_wp2_with fail
    refine (refLen_any m _).mono ?_
    rintro en w2 ⟨⟨j', hj', hm', rfl⟩ | ⟨hno, rfl⟩, rfl⟩
    · obtain rfl := maskOf_inj _ _ hj' j32 (hm'.trans hm.symm)
      clear hm hm' hj' j32
      go_wp2_with fail
      exact bodyPost_ret (v := .tuple #[pfx a j', .int .i64 0]) (by simp [results, Tryd.results16, go_sem, d0, d1, pfx]) rfl ⟨rfl, (HBL.out.setCell (by simp) _).setCell (by simp) _⟩
    · exact absurd hm (hno j j32)
  · rw [if_neg hr, if_neg hr, if_neg hr]
    have hb : (r != 0) = true := by simpa using hr
    clear hz
    go_wp2_with fail
    refine (HW.out _).mono ?_
    rintro en w1 ⟨rfl, hb1⟩
    obtain ⟨b1, b2, hbl⟩ := HH.out w1 hb1
    have d0 := b2.cell 0
    have d1 := b2.cell 1
    have z0 := b2.frozen 0
    have z1 := b2.frozen 1
    have HBL := Lib.hid hbl
    simp only [List.getElem?_toArray, List.getElem?_cons_zero, List.getElem?_cons_succ] at d0 d1
    clear b1 b2 hbl hb1 HH HW
    go_wp2_with fail
    exact bodyPost_ret (v := .tuple #[pfx 0 0, .int .i64 140]) (by simp [results, Tryd.results16, go_sem, d0, d1, pfx]) rfl ⟨rfl, (HBL.out.setCell (by simp) _).setCell (by simp) _⟩
end Go.Proofs.YtfbfdjcdjogefaaDoor
