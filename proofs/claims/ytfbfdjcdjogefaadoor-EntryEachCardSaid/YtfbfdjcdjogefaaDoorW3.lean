/- Layer 4's program: why an entry is left out, rule by rule. -/
import Derived.Test.YtfbfdjcdjogefaaDoorW1
import Derived.Test.YtfbfdjcdjogefaaDoorD3
namespace Go.Proofs.YtfbfdjcdjogefaaDoor
open Go Go.RowKit
attribute [local go_sem] Oper.semAt_some

def g1 (e : Ent) : Bool := e.f != 2
def g2 (e : Ent) : Bool := (lenF e.m).isNone
def g3 (e : Ent) : Bool := bits .andNot .u32 e.a e.m != 0
def told (a m : Int) : Bool := (kindOf a == 6) || (kindOf a == 1 && m == 0)
def g4 (e : Ent) : Bool := !told e.a e.m
def g5 (e : Ent) : Bool := e.n != 0
def metB (k : Int) : Bool := decide (1 ≤ k) && decide (k ≤ 16)
def g6 (e : Ent) : Bool := !metB e.k
def y6 (_ : Ent) : Int := 0
def y5 (e : Ent) : Int := if g6 e then 6 else y6 e
def y4 (e : Ent) : Int := if g5 e then 5 else y5 e
def y3 (e : Ent) : Int := if g4 e then 4 else y4 e
def y2 (e : Ent) : Int := if g3 e then 3 else y3 e
def y1 (e : Ent) : Int := if g2 e then 2 else y2 e
def y0 (e : Ent) : Int := if g1 e then 1 else y1 e

theorem told_is (a m : Int) : told a m = !decide (kindX a m) := by
  rw [kindX_is]
  unfold told
  have hq := kindOf_range a
  generalize kindOf a = q at *
  by_cases hm : m = 0
  · rcases hq with rfl | rfl | rfl | rfl | rfl | rfl <;> simp [hm]
  · rcases hq with rfl | rfl | rfl | rfl | rfl | rfl <;> simp [hm]
theorem metB_is (k : Int) : metB k = !decide (k < 1 ∨ 16 < k) := by
  unfold metB
  rw [Bool.eq_iff_iff]
  simp
theorem why_chain (e : Ent) (ho : e.Ok) : whyE e = y0 e := by
  have n0 : y0 e = bif g1 e then 1 else bif g2 e then 2 else bif g3 e then 3 else bif g4 e then 4 else bif g5 e then 5 else bif g6 e then 6 else 0 := by
    simp only [y0, y1, y2, y3, y4, y5, y6, Bool.cond_eq_ite]
  rw [n0]
  unfold whyE
  by_cases hf : e.f = 2
  · have q1 : g1 e = false := by simp [g1, hf]
    rw [if_neg (not_not_intro hf), q1, cond_false]
    cases hl : lenF e.m with
    | none =>
      have q2 : g2 e = true := by simp [g2, hl]
      rw [q2]
      rfl
    | some j =>
      obtain ⟨j32, hm⟩ := lenF_is hl
      have q2 : g2 e = false := by simp [g2, hl]
      rw [q2, cond_false]
      dsimp only
      by_cases hr : right e.a j
      · have h1 : cutTo e.a j = e.a := by have := hr.2.2; simpa using this
        have q3 : g3 e = false := by rw [g3, ← hm, andNot_mask e.a j j32 ho.a0 ho.a1, h1]; simp
        rw [if_neg (not_not_intro hr), q3, cond_false]
        by_cases hk : kindX e.a e.m
        · have q4 : g4 e = true := by rw [g4, told_is]; simpa using hk
          rw [if_pos hk, q4]
          rfl
        · have q4 : g4 e = false := by rw [g4, told_is]; simpa using hk
          rw [if_neg hk, q4, cond_false]
          by_cases hn : e.n = 0
          · have q5 : g5 e = false := by simp [g5, hn]
            rw [if_neg (not_not_intro hn), q5, cond_false]
            by_cases hq : e.k < 1 ∨ 16 < e.k
            · have q6 : g6 e = true := by rw [g6, metB_is]; simpa using hq
              rw [if_pos hq, q6]
              rfl
            · have q6 : g6 e = false := by rw [g6, metB_is]; simpa using hq
              rw [if_neg hq, q6]
              rfl
          · have q5 : g5 e = true := by simpa [g5] using hn
            rw [if_pos hn, q5]
            rfl
      · have h1 : ¬ cutTo e.a j = e.a := fun h => hr ⟨by omega, by omega, by simpa using h⟩
        have q3 : g3 e = true := by rw [g3, ← hm, andNot_mask e.a j j32 ho.a0 ho.a1]; simp; omega
        rw [if_pos hr, q3]
        rfl
  · have q1 : g1 e = true := by simpa [g1] using hf
    rw [if_pos hf, q1]
    rfl

theorem bigE (w : World) (o : Obj) : Below w.heap.size w (w.alloc o) := (Below.refl _ _).alloc (Nat.le_refl _) _

set_option maxHeartbeats 400000 in
theorem isMask_any (m : Int) (m0 : 0 ≤ m) (m1 : m < 4294967296) (w : World) :
    Calls Tryd.prog 58 #[.int .u32 m] w fun e w' => e = .returned (.bool (!(lenF m).isNone)) ∧ w = w' := by
  have HL := Lib.hid (fun W => len2_any m m0 m1 W)
  go_enter Tryd.func58, Tryd.ntmps58
  go_wp2_with fail
  refine (HL.out _).mono ?_
  rintro e w1 ⟨⟨j, hj, hm, rfl⟩ | ⟨hno, rfl⟩, rfl⟩
  · have he : (lenF m).isNone = false := by rw [lenF_some hj hm]; rfl
    have HE := Lib.hid he
    clear hm he HL
    go_wp2_with fail
    go_ret
    exact ⟨by rw [HE.out]; rfl, rfl⟩
  · have he : (lenF m).isNone = true := by rw [lenF_none hno]; rfl
    have HE := Lib.hid he
    clear hno he HL
    go_wp2_with fail
    go_ret
    exact ⟨by rw [HE.out]; rfl, rfl⟩

set_option maxHeartbeats 400000 in
theorem metU_any (k : Int) (w : World) :
    Calls Tryd.prog 64 #[.int .u32 k] w fun e w' => e = .returned (.bool (metB k)) ∧ w = w' := by
  unfold metB
  by_cases h : 1 ≤ k
  · have hd : decide (1 ≤ k) = true := decide_eq_true h
    rw [hd, Bool.true_and]
    go_enter Tryd.func64, Tryd.ntmps64
    go_wp2_with fail
    go_ret
    exact ⟨rfl, rfl⟩
  · have hd : decide (1 ≤ k) = false := decide_eq_false h
    rw [hd, Bool.false_and]
    go_enter Tryd.func64, Tryd.ntmps64
    go_wp2_with fail
    go_ret
    exact ⟨rfl, rfl⟩
set_option maxHeartbeats 400000 in
theorem metI_any (k : Int) (w : World) :
    Calls Tryd.prog 43 #[.int .i64 k] w fun e w' => e = .returned (.bool (metB k)) ∧ w = w' := by
  unfold metB
  by_cases h : 1 ≤ k
  · have hd : decide (1 ≤ k) = true := decide_eq_true h
    rw [hd, Bool.true_and]
    go_enter Tryd.func43, Tryd.ntmps43
    go_wp2_with fail
    go_ret
    exact ⟨rfl, rfl⟩
  · have hd : decide (1 ≤ k) = false := decide_eq_false h
    rw [hd, Bool.false_and]
    go_enter Tryd.func43, Tryd.ntmps43
    go_wp2_with fail
    go_ret
    exact ⟨rfl, rfl⟩

set_option maxRecDepth 100000 in
set_option maxHeartbeats 800000 in
theorem told_any (a m : Int) (a0 : 0 ≤ a) (a1 : a < 4294967296) (w : World) :
    Calls Tryd.prog 61 #[.int .u32 a, .int .u32 m] w fun e w' => e = .returned (.bool (told a m)) ∧ Below w.heap.size w w' := by
  have hq := kindOf_range a
  unfold told
  have HR := Lib.hid (fun W => kind_any a a0 a1 W)
  generalize kindOf a = q at *
  rcases hq with rfl | rfl | rfl | rfl | rfl | rfl
  all_goals
    go_enter Tryd.func61, Tryd.ntmps61
    go_wp2_with fail
    refine (HR.out _).mono ?_
    rintro e w1 ⟨rfl, hb1⟩
    go_wp2_with fail
    go_ret
    exact ⟨rfl, hb1⟩

set_option maxRecDepth 100000 in
set_option maxHeartbeats 400000 in
theorem reason1_any (e : Ent) (ho : e.Ok) (w : World) :
    Calls Tryd.prog 56 #[entV e] w fun r w' => r = .returned (.bool (g1 e)) ∧ Below w.heap.size w w' := by
  obtain ⟨f, t, a, m, n, k⟩ := e
  obtain ⟨a0, a1, m0, m1, n0, n1, k0, k1⟩ := ho
  dsimp only at a0 a1 m0 m1 n0 n1 k0 k1
  have HBW := Lib.hid (bigE w (.cells #[.int .i64 f, .int .i64 t, .int .u32 a, .int .u32 m, .int .u32 n, .int .u32 k] 25))
  go_enter Tryd.func56, Tryd.ntmps56
  go_wp2_with fail
  go_ret
  exact ⟨rfl, HBW.out⟩

set_option maxRecDepth 100000 in
set_option maxHeartbeats 400000 in
theorem reason2_any (e : Ent) (ho : e.Ok) (w : World) :
    Calls Tryd.prog 57 #[entV e] w fun r w' => r = .returned (.bool (g2 e)) ∧ Below w.heap.size w w' := by
  obtain ⟨f, t, a, m, n, k⟩ := e
  obtain ⟨a0, a1, m0, m1, n0, n1, k0, k1⟩ := ho
  dsimp only at a0 a1 m0 m1 n0 n1 k0 k1
  have HBW := Lib.hid (bigE w (.cells #[.int .i64 f, .int .i64 t, .int .u32 a, .int .u32 m, .int .u32 n, .int .u32 k] 25))
  have HC := Lib.hid (fun W => isMask_any m m0 m1 W)
  go_enter Tryd.func57, Tryd.ntmps57
  go_wp2_with fail
  refine (HC.out _).mono ?_
  rintro r w1 ⟨rfl, rfl⟩
  go_wp2_with fail
  go_ret
  exact ⟨by simp [g2], HBW.out⟩

set_option maxRecDepth 100000 in
set_option maxHeartbeats 400000 in
theorem reason3_any (e : Ent) (ho : e.Ok) (w : World) :
    Calls Tryd.prog 59 #[entV e] w fun r w' => r = .returned (.bool (g3 e)) ∧ Below w.heap.size w w' := by
  obtain ⟨f, t, a, m, n, k⟩ := e
  obtain ⟨a0, a1, m0, m1, n0, n1, k0, k1⟩ := ho
  dsimp only at a0 a1 m0 m1 n0 n1 k0 k1
  have HBW := Lib.hid (bigE w (.cells #[.int .i64 f, .int .i64 t, .int .u32 a, .int .u32 m, .int .u32 n, .int .u32 k] 25))
  go_enter Tryd.func59, Tryd.ntmps59
  go_wp2_with fail
  go_ret
  exact ⟨rfl, HBW.out⟩

set_option maxRecDepth 100000 in
set_option maxHeartbeats 400000 in
theorem reason4_any (e : Ent) (ho : e.Ok) (w : World) :
    Calls Tryd.prog 60 #[entV e] w fun r w' => r = .returned (.bool (g4 e)) ∧ Below w.heap.size w w' := by
  obtain ⟨f, t, a, m, n, k⟩ := e
  obtain ⟨a0, a1, m0, m1, n0, n1, k0, k1⟩ := ho
  dsimp only at a0 a1 m0 m1 n0 n1 k0 k1
  have HBW := Lib.hid (bigE w (.cells #[.int .i64 f, .int .i64 t, .int .u32 a, .int .u32 m, .int .u32 n, .int .u32 k] 25))
  have HC := Lib.hid (fun W => told_any a m a0 a1 W)
  go_enter Tryd.func60, Tryd.ntmps60
  go_wp2_with fail
  refine (HC.out _).mono ?_
  rintro r w1 ⟨rfl, hb1⟩
  have HB1 := Lib.hid hb1
  clear hb1
  go_wp2_with fail
  go_ret
  exact ⟨rfl, HBW.out.trans (HB1.out.mono (by simp))⟩

set_option maxRecDepth 100000 in
set_option maxHeartbeats 400000 in
theorem reason5_any (e : Ent) (ho : e.Ok) (w : World) :
    Calls Tryd.prog 62 #[entV e] w fun r w' => r = .returned (.bool (g5 e)) ∧ Below w.heap.size w w' := by
  obtain ⟨f, t, a, m, n, k⟩ := e
  obtain ⟨a0, a1, m0, m1, n0, n1, k0, k1⟩ := ho
  dsimp only at a0 a1 m0 m1 n0 n1 k0 k1
  have HBW := Lib.hid (bigE w (.cells #[.int .i64 f, .int .i64 t, .int .u32 a, .int .u32 m, .int .u32 n, .int .u32 k] 25))
  go_enter Tryd.func62, Tryd.ntmps62
  go_wp2_with fail
  go_ret
  exact ⟨rfl, HBW.out⟩

set_option maxRecDepth 100000 in
set_option maxHeartbeats 400000 in
theorem reason6_any (e : Ent) (ho : e.Ok) (w : World) :
    Calls Tryd.prog 63 #[entV e] w fun r w' => r = .returned (.bool (g6 e)) ∧ Below w.heap.size w w' := by
  obtain ⟨f, t, a, m, n, k⟩ := e
  obtain ⟨a0, a1, m0, m1, n0, n1, k0, k1⟩ := ho
  dsimp only at a0 a1 m0 m1 n0 n1 k0 k1
  have HBW := Lib.hid (bigE w (.cells #[.int .i64 f, .int .i64 t, .int .u32 a, .int .u32 m, .int .u32 n, .int .u32 k] 25))
  have HC := Lib.hid (fun W => metU_any k W)
  go_enter Tryd.func63, Tryd.ntmps63
  go_wp2_with fail
  refine (HC.out _).mono ?_
  rintro r w1 ⟨rfl, rfl⟩
  go_wp2_with fail
  go_ret
  exact ⟨rfl, HBW.out⟩

def rules4Obj : Obj := .cells #[.int .i64 1, .func (.func 56) #[] #[], .int .i64 2, .func (.func 57) #[] #[], .int .i64 3, .func (.func 59) #[] #[], .int .i64 4, .func (.func 60) #[] #[], .int .i64 5, .func (.func 62) #[] #[], .int .i64 6, .func (.func 63) #[] #[]] 81
set_option maxHeartbeats 400000 in
theorem rules4_any (w : World) :
    Calls Tryd.prog 38 #[] w fun e w' => e = .returned (.slice (some ⟨w.heap.size, 0, none⟩) 6 6) ∧ w' = w.alloc rules4Obj := by
  go_enter Tryd.func38, Tryd.ntmps38
  go_wp2
  go_ret
  exact ⟨rfl, rfl⟩
theorem rules4_cells (w : World) (o : Nat) : (w.alloc (rules4Obj)).cell? ⟨w.heap.size, o, none⟩ = #[Value.int .i64 1, .func (.func 56) #[] #[], .int .i64 2, .func (.func 57) #[] #[], .int .i64 3, .func (.func 59) #[] #[], .int .i64 4, .func (.func 60) #[] #[], .int .i64 5, .func (.func 62) #[] #[], .int .i64 6, .func (.func 63) #[] #[]][o]? := by
  simp [rules4Obj]

set_option maxRecDepth 100000 in
set_option maxHeartbeats 3200000 in
theorem why_any (e : Ent) (ho : e.Ok) (w : World) :
    Calls Tryd.prog 17 #[entV e] w fun r w' => r = .returned (.int .i64 (whyE e)) ∧ Below w.heap.size w w' := by
  rw [why_chain e ho]
  have H1 := Lib.hid (fun W => reason1_any e ho W)
  have H2 := Lib.hid (fun W => reason2_any e ho W)
  have H3 := Lib.hid (fun W => reason3_any e ho W)
  have H4 := Lib.hid (fun W => reason4_any e ho W)
  have H5 := Lib.hid (fun W => reason5_any e ho W)
  have H6 := Lib.hid (fun W => reason6_any e ho W)
  obtain ⟨f, t, a, m, n, k⟩ := e
  have HB0 := Lib.hid (bigE w (.cells #[.int .i64 f, .int .i64 t, .int .u32 a, .int .u32 m, .int .u32 n, .int .u32 k] 25))
  have HE0 : Hid (Blk (w.alloc (.cells #[.int .i64 f, .int .i64 t, .int .u32 a, .int .u32 m, .int .u32 n, .int .u32 k] 25)) w.heap.size 25 #[.int .i64 f, .int .i64 t, .int .u32 a, .int .u32 m, .int .u32 n, .int .u32 k]) := Blk.new w _ _
  have hsz : (w.alloc (.cells #[.int .i64 f, .int .i64 t, .int .u32 a, .int .u32 m, .int .u32 n, .int .u32 k] 25)).heap.size = w.heap.size + 1 := by simp
  have HSZ := Lib.hid hsz
  clear hsz
  go_enter Tryd.func17, Tryd.ntmps17
  go_wp2_with fail
  refine (rules4_any _).mono ?_
  rintro r w2 ⟨rfl, rfl⟩
  generalize (w.alloc (.cells #[.int .i64 f, .int .i64 t, .int .u32 a, .int .u32 m, .int .u32 n, .int .u32 k] 25)) = w1 at *
  go_wp2_with fail
  go_loopw [7] (fun i wr => Hid (Below (w1.heap.size + 1) (w1.alloc rules4Obj) wr) ∧ ((i = .int .i64 0 ∧ Hid (y0 ⟨f, t, a, m, n, k⟩ = y0 ⟨f, t, a, m, n, k⟩)) ∨ (i = .int .i64 1 ∧ Hid (y0 ⟨f, t, a, m, n, k⟩ = y1 ⟨f, t, a, m, n, k⟩)) ∨ (i = .int .i64 2 ∧ Hid (y0 ⟨f, t, a, m, n, k⟩ = y2 ⟨f, t, a, m, n, k⟩)) ∨ (i = .int .i64 3 ∧ Hid (y0 ⟨f, t, a, m, n, k⟩ = y3 ⟨f, t, a, m, n, k⟩)) ∨ (i = .int .i64 4 ∧ Hid (y0 ⟨f, t, a, m, n, k⟩ = y4 ⟨f, t, a, m, n, k⟩)) ∨ (i = .int .i64 5 ∧ Hid (y0 ⟨f, t, a, m, n, k⟩ = y5 ⟨f, t, a, m, n, k⟩)) ∨ (i = .int .i64 6 ∧ Hid (y0 ⟨f, t, a, m, n, k⟩ = y6 ⟨f, t, a, m, n, k⟩)))) (fun i _ => 6 - (intOf i).toNat)
  case atStart => exact ⟨Below.refl _ _, .inl ⟨rfl, rfl⟩⟩
  case round =>
    obtain ⟨Hb, ⟨rfl, hK⟩ | ⟨rfl, hK⟩ | ⟨rfl, hK⟩ | ⟨rfl, hK⟩ | ⟨rfl, hK⟩ | ⟨rfl, hK⟩ | ⟨rfl, hK⟩⟩ := hrel
    · have c0 := Hb.out.cell (p := ⟨w1.heap.size, 0, none⟩) (Nat.lt_succ_self _)
      have c1 := Hb.out.cell (p := ⟨w1.heap.size, 1, none⟩) (Nat.lt_succ_self _)
      rw [rules4_cells] at c0 c1
      have hs : w1.heap.size + 1 ≤ wr.heap.size := by have := Hb.out.size; simpa using this
      have hE := (((HE0.out.alloc rules4Obj).below Hb.out (by have := HSZ.out; omega)).alloc (.cells #[.int .i64 1, .func (.func 56) #[] #[]] 81))
      have e0 := hE.cell 0
      have e1 := hE.cell 1
      have e2 := hE.cell 2
      have e3 := hE.cell 3
      have e4 := hE.cell 4
      have e5 := hE.cell 5
      have HBN : Hid (Below w.heap.size w (wr.alloc (.cells #[.int .i64 1, .func (.func 56) #[] #[]] 81))) := ((HB0.out.alloc HB0.out.size _).trans (Hb.out.mono (by have := HSZ.out; omega))).alloc (by have := HSZ.out; omega) _
      have HBR : Hid (Below (w1.heap.size + 1) (w1.alloc rules4Obj) (wr.alloc (.cells #[.int .i64 1, .func (.func 56) #[] #[]] 81))) := Hb.out.alloc hs _
      have r0 := (Blk.new wr 81 #[.int .i64 1, .func (.func 56) #[] #[]])
      have HR0 := Lib.hid r0
      have HG := Lib.hid (H1.out (wr.alloc (.cells #[.int .i64 1, .func (.func 56) #[] #[]] 81)))
      simp only [List.getElem?_toArray, List.getElem?_cons_zero, List.getElem?_cons_succ] at e0 e1 e2 e3 e4 e5 c0 c1
      clear hE r0 H1 H2 H3 H4 H5 H6
      rcases Bool.eq_false_or_eq_true (g1 ⟨f, t, a, m, n, k⟩) with hB | hB
      · have HY : Hid (y0 ⟨f, t, a, m, n, k⟩ = 1) := by
          exact hK.out.trans (by rw [y0, hB]; rfl)
        rw [hB] at HG
        clear hB hK
        go_wp2_with fail
        refine HG.out.mono ?_
        rintro r w3 ⟨rfl, hb3⟩
        have hz := HR0.out.below hb3 (by simp)
        have z0 := hz.cell 0
        have HF := Lib.hid (HBN.out.trans (hb3.mono HBN.out.size))
        simp only [List.getElem?_toArray, List.getElem?_cons_zero] at z0
        clear hz hb3 HG c0 c1 e0 e1 e2 e3 e4 e5
        go_wp2_with fail
        go_ret
        exact ⟨by rw [HY.out]; rfl, HF.out⟩
      · have Hf : Hid (y0 ⟨f, t, a, m, n, k⟩ = y1 ⟨f, t, a, m, n, k⟩) := by
          exact hK.out.trans (by rw [y0, hB]; rfl)
        rw [hB] at HG
        clear hB hK
        go_wp2_with fail
        refine HG.out.mono ?_
        rintro r w3 ⟨rfl, hb3⟩
        have HF : Hid (Below (w1.heap.size + 1) (w1.alloc rules4Obj) w3) := HBR.out.trans (hb3.mono (by simp; omega))
        clear hb3 HG c0 c1 e0 e1 e2 e3 e4 e5
        go_wp2_with fail
        go_roundw
        case rel => exact ⟨HF, .inr (.inl ⟨rfl, Hf⟩)⟩
        case measure => simp [intOf]
    · have c0 := Hb.out.cell (p := ⟨w1.heap.size, 2, none⟩) (Nat.lt_succ_self _)
      have c1 := Hb.out.cell (p := ⟨w1.heap.size, 3, none⟩) (Nat.lt_succ_self _)
      rw [rules4_cells] at c0 c1
      have hs : w1.heap.size + 1 ≤ wr.heap.size := by have := Hb.out.size; simpa using this
      have hE := (((HE0.out.alloc rules4Obj).below Hb.out (by have := HSZ.out; omega)).alloc (.cells #[.int .i64 2, .func (.func 57) #[] #[]] 81))
      have e0 := hE.cell 0
      have e1 := hE.cell 1
      have e2 := hE.cell 2
      have e3 := hE.cell 3
      have e4 := hE.cell 4
      have e5 := hE.cell 5
      have HBN : Hid (Below w.heap.size w (wr.alloc (.cells #[.int .i64 2, .func (.func 57) #[] #[]] 81))) := ((HB0.out.alloc HB0.out.size _).trans (Hb.out.mono (by have := HSZ.out; omega))).alloc (by have := HSZ.out; omega) _
      have HBR : Hid (Below (w1.heap.size + 1) (w1.alloc rules4Obj) (wr.alloc (.cells #[.int .i64 2, .func (.func 57) #[] #[]] 81))) := Hb.out.alloc hs _
      have r0 := (Blk.new wr 81 #[.int .i64 2, .func (.func 57) #[] #[]])
      have HR0 := Lib.hid r0
      have HG := Lib.hid (H2.out (wr.alloc (.cells #[.int .i64 2, .func (.func 57) #[] #[]] 81)))
      simp only [List.getElem?_toArray, List.getElem?_cons_zero, List.getElem?_cons_succ] at e0 e1 e2 e3 e4 e5 c0 c1
      clear hE r0 H1 H2 H3 H4 H5 H6
      rcases Bool.eq_false_or_eq_true (g2 ⟨f, t, a, m, n, k⟩) with hB | hB
      · have HY : Hid (y0 ⟨f, t, a, m, n, k⟩ = 2) := by
          exact hK.out.trans (by rw [y1, hB]; rfl)
        rw [hB] at HG
        clear hB hK
        go_wp2_with fail
        refine HG.out.mono ?_
        rintro r w3 ⟨rfl, hb3⟩
        have hz := HR0.out.below hb3 (by simp)
        have z0 := hz.cell 0
        have HF := Lib.hid (HBN.out.trans (hb3.mono HBN.out.size))
        simp only [List.getElem?_toArray, List.getElem?_cons_zero] at z0
        clear hz hb3 HG c0 c1 e0 e1 e2 e3 e4 e5
        go_wp2_with fail
        go_ret
        exact ⟨by rw [HY.out]; rfl, HF.out⟩
      · have Hf : Hid (y0 ⟨f, t, a, m, n, k⟩ = y2 ⟨f, t, a, m, n, k⟩) := by
          exact hK.out.trans (by rw [y1, hB]; rfl)
        rw [hB] at HG
        clear hB hK
        go_wp2_with fail
        refine HG.out.mono ?_
        rintro r w3 ⟨rfl, hb3⟩
        have HF : Hid (Below (w1.heap.size + 1) (w1.alloc rules4Obj) w3) := HBR.out.trans (hb3.mono (by simp; omega))
        clear hb3 HG c0 c1 e0 e1 e2 e3 e4 e5
        go_wp2_with fail
        go_roundw
        case rel => exact ⟨HF, .inr (.inr (.inl ⟨rfl, Hf⟩))⟩
        case measure => simp [intOf]
    · have c0 := Hb.out.cell (p := ⟨w1.heap.size, 4, none⟩) (Nat.lt_succ_self _)
      have c1 := Hb.out.cell (p := ⟨w1.heap.size, 5, none⟩) (Nat.lt_succ_self _)
      rw [rules4_cells] at c0 c1
      have hs : w1.heap.size + 1 ≤ wr.heap.size := by have := Hb.out.size; simpa using this
      have hE := (((HE0.out.alloc rules4Obj).below Hb.out (by have := HSZ.out; omega)).alloc (.cells #[.int .i64 3, .func (.func 59) #[] #[]] 81))
      have e0 := hE.cell 0
      have e1 := hE.cell 1
      have e2 := hE.cell 2
      have e3 := hE.cell 3
      have e4 := hE.cell 4
      have e5 := hE.cell 5
      have HBN : Hid (Below w.heap.size w (wr.alloc (.cells #[.int .i64 3, .func (.func 59) #[] #[]] 81))) := ((HB0.out.alloc HB0.out.size _).trans (Hb.out.mono (by have := HSZ.out; omega))).alloc (by have := HSZ.out; omega) _
      have HBR : Hid (Below (w1.heap.size + 1) (w1.alloc rules4Obj) (wr.alloc (.cells #[.int .i64 3, .func (.func 59) #[] #[]] 81))) := Hb.out.alloc hs _
      have r0 := (Blk.new wr 81 #[.int .i64 3, .func (.func 59) #[] #[]])
      have HR0 := Lib.hid r0
      have HG := Lib.hid (H3.out (wr.alloc (.cells #[.int .i64 3, .func (.func 59) #[] #[]] 81)))
      simp only [List.getElem?_toArray, List.getElem?_cons_zero, List.getElem?_cons_succ] at e0 e1 e2 e3 e4 e5 c0 c1
      clear hE r0 H1 H2 H3 H4 H5 H6
      rcases Bool.eq_false_or_eq_true (g3 ⟨f, t, a, m, n, k⟩) with hB | hB
      · have HY : Hid (y0 ⟨f, t, a, m, n, k⟩ = 3) := by
          exact hK.out.trans (by rw [y2, hB]; rfl)
        rw [hB] at HG
        clear hB hK
        go_wp2_with fail
        refine HG.out.mono ?_
        rintro r w3 ⟨rfl, hb3⟩
        have hz := HR0.out.below hb3 (by simp)
        have z0 := hz.cell 0
        have HF := Lib.hid (HBN.out.trans (hb3.mono HBN.out.size))
        simp only [List.getElem?_toArray, List.getElem?_cons_zero] at z0
        clear hz hb3 HG c0 c1 e0 e1 e2 e3 e4 e5
        go_wp2_with fail
        go_ret
        exact ⟨by rw [HY.out]; rfl, HF.out⟩
      · have Hf : Hid (y0 ⟨f, t, a, m, n, k⟩ = y3 ⟨f, t, a, m, n, k⟩) := by
          exact hK.out.trans (by rw [y2, hB]; rfl)
        rw [hB] at HG
        clear hB hK
        go_wp2_with fail
        refine HG.out.mono ?_
        rintro r w3 ⟨rfl, hb3⟩
        have HF : Hid (Below (w1.heap.size + 1) (w1.alloc rules4Obj) w3) := HBR.out.trans (hb3.mono (by simp; omega))
        clear hb3 HG c0 c1 e0 e1 e2 e3 e4 e5
        go_wp2_with fail
        go_roundw
        case rel => exact ⟨HF, .inr (.inr (.inr (.inl ⟨rfl, Hf⟩)))⟩
        case measure => simp [intOf]
    · have c0 := Hb.out.cell (p := ⟨w1.heap.size, 6, none⟩) (Nat.lt_succ_self _)
      have c1 := Hb.out.cell (p := ⟨w1.heap.size, 7, none⟩) (Nat.lt_succ_self _)
      rw [rules4_cells] at c0 c1
      have hs : w1.heap.size + 1 ≤ wr.heap.size := by have := Hb.out.size; simpa using this
      have hE := (((HE0.out.alloc rules4Obj).below Hb.out (by have := HSZ.out; omega)).alloc (.cells #[.int .i64 4, .func (.func 60) #[] #[]] 81))
      have e0 := hE.cell 0
      have e1 := hE.cell 1
      have e2 := hE.cell 2
      have e3 := hE.cell 3
      have e4 := hE.cell 4
      have e5 := hE.cell 5
      have HBN : Hid (Below w.heap.size w (wr.alloc (.cells #[.int .i64 4, .func (.func 60) #[] #[]] 81))) := ((HB0.out.alloc HB0.out.size _).trans (Hb.out.mono (by have := HSZ.out; omega))).alloc (by have := HSZ.out; omega) _
      have HBR : Hid (Below (w1.heap.size + 1) (w1.alloc rules4Obj) (wr.alloc (.cells #[.int .i64 4, .func (.func 60) #[] #[]] 81))) := Hb.out.alloc hs _
      have r0 := (Blk.new wr 81 #[.int .i64 4, .func (.func 60) #[] #[]])
      have HR0 := Lib.hid r0
      have HG := Lib.hid (H4.out (wr.alloc (.cells #[.int .i64 4, .func (.func 60) #[] #[]] 81)))
      simp only [List.getElem?_toArray, List.getElem?_cons_zero, List.getElem?_cons_succ] at e0 e1 e2 e3 e4 e5 c0 c1
      clear hE r0 H1 H2 H3 H4 H5 H6
      rcases Bool.eq_false_or_eq_true (g4 ⟨f, t, a, m, n, k⟩) with hB | hB
      · have HY : Hid (y0 ⟨f, t, a, m, n, k⟩ = 4) := by
          exact hK.out.trans (by rw [y3, hB]; rfl)
        rw [hB] at HG
        clear hB hK
        go_wp2_with fail
        refine HG.out.mono ?_
        rintro r w3 ⟨rfl, hb3⟩
        have hz := HR0.out.below hb3 (by simp)
        have z0 := hz.cell 0
        have HF := Lib.hid (HBN.out.trans (hb3.mono HBN.out.size))
        simp only [List.getElem?_toArray, List.getElem?_cons_zero] at z0
        clear hz hb3 HG c0 c1 e0 e1 e2 e3 e4 e5
        go_wp2_with fail
        go_ret
        exact ⟨by rw [HY.out]; rfl, HF.out⟩
      · have Hf : Hid (y0 ⟨f, t, a, m, n, k⟩ = y4 ⟨f, t, a, m, n, k⟩) := by
          exact hK.out.trans (by rw [y3, hB]; rfl)
        rw [hB] at HG
        clear hB hK
        go_wp2_with fail
        refine HG.out.mono ?_
        rintro r w3 ⟨rfl, hb3⟩
        have HF : Hid (Below (w1.heap.size + 1) (w1.alloc rules4Obj) w3) := HBR.out.trans (hb3.mono (by simp; omega))
        clear hb3 HG c0 c1 e0 e1 e2 e3 e4 e5
        go_wp2_with fail
        go_roundw
        case rel => exact ⟨HF, .inr (.inr (.inr (.inr (.inl ⟨rfl, Hf⟩))))⟩
        case measure => simp [intOf]
    · have c0 := Hb.out.cell (p := ⟨w1.heap.size, 8, none⟩) (Nat.lt_succ_self _)
      have c1 := Hb.out.cell (p := ⟨w1.heap.size, 9, none⟩) (Nat.lt_succ_self _)
      rw [rules4_cells] at c0 c1
      have hs : w1.heap.size + 1 ≤ wr.heap.size := by have := Hb.out.size; simpa using this
      have hE := (((HE0.out.alloc rules4Obj).below Hb.out (by have := HSZ.out; omega)).alloc (.cells #[.int .i64 5, .func (.func 62) #[] #[]] 81))
      have e0 := hE.cell 0
      have e1 := hE.cell 1
      have e2 := hE.cell 2
      have e3 := hE.cell 3
      have e4 := hE.cell 4
      have e5 := hE.cell 5
      have HBN : Hid (Below w.heap.size w (wr.alloc (.cells #[.int .i64 5, .func (.func 62) #[] #[]] 81))) := ((HB0.out.alloc HB0.out.size _).trans (Hb.out.mono (by have := HSZ.out; omega))).alloc (by have := HSZ.out; omega) _
      have HBR : Hid (Below (w1.heap.size + 1) (w1.alloc rules4Obj) (wr.alloc (.cells #[.int .i64 5, .func (.func 62) #[] #[]] 81))) := Hb.out.alloc hs _
      have r0 := (Blk.new wr 81 #[.int .i64 5, .func (.func 62) #[] #[]])
      have HR0 := Lib.hid r0
      have HG := Lib.hid (H5.out (wr.alloc (.cells #[.int .i64 5, .func (.func 62) #[] #[]] 81)))
      simp only [List.getElem?_toArray, List.getElem?_cons_zero, List.getElem?_cons_succ] at e0 e1 e2 e3 e4 e5 c0 c1
      clear hE r0 H1 H2 H3 H4 H5 H6
      rcases Bool.eq_false_or_eq_true (g5 ⟨f, t, a, m, n, k⟩) with hB | hB
      · have HY : Hid (y0 ⟨f, t, a, m, n, k⟩ = 5) := by
          exact hK.out.trans (by rw [y4, hB]; rfl)
        rw [hB] at HG
        clear hB hK
        go_wp2_with fail
        refine HG.out.mono ?_
        rintro r w3 ⟨rfl, hb3⟩
        have hz := HR0.out.below hb3 (by simp)
        have z0 := hz.cell 0
        have HF := Lib.hid (HBN.out.trans (hb3.mono HBN.out.size))
        simp only [List.getElem?_toArray, List.getElem?_cons_zero] at z0
        clear hz hb3 HG c0 c1 e0 e1 e2 e3 e4 e5
        go_wp2_with fail
        go_ret
        exact ⟨by rw [HY.out]; rfl, HF.out⟩
      · have Hf : Hid (y0 ⟨f, t, a, m, n, k⟩ = y5 ⟨f, t, a, m, n, k⟩) := by
          exact hK.out.trans (by rw [y4, hB]; rfl)
        rw [hB] at HG
        clear hB hK
        go_wp2_with fail
        refine HG.out.mono ?_
        rintro r w3 ⟨rfl, hb3⟩
        have HF : Hid (Below (w1.heap.size + 1) (w1.alloc rules4Obj) w3) := HBR.out.trans (hb3.mono (by simp; omega))
        clear hb3 HG c0 c1 e0 e1 e2 e3 e4 e5
        go_wp2_with fail
        go_roundw
        case rel => exact ⟨HF, .inr (.inr (.inr (.inr (.inr (.inl ⟨rfl, Hf⟩)))))⟩
        case measure => simp [intOf]
    · have c0 := Hb.out.cell (p := ⟨w1.heap.size, 10, none⟩) (Nat.lt_succ_self _)
      have c1 := Hb.out.cell (p := ⟨w1.heap.size, 11, none⟩) (Nat.lt_succ_self _)
      rw [rules4_cells] at c0 c1
      have hs : w1.heap.size + 1 ≤ wr.heap.size := by have := Hb.out.size; simpa using this
      have hE := (((HE0.out.alloc rules4Obj).below Hb.out (by have := HSZ.out; omega)).alloc (.cells #[.int .i64 6, .func (.func 63) #[] #[]] 81))
      have e0 := hE.cell 0
      have e1 := hE.cell 1
      have e2 := hE.cell 2
      have e3 := hE.cell 3
      have e4 := hE.cell 4
      have e5 := hE.cell 5
      have HBN : Hid (Below w.heap.size w (wr.alloc (.cells #[.int .i64 6, .func (.func 63) #[] #[]] 81))) := ((HB0.out.alloc HB0.out.size _).trans (Hb.out.mono (by have := HSZ.out; omega))).alloc (by have := HSZ.out; omega) _
      have HBR : Hid (Below (w1.heap.size + 1) (w1.alloc rules4Obj) (wr.alloc (.cells #[.int .i64 6, .func (.func 63) #[] #[]] 81))) := Hb.out.alloc hs _
      have r0 := (Blk.new wr 81 #[.int .i64 6, .func (.func 63) #[] #[]])
      have HR0 := Lib.hid r0
      have HG := Lib.hid (H6.out (wr.alloc (.cells #[.int .i64 6, .func (.func 63) #[] #[]] 81)))
      simp only [List.getElem?_toArray, List.getElem?_cons_zero, List.getElem?_cons_succ] at e0 e1 e2 e3 e4 e5 c0 c1
      clear hE r0 H1 H2 H3 H4 H5 H6
      rcases Bool.eq_false_or_eq_true (g6 ⟨f, t, a, m, n, k⟩) with hB | hB
      · have HY : Hid (y0 ⟨f, t, a, m, n, k⟩ = 6) := by
          exact hK.out.trans (by rw [y5, hB]; rfl)
        rw [hB] at HG
        clear hB hK
        go_wp2_with fail
        refine HG.out.mono ?_
        rintro r w3 ⟨rfl, hb3⟩
        have hz := HR0.out.below hb3 (by simp)
        have z0 := hz.cell 0
        have HF := Lib.hid (HBN.out.trans (hb3.mono HBN.out.size))
        simp only [List.getElem?_toArray, List.getElem?_cons_zero] at z0
        clear hz hb3 HG c0 c1 e0 e1 e2 e3 e4 e5
        go_wp2_with fail
        go_ret
        exact ⟨by rw [HY.out]; rfl, HF.out⟩
      · have Hf : Hid (y0 ⟨f, t, a, m, n, k⟩ = y6 ⟨f, t, a, m, n, k⟩) := by
          exact hK.out.trans (by rw [y5, hB]; rfl)
        rw [hB] at HG
        clear hB hK
        go_wp2_with fail
        refine HG.out.mono ?_
        rintro r w3 ⟨rfl, hb3⟩
        have HF : Hid (Below (w1.heap.size + 1) (w1.alloc rules4Obj) w3) := HBR.out.trans (hb3.mono (by simp; omega))
        clear hb3 HG c0 c1 e0 e1 e2 e3 e4 e5
        go_wp2_with fail
        go_roundw
        case rel => exact ⟨HF, .inr (.inr (.inr (.inr (.inr (.inr (⟨rfl, Hf⟩))))))⟩
        case measure => simp [intOf]
    · have HF : Hid (Below w.heap.size w wr) := (HB0.out.alloc HB0.out.size _).trans (Hb.out.mono (by have := HSZ.out; omega))
      go_wp2_with fail
      go_ret
      exact ⟨by rw [hK.out]; rfl, HF.out⟩
end Go.Proofs.YtfbfdjcdjogefaaDoor
