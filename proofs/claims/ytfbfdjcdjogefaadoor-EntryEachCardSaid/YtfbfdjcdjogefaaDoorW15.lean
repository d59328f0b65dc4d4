/- Layer 4's program: Read. -/
import Derived.Test.YtfbfdjcdjogefaaDoorW14
import Derived.Test.YtfbfdjcdjogefaaDoorW4
import Derived.Defers
import Derived.Recover
namespace Go.Proofs.YtfbfdjcdjogefaaDoor
open Go Go.RowKit
attribute [local go_sem] Oper.semAt_some

theorem asErrno (n : Int) (w : World) : (Instr.typeAssert (.iface 28 (.int .i64 n)) 20 28 true).run Tryd.prog w = .ok (.tuple #[.int .i64 n, .bool true]) w := by kernel_rfl
theorem asErrnoNil (w : World) : (Instr.typeAssert .nilIface 20 28 true).run Tryd.prog w = .ok (.tuple #[.int .i64 0, .bool false]) w := by kernel_rfl
set_option maxHeartbeats 400000 in
theorem caught_any (n : Int) (w : World) :
    Calls Tryd.prog 28 #[.iface 28 (.int .i64 n)] w fun e w' => e = .returned (.int .i64 n) ∧ w = w' := by
  have hA := asErrno n
  go_enter Tryd.func28, Tryd.ntmps28
  go_wp2
  go_ret
  exact ⟨rfl, rfl⟩
set_option maxHeartbeats 400000 in
theorem caught_nil (w : World) :
    Calls Tryd.prog 28 #[.nilIface] w fun e w' => e = .returned (.int .i64 0) ∧ w = w' := by
  have hA := asErrnoNil
  go_enter Tryd.func28, Tryd.ntmps28
  go_wp2
  go_ret
  exact ⟨rfl, rfl⟩

set_option maxRecDepth 100000 in
set_option maxHeartbeats 400000 in
theorem readIdle (B : Nat) (y : Int) (w : World) (hc : w.cell? ⟨B, 0, none⟩ = some (.int .i64 y)) (hz : w.frozen? ⟨B, 0, none⟩ = false) :
    CallsD Tryd.prog 27 #[.pointer (some ⟨B, 0, none⟩)] .returning w fun e u' w' => e = .returned (.tuple #[]) ∧ u' = .returning ∧ w' = w.setCell ⟨B, 0, none⟩ (.int .i64 0) := by
  refine callsD_of_wpS Tryd.func27 rfl fun c₀ cs hu => ?_
  apply wpS_region
  simp [wpOpsS, go_sem, recoverD, hu, Tryd.ntmps27]
  refine (caught_nil _).mono ?_
  rintro e w1 ⟨rfl, rfl⟩
  cases c₀
  simp_all [bodyPostS, results, Tryd.results27, go_sem]
set_option maxRecDepth 100000 in
set_option maxHeartbeats 400000 in
theorem readPanics (B : Nat) (y n : Int) (w : World) (hc : w.cell? ⟨B, 0, none⟩ = some (.int .i64 y)) (hz : w.frozen? ⟨B, 0, none⟩ = false) :
    CallsD Tryd.prog 27 #[.pointer (some ⟨B, 0, none⟩)] (.panicking [{ v := .iface 28 (.int .i64 n), recovered := false }]) w fun e u' w' => e = .returned (.tuple #[]) ∧ u' = .panicking [{ v := .iface 28 (.int .i64 n), recovered := true }] ∧ w' = w.setCell ⟨B, 0, none⟩ (.int .i64 n) := by
  refine callsD_of_wpS Tryd.func27 rfl fun c₀ cs hu => ?_
  apply wpS_region
  simp [wpOpsS, go_sem, recoverD, hu, Tryd.ntmps27]
  refine (caught_any n _).mono ?_
  rintro e w1 ⟨rfl, rfl⟩
  cases c₀
  simp_all [bodyPostS, results, Tryd.results27, go_sem]

/-- What Read tells. -/
def rdV (xs : List Int) : Ent := if 20 ≤ xs.length then readE xs else ⟨0, 0, 0, 0, 0, 0⟩
def rdNo (xs : List Int) : Int := if 20 ≤ xs.length then 0 else 130
theorem readE_take (xs : List Int) : readE (xs.take 20) = readE xs := by
  unfold readE
  simp only [List.take_take, List.drop_take]
  rfl

set_option maxRecDepth 100000 in
set_option maxHeartbeats 3200000 in
theorem read4_any (p : Option Addr) (c : Nat) (xs : List Int) (hb : IsBytes xs) (hn : xs.length ≤ 1000000) (hc : xs.length ≤ c) (w : World) (hx : ByS w p xs) (hf : Fit3 w) :
    Calls Tryd.prog 9 #[.slice p xs.length c] w fun e w' => e = .returned (.tuple #[entV (rdV xs), .int .i64 (rdNo xs)]) ∧ Below w.heap.size w w' := by
  have hmf : ∀ (fn : Fn) (first cap : Array Value) (w : World), (Instr.makeFunc fn first cap).run Tryd.prog w = .ok (.func fn first cap) w := fun _ _ _ _ => rfl
  have hmin : min (20 : Int) xs.length = ((xs.take 20).length : Int) := by rw [List.length_take]; omega
  have hl0 : (0 : Int) ≤ ((xs.take 20).length : Int) := by omega
  have hl1 : ((xs.take 20).length : Int) ≤ (c : Int) := by rw [List.length_take]; omega
  have HL := Lib.hid (show (20 ≤ (xs.take 20).length ↔ 20 ≤ xs.length) by rw [List.length_take]; omega)
  have hxt : ByS w p (xs.take 20) := fun h0 => by
    obtain ⟨b, o, e, hl, hcc⟩ := hx (by rw [List.length_take] at h0; omega)
    refine ⟨b, o, e, hl, fun i hi => ?_⟩
    have hi' : i < xs.length := by rw [List.length_take] at hi; omega
    rw [hcc i hi']
    simp
  have HX := Lib.hid hxt
  have HBT := Lib.hid (hb.take 20)
  have HNT := Lib.hid (show (xs.take 20).length ≤ 1000000 by rw [List.length_take]; omega)
  have HF := Lib.hid hf
  have e1 : rdV xs = (if 20 ≤ (xs.take 20).length then readE (xs.take 20) else ⟨0, 0, 0, 0, 0, 0⟩) := by
    unfold rdV
    rw [readE_take]
    by_cases h : 20 ≤ xs.length
    · rw [if_pos h, if_pos (HL.out.2 h)]
    · rw [if_neg h, if_neg (fun h2 => h (HL.out.1 h2))]
  have e2 : rdNo xs = (if 20 ≤ (xs.take 20).length then 0 else 130) := by
    unfold rdNo
    by_cases h : 20 ≤ xs.length
    · rw [if_pos h, if_pos (HL.out.2 h)]
    · rw [if_neg h, if_neg (fun h2 => h (HL.out.1 h2))]
  rw [e1, e2]
  have hl20 : (xs.take 20).length ≤ 20 := by rw [List.length_take]; omega
  clear hx hxt hb hf e1 e2 HL
  generalize xs.take 20 = ys at *
  have HU := Lib.hid (HF.out.below (two_below w (.cells #[.int .i64 0, .int .i64 0, .int .u32 0, .int .u32 0, .int .u32 0, .int .u32 0] 25) (.cells #[.int .i64 0] 28)))
  have hz2 : ((w.alloc (.cells #[.int .i64 0, .int .i64 0, .int .u32 0, .int .u32 0, .int .u32 0, .int .u32 0] 25)).alloc (.cells #[.int .i64 0] 28)).heap.size = w.heap.size + 1 + 1 := by simp
  have HZ2 := Lib.hid hz2
  clear hz2
  by_cases hys : 20 ≤ ys.length
  · rw [if_pos hys, if_pos hys]
    obtain ⟨o, ho⟩ : ∃ o, readE ys = o := ⟨_, rfl⟩
    rw [ho]
    obtain ⟨f, t, a, m, n, k⟩ := o
    have HO := Lib.hid ho
    clear ho
    go_enter_defers Tryd.func9, Tryd.ntmps9
    go_wp2_with fail
    refine (new3_any p c ys _ HBT.out HNT.out (HX.out.below (two_below w _ _))).mono ?_
    rintro e w2 ⟨r, rfl, hr, hge, hb2⟩
    have hx2 := entry4_any _ (w2.alloc (.cells #[.pointer (some ⟨r, 0, none⟩)] 68)) HU.out (hb2.alloc hb2.size _) r ys (hr.keep ((Below.refl w2.heap.size w2).alloc (Nat.le_refl _) _))
    rw [if_pos hys, HO.out] at hx2
    have HE := Lib.hid hx2
    clear hr hge hb2 hx2
    go_wp2_with fail
    refine HE.out.mono ?_
    rintro e w3 ⟨rfl, hb3, -⟩
    obtain ⟨b1, b2, hbl⟩ := blks2 w _ _ _ _ hb3
    have d0 := b1.cell 0
    have x0 := b1.frozen 0
    have d1 := b1.cell 1
    have x1 := b1.frozen 1
    have d2 := b1.cell 2
    have x2 := b1.frozen 2
    have d3 := b1.cell 3
    have x3 := b1.frozen 3
    have d4 := b1.cell 4
    have x4 := b1.frozen 4
    have d5 := b1.cell 5
    have x5 := b1.frozen 5
    have e0 := b2.cell 0
    have y0 := b2.frozen 0
    have hS := ((((((b1.set_ 0 (.int .i64 f)).set_ 1 (.int .i64 t)).set_ 2 (.int .u32 a)).set_ 3 (.int .u32 m)).set_ 4 (.int .u32 n)).set_ 5 (.int .u32 k))
    have hE := ((((((b2.far (p := ⟨w.heap.size, 0, none⟩) (by simp) (.int .i64 f)).far (p := ⟨w.heap.size, 1, none⟩) (by simp) (.int .i64 t)).far (p := ⟨w.heap.size, 2, none⟩) (by simp) (.int .u32 a)).far (p := ⟨w.heap.size, 3, none⟩) (by simp) (.int .u32 m)).far (p := ⟨w.heap.size, 4, none⟩) (by simp) (.int .u32 n)).far (p := ⟨w.heap.size, 5, none⟩) (by simp) (.int .u32 k))
    have hB := ((((((hbl.setCell (p := ⟨w.heap.size, 0, none⟩) (Nat.le_refl _) (.int .i64 f)).setCell (p := ⟨w.heap.size, 1, none⟩) (Nat.le_refl _) (.int .i64 t)).setCell (p := ⟨w.heap.size, 2, none⟩) (Nat.le_refl _) (.int .u32 a)).setCell (p := ⟨w.heap.size, 3, none⟩) (Nat.le_refl _) (.int .u32 m)).setCell (p := ⟨w.heap.size, 4, none⟩) (Nat.le_refl _) (.int .u32 n)).setCell (p := ⟨w.heap.size, 5, none⟩) (Nat.le_refl _) (.int .u32 k))
    simp only [List.getElem?_toArray, List.getElem?_cons_zero, List.getElem?_cons_succ] at d0 d1 d2 d3 d4 d5 e0
    have HS := Lib.hid hS
    have HEE := Lib.hid hE
    have HB := Lib.hid hB
    clear b1 b2 hbl hb3 HE hS hE hB
    go_wp2_with fail
    have HW5 := HEE.out.set_ 0 (.int .i64 0)
    have HS5 := HS.out.far (p := ⟨w.heap.size + 1, 0, none⟩) (by simp) (.int .i64 0)
    have c5 := HW5.cell 0
    have z5 := HW5.frozen 0
    have hbb := (HB.out.setCell (p := ⟨w.heap.size + 1, 0, none⟩) (by simp) (.int .i64 0)).setCell (p := ⟨w.heap.size + 1, 0, none⟩) (by simp) (.int .i64 0)
    have HSF := HS5.far (p := ⟨w.heap.size + 1, 0, none⟩) (by simp) (.int .i64 0)
    have HEF := HW5.set_ 0 (.int .i64 0)
    have s0 := HSF.cell 0
    have s1 := HSF.cell 1
    have s2 := HSF.cell 2
    have s3 := HSF.cell 3
    have s4 := HSF.cell 4
    have s5 := HSF.cell 5
    have q0 := HEF.cell 0
    simp at c5 s0 s1 s2 s3 s4 s5 q0
    refine leaves_cons (f := 27) (args := #[.pointer (some ⟨w.heap.size + 1, 0, none⟩)]) (by simp) (by simp [go_sem]) ?_
    refine (readIdle (w.heap.size + 1) 0 _ c5 z5).mono ?_
    rintro e u' w'' ⟨rfl, rfl, rfl⟩
    simp [Leaves, settle, results, Tryd.results9, go_sem, s0, s1, s2, s3, s4, s5, q0, hbb]
  · rw [if_neg hys, if_neg hys]
    go_enter_defers Tryd.func9, Tryd.ntmps9
    go_wp2_with fail
    refine (new3_any p c ys _ HBT.out HNT.out (HX.out.below (two_below w _ _))).mono ?_
    rintro e w2 ⟨r, rfl, hr, hge, hb2⟩
    have hx2 := entry4_any _ (w2.alloc (.cells #[.pointer (some ⟨r, 0, none⟩)] 68)) HU.out (hb2.alloc hb2.size _) r ys (hr.keep ((Below.refl w2.heap.size w2).alloc (Nat.le_refl _) _))
    rw [if_neg hys] at hx2
    have HE := Lib.hid hx2
    clear hr hge hb2 hx2
    go_wp2_with fail
    refine HE.out.mono ?_
    rintro e w3 ⟨rfl, hb3, -⟩
    obtain ⟨b1, b2, hbl⟩ := blks2 w _ _ _ _ hb3
    have e0 := b2.cell 0
    have y0 := b2.frozen 0
    have hbb := hbl.setCell (p := ⟨w.heap.size + 1, 0, none⟩) (by simp) (.int .i64 130)
    have HSF := b1.far (p := ⟨w.heap.size + 1, 0, none⟩) (by simp) (.int .i64 130)
    have HEF := b2.set_ 0 (.int .i64 130)
    have s0 := HSF.cell 0
    have s1 := HSF.cell 1
    have s2 := HSF.cell 2
    have s3 := HSF.cell 3
    have s4 := HSF.cell 4
    have s5 := HSF.cell 5
    have q0 := HEF.cell 0
    simp at e0 s0 s1 s2 s3 s4 s5 q0
    clear b1 b2 hbl hb3 HE
    go_wp2_with fail
    refine leaves_cons (f := 27) (args := #[.pointer (some ⟨w.heap.size + 1, 0, none⟩)]) (by simp) (by simp [go_sem]) ?_
    refine (readPanics (w.heap.size + 1) 0 130 _ e0 y0).mono ?_
    rintro e u' w'' ⟨rfl, rfl, rfl⟩
    simp [Leaves, settle, results, Tryd.results9, go_sem, s0, s1, s2, s3, s4, s5, q0, hbb]
end Go.Proofs.YtfbfdjcdjogefaaDoor
