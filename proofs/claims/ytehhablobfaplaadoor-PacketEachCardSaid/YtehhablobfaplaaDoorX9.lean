/- Layer 5: Same and AsksAll of the program; AsksAll and Decode of the reference. -/
import Derived.Test.YtehhablobfaplaaDoorX8
import Derived.Test.YtehhablobfaplaaDoorW4
namespace Go.Proofs.YtehhablobfaplaaDoor
open Go Go.RowKit Go.Shelf Go.Sort
attribute [local go_sem] Oper.semAt_some
attribute [local irreducible] wpQuiet

set_option maxRecDepth 100000 in
set_option maxHeartbeats 1600000 in
theorem equal5_any (A B : Option Addr) (ca cb : Nat) (l r : List Ent) (hl : l.length ≤ 1000000) (hr : r.length ≤ 1000000) (w : World) (hA : EntS w A l) (hB : EntS w B r) :
    Calls Tryd.prog 44 #[.slice A l.length ca, .slice B r.length cb] w fun e w' => e = .returned (.bool (decide (l = r))) ∧ Below w.heap.size w w' := by
  have HA := Lib.hid hA
  have HB := Lib.hid hB
  clear hA hB
  by_cases hlen : l.length = r.length
  · have hs := same_iffE l r hlen
    have HS := Lib.hid hs
    have HL := Lib.hid hlen
    rw [hlen]
    clear hs hlen
    go_enter Tryd.func44, Tryd.ntmps44
    go_wp2_with fail
    go_loopw [13] (fun i wr => ∃ k : Nat, k ≤ r.length ∧ i = .int .i64 k ∧ Hid (∀ j (hl : j < l.length) (hr : j < r.length), j < k → l[j]'hl = r[j]'hr) ∧ Hid (Below w.heap.size w wr)) (fun i _ => r.length - (intOf i).toNat)
    case atStart => exact ⟨0, by omega, rfl, Lib.hid (fun j _ _ h => by omega), Lib.hid (Below.refl _ _)⟩
    case round =>
      obtain ⟨k, hk, rfl, HZ, HW⟩ := hrel
      by_cases hlt : k < r.length
      · have hlk : k < l.length := by have := HL.out; omega
        obtain ⟨b, o, rfl, hbl, d0, d1, d2, d3, d4, d5⟩ := (HA.out.below HW.out).at hlk
        obtain ⟨b2, o2, rfl, hbl2, g0, g1, g2, g3, g4, g5⟩ := (HB.out.below HW.out).at hlt
        have hlt2 : (k : Int) < (r.length : Int) := by omega
        have HZ2 : Hid (l[k]'hlk = r[k]'hlt → ∀ j (hl : j < l.length) (hr : j < r.length), j < k + 1 → l[j]'hl = r[j]'hr) := Lib.hid (fun e j hl hr hj => by
          rcases Nat.lt_or_ge j k with h | h
          · exact HZ.out j hl hr h
          · obtain rfl : j = k := by omega
            exact e)
        have HD : Hid (¬ l[k]'hlk = r[k]'hlt → decide (l = r) = false) := Lib.hid (fun hne => decide_eq_false (fun e => hne (HS.out.1 e k hlk hlt)))
        generalize (l[k]'hlk) = x at *
        generalize (r[k]'hlt) = y at *
        obtain ⟨f, t, a, m, n, z⟩ := x
        obtain ⟨f', t', a', m', n', z'⟩ := y
        obtain ⟨q, hq⟩ : ∃ q, (!decide ((⟨f, t, a, m, n, z⟩ : Ent) = ⟨f', t', a', m', n', z'⟩)) = q := ⟨_, rfl⟩
        have hNE : ∀ W, (binOp .neq 55 (.agg #[.int .i64 f, .int .i64 t, .int .u32 a, .int .u32 m, .int .u32 n, .int .u32 z]) (.agg #[.int .i64 f', .int .i64 t', .int .u32 a', .int .u32 m', .int .u32 n', .int .u32 z'])).run Tryd.prog W = .ok (.bool q) W := fun W => by rw [← hq]; exact neEnt5_run ⟨f, t, a, m, n, z⟩ ⟨f', t', a', m', n', z'⟩ W
        have HQ := Lib.hid hq
        clear hq
        have HW2 : Hid (Below w.heap.size w wr.drew) := Lib.hid (HW.out.trans ((below_drew wr).mono HW.out.size))
        go_wp2_with fail
        refine region_plain (by kernel_rfl) ?_
        refine AllY.take (i := 0) (v := ?v1x0) (by rw [List.getElem?_toArray]; exact rfl) (by kernel_rfl) (by kernel_rfl) (by kernel_rfl) (Or.inl ⟨by rfl, ?hy1x0⟩) ?_
        case hy1x0 => intro w hSw; subst hSw; go_simp; (try with_reducible rfl)
        try simp only [Act.put, List.setIfInBounds_toArray, List.set_cons_zero, List.set_cons_succ]
        refine AllY.take (i := 1) (v := ?v1x1) (by rw [List.getElem?_toArray]; exact rfl) (by kernel_rfl) (by kernel_rfl) (by kernel_rfl) (Or.inl ⟨by rfl, ?hy1x1⟩) ?_
        case hy1x1 => intro w hSw; subst hSw; go_simp; (try with_reducible rfl)
        try simp only [Act.put, List.setIfInBounds_toArray, List.set_cons_zero, List.set_cons_succ]
        refine AllY.take (i := 2) (v := ?v1x2) (by rw [List.getElem?_toArray]; exact rfl) (by kernel_rfl) (by kernel_rfl) (by kernel_rfl) (Or.inl ⟨by rfl, ?hy1x2⟩) ?_
        case hy1x2 => intro w hSw; subst hSw; go_simp; (try with_reducible rfl)
        try simp only [Act.put, List.setIfInBounds_toArray, List.set_cons_zero, List.set_cons_succ]
        refine AllY.take (i := 3) (v := ?v1x3) (by rw [List.getElem?_toArray]; exact rfl) (by kernel_rfl) (by kernel_rfl) (by kernel_rfl) (Or.inl ⟨by rfl, ?hy1x3⟩) ?_
        case hy1x3 => intro w hSw; subst hSw; go_simp; (try with_reducible rfl)
        try simp only [Act.put, List.setIfInBounds_toArray, List.set_cons_zero, List.set_cons_succ]
        refine AllY.take (i := 4) (v := ?v1x4) (by rw [List.getElem?_toArray]; exact rfl) (by kernel_rfl) (by kernel_rfl) (by kernel_rfl) (Or.inl ⟨by rfl, ?hy1x4⟩) ?_
        case hy1x4 => intro w hSw; subst hSw; go_simp; (try with_reducible rfl)
        try simp only [Act.put, List.setIfInBounds_toArray, List.set_cons_zero, List.set_cons_succ]
        refine AllY.take (i := 5) (v := ?v1x5) (by rw [List.getElem?_toArray]; exact rfl) (by kernel_rfl) (by kernel_rfl) (by kernel_rfl) (Or.inl ⟨by rfl, ?hy1x5⟩) ?_
        case hy1x5 => intro w hSw; subst hSw; go_simp; (try with_reducible rfl)
        try simp only [Act.put, List.setIfInBounds_toArray, List.set_cons_zero, List.set_cons_succ]
        refine AllY.take (i := 6) (v := ?v1x6) (by rw [List.getElem?_toArray]; exact rfl) (by kernel_rfl) (by kernel_rfl) (by kernel_rfl) (Or.inl ⟨by rfl, ?hy1x6⟩) ?_
        case hy1x6 => intro w hSw; subst hSw; go_simp; (try with_reducible rfl)
        try simp only [Act.put, List.setIfInBounds_toArray, List.set_cons_zero, List.set_cons_succ]
        refine AllY.take (i := 7) (v := ?v1x7) (by rw [List.getElem?_toArray]; exact rfl) (by kernel_rfl) (by kernel_rfl) (by kernel_rfl) (Or.inl ⟨by rfl, ?hy1x7⟩) ?_
        case hy1x7 => intro w hSw; subst hSw; go_simp; (try with_reducible rfl)
        try simp only [Act.put, List.setIfInBounds_toArray, List.set_cons_zero, List.set_cons_succ]
        refine AllY.take (i := 8) (v := ?v1x8) (by rw [List.getElem?_toArray]; exact rfl) (by kernel_rfl) (by kernel_rfl) (by kernel_rfl) (Or.inl ⟨by rfl, ?hy1x8⟩) ?_
        case hy1x8 => intro w hSw; subst hSw; go_simp; (try with_reducible rfl)
        try simp only [Act.put, List.setIfInBounds_toArray, List.set_cons_zero, List.set_cons_succ]
        refine AllY.done (by kernel_rfl) ?_
        clear hNE d0 d1 d2 d3 d4 d5 g0 g1 g2 g3 g4 g5
        generalize wr.drew = w2 at *
        cases q
        · have he : (⟨f, t, a, m, n, z⟩ : Ent) = ⟨f', t', a', m', n', z'⟩ := by have := HQ.out; simpa using this
          have HZ3 := Lib.hid (HZ2.out he)
          clear he
          go_wp2_with fail
          go_roundw
          case rel => exact ⟨k + 1, by omega, by go_num, HZ3, HW2⟩
          case measure => simp [intOf]; omega
        · have hd := HD.out (fun e => by have := HQ.out; rw [e] at this; simp at this)
          have HD2 := Lib.hid hd
          clear hd
          go_wp2_with fail
          go_ret
          exact ⟨by rw [HD2.out]; rfl, HW2.out⟩
      · have hd : decide (l = r) = true := decide_eq_true (HS.out.2 fun j hl hr => HZ.out j hl hr (by omega))
        have HD := Lib.hid hd
        have hlt2 : ¬ (k : Int) < (r.length : Int) := by omega
        clear hd
        go_wp2_with fail
        go_ret
        exact ⟨by rw [HD.out]; rfl, HW.out⟩
  · have hd : decide (l = r) = false := decide_eq_false (fun e => hlen (by rw [e]))
    rw [hd]
    have hne : ((l.length : Int) != (r.length : Int)) = true := by simpa using fun e : (l.length : Int) = r.length => hlen (by omega)
    clear hd
    go_enter Tryd.func44, Tryd.ntmps44
    go_wp2_with fail
    go_ret
    exact ⟨rfl, Below.refl _ _⟩

set_option maxRecDepth 100000 in
set_option maxHeartbeats 1600000 in
theorem same5_any (c d : Int) (A B : Option Addr) (ca cb : Nat) (l r : List Ent) (hl : l.length ≤ 1000000) (hr : r.length ≤ 1000000) (w : World) (hA : EntS w A l) (hB : EntS w B r) :
    Calls Tryd.prog 22 #[datV c A l.length ca, datV d B r.length cb] w fun e w' => e = .returned (.bool (decide (c = d ∧ l = r))) ∧ Below w.heap.size w w' := by
  have hba : Below w.heap.size w ((w.alloc (.cells #[.int .i64 c, .slice A l.length ca] 25)).alloc (.cells #[.int .i64 d, .slice B r.length cb] 25)) := ((Below.refl _ _).alloc (Nat.le_refl _) _).alloc (by simp) _
  have HS := Lib.hid (fun W (h : Below w.heap.size w W) => equal5_any A B ca cb l r hl hr W (hA.below h) (hB.below h))
  have HBA := Lib.hid hba
  clear hA hB hba
  by_cases hc : c = d
  · have hd : decide (c = d ∧ l = r) = decide (l = r) := by simp [hc]
    rw [hd]
    generalize decide (l = r) = q at *
    clear hd
    go_enter Tryd.func22, Tryd.ntmps22
    go_wp2_with fail
    subst hc
    refine (HS.out _ HBA.out).mono ?_
    rintro e w1 ⟨rfl, hb⟩
    have HB1 := Lib.hid (HBA.out.trans (hb.mono HBA.out.size))
    clear hb
    go_wp2_with fail
    go_ret
    exact ⟨rfl, HB1.out⟩
  · have hd : decide (c = d ∧ l = r) = false := by simp [hc]
    rw [hd]
    clear hd
    go_enter Tryd.func22, Tryd.ntmps22
    go_wp2_with fail
    go_ret
    exact ⟨rfl, HBA.out⟩

theorem eqEnt5_run (e g : Ent) (w : World) : (binOp .eql 55 (entV e) (entV g)).run Tryd.prog w = .ok (.bool (decide (e = g))) w := by
  obtain ⟨f, t, a, m, n, k⟩ := e
  obtain ⟨f', t', a', m', n', k'⟩ := g
  have hd : decide ((⟨f, t, a, m, n, k⟩ : Ent) = ⟨f', t', a', m', n', k'⟩) = (f == f' && t == t' && a == a' && m == m' && n == n' && k == k') := by
    rw [Bool.eq_iff_iff, decide_eq_true_iff]
    simp [Ent.mk.injEq, and_assoc]
  rw [hd]
  simp [go_sem]
  by_cases h1 : f = f' <;> by_cases h2 : t = t' <;> by_cases h3 : a = a' <;> by_cases h4 : m = m' <;> by_cases h5 : n = n' <;> by_cases h6 : k = k' <;> simp [h1, h2, h3, h4, h5, h6]
theorem EntS.one {W : World} {g : Nat} {e : Ent} (h : Blk W g 55 (sixA e)) : EntS W (some ⟨g, 0, none⟩) [e] := fun _ => by
  refine ⟨g, 0, rfl, h.lt, fun j hj r hr => ?_⟩
  have : j = 0 := by simpa using hj
  subst this
  simpa using h.cell r

set_option maxRecDepth 100000 in
set_option maxHeartbeats 1600000 in
theorem asksAll5_any (c : Int) (A : Option Addr) (ca : Nat) (l : List Ent) (hl : l.length ≤ 1000000) (w : World) (hA : EntS w A l) :
    Calls Tryd.prog 12 #[datV c A l.length ca] w fun e w' => e = .returned (.bool (decide (c = 1 ∧ l = [allE]))) ∧ Below w.heap.size w w' := by
  have hb0 : Below w.heap.size w (w.alloc (.cells #[.int .i64 c, .slice A l.length ca] 25)) := (Below.refl _ _).alloc (Nat.le_refl _) _
  have hbl : Blk (w.alloc (.cells #[.int .i64 c, .slice A l.length ca] 25)) w.heap.size 25 #[.int .i64 c, .slice A l.length ca] := Blk.new _ _ _
  have hs0 : w.heap.size + 1 ≤ (w.alloc (.cells #[.int .i64 c, .slice A l.length ca] 25)).heap.size := by simp
  have HA := Lib.hid (hA.below hb0)
  have HB0 := Lib.hid hb0
  have HBL := Lib.hid hbl
  have HQ := Lib.hid (fun (B : Option Addr) (cb : Nat) (W : World) (h1 : EntS W A l) (h2 : EntS W B [allE]) => same5_any c 1 A B ca cb l [allE] hl (by simp) W h1 h2)
  clear hA hb0 hbl
  generalize decide (c = 1 ∧ l = [allE]) = q at *
  go_enter Tryd.func12, Tryd.ntmps12
  go_wp2_with fail
  generalize (w.alloc (.cells #[.int .i64 c, .slice A l.length ca] 25)) = W0 at *
  have HS : Hid (∀ w', Below W0.heap.size W0 w' → w'.cell? ⟨w.heap.size, 0, none⟩ = some (.int .i64 c) ∧ w'.cell? ⟨w.heap.size, 1, none⟩ = some (.slice A l.length ca)) := Lib.hid (fun w' hb => by
    have h := HBL.out.below hb (by omega)
    exact ⟨h.cell 0, h.cell 1⟩)
  refine wp_region_noPanic ?_
  refine wp_region_held_drew (S := fun w' => w'.cell? ⟨w.heap.size, 0, none⟩ = some (.int .i64 c) ∧ w'.cell? ⟨w.heap.size, 1, none⟩ = some (.slice A l.length ca)) (by kernel_rfl) (HS.out _ (below_drew W0)) ?_
  intro hS0
  refine wpAnyH_take (i := 0) (v := ?v1) (by rw [List.getElem?_toArray]; exact rfl) (by kernel_rfl) (by kernel_rfl) (by kernel_rfl) (fun _ _ _ h => h) (Or.inl ⟨by rfl, ?hy1⟩) (by assumption) ?rest1
  case hy1 => intro w hSw; (try dsimp only at hSw); go_simp; (try with_reducible rfl)
  try simp only [Act.put, List.setIfInBounds_toArray, List.set_cons_zero, List.set_cons_succ]
  refine ready_call (i := 1) (by kernel_rfl) (by rw [List.getElem?_toArray]; exact rfl) (by kernel_rfl) (fun K1 hK1 => ?_)
  go_simp
  refine (all4_any _).mono ?_
  rintro e w1 ⟨rfl, hb1⟩
  have hB1 := (below_drew W0).trans (hb1.mono (below_drew W0).size)
  clear hb1
  refine hK1.out _ _ (HS.out _ hB1) (fun hS1 => ?_)
  clear hK1 K1
  try simp only [Act.put, List.setIfInBounds_toArray, List.set_cons_zero, List.set_cons_succ]
  refine ready_call (i := 2) (by kernel_rfl) (by rw [List.getElem?_toArray]; exact rfl) (by kernel_rfl) (fun K1 hK1 => ?_)
  go_simp
  have hB2 := hB1.alloc hB1.size (.cells (sixA allE) 55)
  have hN := Blk.new w1 55 (sixA allE)
  refine hK1.out _ _ (HS.out _ hB2) (fun hS2 => ?_)
  clear hK1 K1
  try simp only [Act.put, List.setIfInBounds_toArray, List.set_cons_zero, List.set_cons_succ]
  refine wpAnyH_take (i := 3) (v := ?v2) (by rw [List.getElem?_toArray]; exact rfl) (by kernel_rfl) (by kernel_rfl) (by kernel_rfl) (fun _ _ _ h => h) (Or.inl ⟨by rfl, ?hy2⟩) (by assumption) ?rest2
  case hy2 => intro w hSw; (try dsimp only at hSw); go_simp; (try with_reducible rfl)
  try simp only [Act.put, List.setIfInBounds_toArray, List.set_cons_zero, List.set_cons_succ]
  refine ready_call (i := 4) (by kernel_rfl) (by rw [List.getElem?_toArray]; exact rfl) (by kernel_rfl) (fun K1 hK1 => ?_)
  go_simp
  refine (HQ.out (some ⟨w1.heap.size, 0, none⟩) 1 _ (HA.out.below hB2) (EntS.one hN)).mono ?_
  rintro e w3 ⟨rfl, hb3⟩
  have hB3 := hB2.trans (hb3.mono hB2.size)
  clear hb3
  refine hK1.out _ _ (HS.out _ hB3) (fun hS3 => ?_)
  clear hK1 K1
  try simp only [Act.put, List.setIfInBounds_toArray, List.set_cons_zero, List.set_cons_succ]
  refine wpAnyH_take (i := 5) (v := ?v3) (by rw [List.getElem?_toArray]; exact rfl) (by kernel_rfl) (by kernel_rfl) (by kernel_rfl) (fun _ _ _ h => h) (Or.inl ⟨by rfl, ?hy3⟩) (by assumption) ?rest3
  case hy3 => intro w hSw; (try dsimp only at hSw); go_simp; (try with_reducible rfl)
  try simp only [Act.put, List.setIfInBounds_toArray, List.set_cons_zero, List.set_cons_succ]
  refine wpAnyH_done (by kernel_rfl) ?_ _
  refine NoPanic.normal ?_
  have HBF := Lib.hid (HB0.out.trans (hB3.mono HB0.out.size))
  clear hB1 hB2 hB3 hN hS0 hS1 hS2 hS3
  go_wp2_with fail
  go_ret
  exact ⟨rfl, HBF.out⟩
end Go.Proofs.YtehhablobfaplaaDoor
