/- Layer 5's reference: what is a command, Check, Same, AsksAll. -/
import Derived.Test.YtehhablobfaplaaDoorX1
import Derived.Test.YtehhablobfaplaaDoorW2
import Derived.Test.YtehhablobfaplaaDoorU3
import Derived.Test.YtehhablobfaplaaDoorU1
namespace Go.Proofs.YtehhablobfaplaaDoor
open Go Go.RowKit Go.Shelf Go.Sort
attribute [local go_sem] Oper.semAt_some

/-- The six values of an entry. -/
def sixA (e : Ent) : Array Value := #[.int .i64 e.f, .int .i64 e.t, .int .u32 e.a, .int .u32 e.m, .int .u32 e.n, .int .u32 e.k]
/-- Entries that lie somewhere. -/
def EntS (w : World) (p : Option Addr) (l : List Ent) : Prop := 0 < l.length → ∃ b o, p = some ⟨b, o, none⟩ ∧ b < w.heap.size ∧ ∀ j (hj : j < l.length) r, r < 6 → w.cell? ⟨b, o + j * 6 + r, none⟩ = (sixA (l[j]'hj))[r]?
theorem EntS.below {w w' : World} {p : Option Addr} {l : List Ent} (h : EntS w p l) (hb : Below w.heap.size w w') : EntS w' p l := fun h0 => by
  obtain ⟨b, o, e, hl, hc⟩ := h h0
  exact ⟨b, o, e, by have := hb.size; omega, fun j hj r hr => (hb.cell (p := ⟨b, o + j * 6 + r, none⟩) hl).trans (hc j hj r hr)⟩
theorem EntS.at {w : World} {p : Option Addr} {l : List Ent} (h : EntS w p l) {j : Nat} (hj : j < l.length) : ∃ b o, p = some ⟨b, o, none⟩ ∧ b < w.heap.size ∧
    w.cell? ⟨b, o + j * 6, none⟩ = some (.int .i64 (l[j]'hj).f) ∧ w.cell? ⟨b, o + j * 6 + 1, none⟩ = some (.int .i64 (l[j]'hj).t) ∧ w.cell? ⟨b, o + j * 6 + 2, none⟩ = some (.int .u32 (l[j]'hj).a) ∧
    w.cell? ⟨b, o + j * 6 + 3, none⟩ = some (.int .u32 (l[j]'hj).m) ∧ w.cell? ⟨b, o + j * 6 + 4, none⟩ = some (.int .u32 (l[j]'hj).n) ∧ w.cell? ⟨b, o + j * 6 + 5, none⟩ = some (.int .u32 (l[j]'hj).k) := by
  obtain ⟨b, o, e, hl, hc⟩ := h (by omega)
  have d0 := hc j hj 0 (by omega)
  rw [Nat.add_zero] at d0
  exact ⟨b, o, e, hl, d0, hc j hj 1 (by omega), hc j hj 2 (by omega), hc j hj 3 (by omega), hc j hj 4 (by omega), hc j hj 5 (by omega)⟩

set_option maxHeartbeats 800000 in
theorem refCom5_any (c : Int) (w : World) :
    Calls Tryd.prog 27 #[.int .i64 c] w fun e w' => e = .returned (.bool (decide (comD c))) ∧ Below w.heap.size w w' := by
  by_cases h1 : c = 1
  · have hd : decide (comD c) = true := by simp [comD, h1]
    rw [hd]
    go_enter Tryd.func27, Tryd.ntmps27
    go_wp2_with fail
    go_ret
    exact ⟨rfl, Below.refl _ _⟩
  · by_cases h2 : c = 2
    · have hd : decide (comD c) = true := by simp [comD, h2]
      rw [hd]
      go_enter Tryd.func27, Tryd.ntmps27
      go_wp2_with fail
      go_ret
      exact ⟨rfl, Below.refl _ _⟩
    · have hd : decide (comD c) = false := by simp [comD, h1, h2]
      rw [hd]
      go_enter Tryd.func27, Tryd.ntmps27
      go_wp2_with fail
      go_ret
      exact ⟨by simp [h1, h2], Below.refl _ _⟩

set_option maxRecDepth 100000 in
set_option maxHeartbeats 1600000 in
theorem refCheck5_any (p : Option Addr) (c : Nat) (xs : List Int) (hn : xs.length ≤ 1000000) (w : World) (hx : ByS w p xs) :
    Calls Tryd.prog 34 #[.slice p xs.length c] w fun e w' => e = .returned (.int .i64 (chkNo xs)) ∧ Below w.heap.size w w' := by
  by_cases h4 : xs.length < 4
  · have hk : chkNo xs = 150 := if_pos h4
    rw [hk]
    have hz : (xs.length : Int) < 4 := by omega
    clear hk hx
    go_enter Tryd.func34, Tryd.ntmps34
    go_wp2_with fail
    go_ret
    exact ⟨rfl, Below.refl _ _⟩
  · have hz : ¬ (xs.length : Int) < 4 := by omega
    have hw : IntKind.i64.wrap ((xs.length : Int) - 4) = ((xs.length - 4 : Nat) : Int) := by rw [IntKind.wrap_i64]; omega
    have ht : (((xs.length - 4 : Nat) : Int)).tmod 20 = (((xs.length - 4) % 20 : Nat) : Int) := by rw [Int.tmod_eq_emod_of_nonneg (by omega)]; rfl
    by_cases h20 : (xs.length - 4) % 20 = 0
    · by_cases h5 : 504 < xs.length
      · have hk : chkNo xs = 151 := by unfold chkNo; rw [if_neg h4, if_pos (.inr h5)]
        rw [hk]
        rw [h20] at ht
        have hz5 : 504 < (xs.length : Int) := by omega
        clear hk hx
        generalize ((xs.length - 4 : Nat) : Int) = y at *
        go_enter Tryd.func34, Tryd.ntmps34
        go_wp2_with fail
        go_ret
        exact ⟨rfl, Below.refl _ _⟩
      · rw [h20] at ht
        have hz5 : ¬ 504 < (xs.length : Int) := by omega
        obtain ⟨g, o, rfl, hl, hc⟩ := hx (by omega)
        match xs, h4, hn, hz, hw, ht, h20, h5, hz5, hc with
        | a :: b :: e :: d :: r, h4, hn, hz, hw, ht, h20, h5, hz5, hc =>
          have c0 := hc 0 (by simp)
          have c1 := hc 1 (by simp)
          have c2 := hc 2 (by simp)
          have c3 := hc 3 (by simp)
          simp only [Nat.add_zero, List.getElem_cons_zero, List.getElem_cons_succ] at c0 c1 c2 c3
          have hk : chkNo (a :: b :: e :: d :: r) = if b ≠ 2 then 152 else if ¬ comD a then 153 else if e ≠ 0 ∨ d ≠ 0 then 154 else 0 := by
            unfold chkNo
            rw [if_neg h4, if_neg (by omega)]
            rfl
          rw [hk]
          have j1 : (0 : Int) < ((a :: b :: e :: d :: r).length : Int) := by omega
          have j2 : (1 : Int) < ((a :: b :: e :: d :: r).length : Int) := by omega
          have j3 : (2 : Int) < ((a :: b :: e :: d :: r).length : Int) := by omega
          have j4 : (3 : Int) < ((a :: b :: e :: d :: r).length : Int) := by omega
          clear hk hc hn h4 h5 h20
          generalize ((a :: b :: e :: d :: r).length - 4 : Nat) = y at *
          generalize (a :: b :: e :: d :: r).length = n at *
          by_cases hb : b = 2
          · by_cases ha : a = 1
            · by_cases he : e = 0
              · by_cases hd : d = 0
                · rw [if_neg (by simp [hb]), if_neg (by simp [comD, ha]), if_neg (by simp [he, hd])]
                  go_enter Tryd.func34, Tryd.ntmps34
                  go_wp2_with fail
                  go_ret
                  exact ⟨rfl, Below.refl _ _⟩
                · rw [if_neg (by simp [hb]), if_neg (by simp [comD, ha]), if_pos (by simp [hd])]
                  go_enter Tryd.func34, Tryd.ntmps34
                  go_wp2_with fail
                  go_ret
                  exact ⟨rfl, Below.refl _ _⟩
              · rw [if_neg (by simp [hb]), if_neg (by simp [comD, ha]), if_pos (by simp [he])]
                go_enter Tryd.func34, Tryd.ntmps34
                go_wp2_with fail
                go_ret
                exact ⟨rfl, Below.refl _ _⟩
            · by_cases ha2 : a = 2
              · by_cases he : e = 0
                · by_cases hd : d = 0
                  · rw [if_neg (by simp [hb]), if_neg (by simp [comD, ha2]), if_neg (by simp [he, hd])]
                    go_enter Tryd.func34, Tryd.ntmps34
                    go_wp2_with fail
                    go_ret
                    exact ⟨rfl, Below.refl _ _⟩
                  · rw [if_neg (by simp [hb]), if_neg (by simp [comD, ha2]), if_pos (by simp [hd])]
                    go_enter Tryd.func34, Tryd.ntmps34
                    go_wp2_with fail
                    go_ret
                    exact ⟨rfl, Below.refl _ _⟩
                · rw [if_neg (by simp [hb]), if_neg (by simp [comD, ha2]), if_pos (by simp [he])]
                  go_enter Tryd.func34, Tryd.ntmps34
                  go_wp2_with fail
                  go_ret
                  exact ⟨rfl, Below.refl _ _⟩
              · rw [if_neg (by simp [hb]), if_pos (by simp [comD, ha, ha2])]
                have ba : (a != 1) = true := by simpa using ha
                have ba2 : (a != 2) = true := by simpa using ha2
                go_enter Tryd.func34, Tryd.ntmps34
                go_wp2_with fail
                go_ret
                exact ⟨rfl, Below.refl _ _⟩
          · rw [if_pos hb]
            go_enter Tryd.func34, Tryd.ntmps34
            go_wp2_with fail
            go_ret
            exact ⟨rfl, Below.refl _ _⟩
    · have hk : chkNo xs = 151 := by unfold chkNo; rw [if_neg h4, if_pos (.inl h20)]
      rw [hk]
      generalize hq : (((xs.length - 4) % 20 : Nat) : Int) = q at *
      have hq0 : ¬ q = 0 := by omega
      clear hk hx hq
      generalize ((xs.length - 4 : Nat) : Int) = y at *
      go_enter Tryd.func34, Tryd.ntmps34
      go_wp2_with fail
      go_ret
      exact ⟨rfl, Below.refl _ _⟩
theorem same_iffE (l r : List Ent) (h : l.length = r.length) : l = r ↔ ∀ j (hl : j < l.length) (hr : j < r.length), l[j]'hl = r[j]'hr := by
  constructor
  · rintro rfl j _ _
    rfl
  · exact fun hh => List.ext_getElem h hh
theorem neEnt5_run (e g : Ent) (w : World) : (binOp .neq 55 (entV e) (entV g)).run Tryd.prog w = .ok (.bool (!decide (e = g))) w := by
  obtain ⟨f, t, a, m, n, k⟩ := e
  obtain ⟨f', t', a', m', n', k'⟩ := g
  have hd : decide ((⟨f, t, a, m, n, k⟩ : Ent) = ⟨f', t', a', m', n', k'⟩) = (f == f' && t == t' && a == a' && m == m' && n == n' && k == k') := by
    rw [Bool.eq_iff_iff, decide_eq_true_iff]
    simp [Ent.mk.injEq, and_assoc]
  rw [hd]
  simp [go_sem]
  by_cases h1 : f = f' <;> by_cases h2 : t = t' <;> by_cases h3 : a = a' <;> by_cases h4 : m = m' <;> by_cases h5 : n = n' <;> by_cases h6 : k = k' <;> simp [h1, h2, h3, h4, h5, h6]

set_option maxRecDepth 100000 in
set_option maxHeartbeats 1600000 in
theorem refSame4_any (A B : Option Addr) (ca cb : Nat) (l r : List Ent) (hl : l.length ≤ 1000000) (hr : r.length ≤ 1000000) (w : World) (hA : EntS w A l) (hB : EntS w B r) :
    Calls Tryd.prog 20 #[.slice A l.length ca, .slice B r.length cb] w fun e w' => e = .returned (.bool (decide (l = r))) ∧ Below w.heap.size w w' := by
  have HA := Lib.hid hA
  have HB := Lib.hid hB
  clear hA hB
  by_cases hlen : l.length = r.length
  · have hs := same_iffE l r hlen
    have HS := Lib.hid hs
    have HL := Lib.hid hlen
    rw [hlen]
    clear hs hlen
    go_enter Tryd.func20, Tryd.ntmps20
    go_wp2_with fail
    go_loopw [5] (fun i wr => ∃ k : Nat, k ≤ r.length ∧ i = .int .i64 k ∧ Hid (∀ j (hl : j < l.length) (hr : j < r.length), j < k → l[j]'hl = r[j]'hr) ∧ Hid (Below w.heap.size w wr)) (fun i _ => r.length - (intOf i).toNat)
    case atStart => exact ⟨0, by omega, rfl, Lib.hid (fun j _ _ h => by omega), Lib.hid (Below.refl _ _)⟩
    case round =>
      obtain ⟨k, hk, rfl, HZ, HW⟩ := hrel
      by_cases hlt : k < r.length
      · have hlk : k < l.length := by have := HL.out; omega
        obtain ⟨b, o, rfl, hbl, d0, d1, d2, d3, d4, d5⟩ := (HA.out.below HW.out).at hlk
        obtain ⟨b2, o2, rfl, hbl2, g0, g1, g2, g3, g4, g5⟩ := (HB.out.below HW.out).at hlt
        have hlt2 : (k : Int) < (r.length : Int) := by omega
        have HZ2 : Hid (l[k]'hlk = r[k]'hlt → ∀ j (hl : j < l.length) (hr : j < r.length), j < k + 1 → l[j]'hl = r[j]'hr) := Lib.hid (fun e j hl hr hj => by
          rcases Nat.lt_or_ge j k with h | h
          · exact HZ.out j hl hr h
          · obtain rfl : j = k := by omega
            exact e)
        have HD : Hid (¬ l[k]'hlk = r[k]'hlt → decide (l = r) = false) := Lib.hid (fun hne => decide_eq_false (fun e => hne (HS.out.1 e k hlk hlt)))
        generalize (l[k]'hlk) = x at *
        generalize (r[k]'hlt) = y at *
        obtain ⟨f, t, a, m, n, z⟩ := x
        obtain ⟨f', t', a', m', n', z'⟩ := y
        obtain ⟨q, hq⟩ : ∃ q, (!decide ((⟨f, t, a, m, n, z⟩ : Ent) = ⟨f', t', a', m', n', z'⟩)) = q := ⟨_, rfl⟩
        have hNE : ∀ W, (binOp .neq 55 (.agg #[.int .i64 f, .int .i64 t, .int .u32 a, .int .u32 m, .int .u32 n, .int .u32 z]) (.agg #[.int .i64 f', .int .i64 t', .int .u32 a', .int .u32 m', .int .u32 n', .int .u32 z'])).run Tryd.prog W = .ok (.bool q) W := fun W => by rw [← hq]; exact neEnt5_run ⟨f, t, a, m, n, z⟩ ⟨f', t', a', m', n', z'⟩ W
        have HQ := Lib.hid hq
        clear hq
        have HW2 : Hid (Below w.heap.size w wr.drew) := Lib.hid (HW.out.trans ((below_drew wr).mono HW.out.size))
        go_wp2_with fail
        refine region_plain (by kernel_rfl) ?_
        refine AllY.take (i := 0) (v := ?v1x0) (by rw [List.getElem?_toArray]; exact rfl) (by kernel_rfl) (by kernel_rfl) (by kernel_rfl) (Or.inl ⟨by rfl, ?hy1x0⟩) ?_
        case hy1x0 => intro w hSw; subst hSw; go_simp; (try with_reducible rfl)
        try simp only [Act.put, List.setIfInBounds_toArray, List.set_cons_zero, List.set_cons_succ]
        refine AllY.take (i := 1) (v := ?v1x1) (by rw [List.getElem?_toArray]; exact rfl) (by kernel_rfl) (by kernel_rfl) (by kernel_rfl) (Or.inl ⟨by rfl, ?hy1x1⟩) ?_
        case hy1x1 => intro w hSw; subst hSw; go_simp; (try with_reducible rfl)
        try simp only [Act.put, List.setIfInBounds_toArray, List.set_cons_zero, List.set_cons_succ]
        refine AllY.take (i := 2) (v := ?v1x2) (by rw [List.getElem?_toArray]; exact rfl) (by kernel_rfl) (by kernel_rfl) (by kernel_rfl) (Or.inl ⟨by rfl, ?hy1x2⟩) ?_
        case hy1x2 => intro w hSw; subst hSw; go_simp; (try with_reducible rfl)
        try simp only [Act.put, List.setIfInBounds_toArray, List.set_cons_zero, List.set_cons_succ]
        refine AllY.take (i := 3) (v := ?v1x3) (by rw [List.getElem?_toArray]; exact rfl) (by kernel_rfl) (by kernel_rfl) (by kernel_rfl) (Or.inl ⟨by rfl, ?hy1x3⟩) ?_
        case hy1x3 => intro w hSw; subst hSw; go_simp; (try with_reducible rfl)
        try simp only [Act.put, List.setIfInBounds_toArray, List.set_cons_zero, List.set_cons_succ]
        refine AllY.take (i := 4) (v := ?v1x4) (by rw [List.getElem?_toArray]; exact rfl) (by kernel_rfl) (by kernel_rfl) (by kernel_rfl) (Or.inl ⟨by rfl, ?hy1x4⟩) ?_
        case hy1x4 => intro w hSw; subst hSw; go_simp; (try with_reducible rfl)
        try simp only [Act.put, List.setIfInBounds_toArray, List.set_cons_zero, List.set_cons_succ]
        refine AllY.take (i := 5) (v := ?v1x5) (by rw [List.getElem?_toArray]; exact rfl) (by kernel_rfl) (by kernel_rfl) (by kernel_rfl) (Or.inl ⟨by rfl, ?hy1x5⟩) ?_
        case hy1x5 => intro w hSw; subst hSw; go_simp; (try with_reducible rfl)
        try simp only [Act.put, List.setIfInBounds_toArray, List.set_cons_zero, List.set_cons_succ]
        refine AllY.take (i := 6) (v := ?v1x6) (by rw [List.getElem?_toArray]; exact rfl) (by kernel_rfl) (by kernel_rfl) (by kernel_rfl) (Or.inl ⟨by rfl, ?hy1x6⟩) ?_
        case hy1x6 => intro w hSw; subst hSw; go_simp; (try with_reducible rfl)
        try simp only [Act.put, List.setIfInBounds_toArray, List.set_cons_zero, List.set_cons_succ]
        refine AllY.take (i := 7) (v := ?v1x7) (by rw [List.getElem?_toArray]; exact rfl) (by kernel_rfl) (by kernel_rfl) (by kernel_rfl) (Or.inl ⟨by rfl, ?hy1x7⟩) ?_
        case hy1x7 => intro w hSw; subst hSw; go_simp; (try with_reducible rfl)
        try simp only [Act.put, List.setIfInBounds_toArray, List.set_cons_zero, List.set_cons_succ]
        refine AllY.take (i := 8) (v := ?v1x8) (by rw [List.getElem?_toArray]; exact rfl) (by kernel_rfl) (by kernel_rfl) (by kernel_rfl) (Or.inl ⟨by rfl, ?hy1x8⟩) ?_
        case hy1x8 => intro w hSw; subst hSw; go_simp; (try with_reducible rfl)
        try simp only [Act.put, List.setIfInBounds_toArray, List.set_cons_zero, List.set_cons_succ]
        refine AllY.done (by kernel_rfl) ?_
        clear hNE d0 d1 d2 d3 d4 d5 g0 g1 g2 g3 g4 g5
        generalize wr.drew = w2 at *
        cases q
        · have he : (⟨f, t, a, m, n, z⟩ : Ent) = ⟨f', t', a', m', n', z'⟩ := by have := HQ.out; simpa using this
          have HZ3 := Lib.hid (HZ2.out he)
          clear he
          go_wp2_with fail
          go_roundw
          case rel => exact ⟨k + 1, by omega, by go_num, HZ3, HW2⟩
          case measure => simp [intOf]; omega
        · have hd := HD.out (fun e => by have := HQ.out; rw [e] at this; simp at this)
          have HD2 := Lib.hid hd
          clear hd
          go_wp2_with fail
          go_ret
          exact ⟨by rw [HD2.out]; rfl, HW2.out⟩
      · have hd : decide (l = r) = true := decide_eq_true (HS.out.2 fun j hl hr => HZ.out j hl hr (by omega))
        have HD := Lib.hid hd
        have hlt2 : ¬ (k : Int) < (r.length : Int) := by omega
        clear hd
        go_wp2_with fail
        go_ret
        exact ⟨by rw [HD.out]; rfl, HW.out⟩
  · have hd : decide (l = r) = false := decide_eq_false (fun e => hlen (by rw [e]))
    rw [hd]
    have hne : ((l.length : Int) != (r.length : Int)) = true := by simpa using fun e : (l.length : Int) = r.length => hlen (by omega)
    clear hd
    go_enter Tryd.func20, Tryd.ntmps20
    go_wp2_with fail
    go_ret
    exact ⟨rfl, Below.refl _ _⟩

/-- A datagram's value. -/
abbrev datV (c : Int) (A : Option Addr) (n ca : Nat) : Value := .agg #[.int .i64 c, .slice A n ca]
set_option maxRecDepth 100000 in
set_option maxHeartbeats 1600000 in
theorem refSame5_any (c d : Int) (A B : Option Addr) (ca cb : Nat) (l r : List Ent) (hl : l.length ≤ 1000000) (hr : r.length ≤ 1000000) (w : World) (hA : EntS w A l) (hB : EntS w B r) :
    Calls Tryd.prog 15 #[datV c A l.length ca, datV d B r.length cb] w fun e w' => e = .returned (.bool (decide (c = d ∧ l = r))) ∧ Below w.heap.size w w' := by
  have hba : Below w.heap.size w ((w.alloc (.cells #[.int .i64 c, .slice A l.length ca] 25)).alloc (.cells #[.int .i64 d, .slice B r.length cb] 25)) := ((Below.refl _ _).alloc (Nat.le_refl _) _).alloc (by simp) _
  have HS := Lib.hid (fun W (h : Below w.heap.size w W) => refSame4_any A B ca cb l r hl hr W (hA.below h) (hB.below h))
  have HBA := Lib.hid hba
  clear hA hB hba
  by_cases hc : c = d
  · have hd : decide (c = d ∧ l = r) = decide (l = r) := by simp [hc]
    rw [hd]
    generalize decide (l = r) = q at *
    clear hd
    go_enter Tryd.func15, Tryd.ntmps15
    go_wp2_with fail
    subst hc
    refine (HS.out _ HBA.out).mono ?_
    rintro e w1 ⟨rfl, hb⟩
    have HB1 := Lib.hid (HBA.out.trans (hb.mono HBA.out.size))
    clear hb
    go_wp2_with fail
    go_ret
    exact ⟨rfl, HB1.out⟩
  · have hd : decide (c = d ∧ l = r) = false := by simp [hc]
    rw [hd]
    clear hd
    go_enter Tryd.func15, Tryd.ntmps15
    go_wp2_with fail
    go_ret
    exact ⟨rfl, HBA.out⟩
end Go.Proofs.YtehhablobfaplaaDoor
