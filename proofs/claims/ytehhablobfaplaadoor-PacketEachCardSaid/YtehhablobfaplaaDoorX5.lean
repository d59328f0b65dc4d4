/- Layer 5's program: what gives up, what may go, Encode. -/
import Derived.Test.YtehhablobfaplaaDoorX4
import Derived.Test.YtehhablobfaplaaDoorX3
import Derived.Test.YtehhablobfaplaaDoorW15
import Derived.Test.YtehhablobfaplaaDoorW7
namespace Go.Proofs.YtehhablobfaplaaDoor
open Go Go.RowKit Go.Shelf Go.Sort
attribute [local go_sem] Oper.semAt_some

set_option maxHeartbeats 400000 in
theorem caught5_any (n : Int) (w : World) :
    Calls Tryd.prog 24 #[.iface 28 (.int .i64 n)] w fun e w' => e = .returned (.int .i64 n) ∧ w = w' := by
  have hA := asErrno n
  go_enter Tryd.func24, Tryd.ntmps24
  go_wp2
  go_ret
  exact ⟨rfl, rfl⟩
set_option maxHeartbeats 400000 in
theorem caught5_nil (w : World) :
    Calls Tryd.prog 24 #[.nilIface] w fun e w' => e = .returned (.int .i64 0) ∧ w = w' := by
  have hA := asErrnoNil
  go_enter Tryd.func24, Tryd.ntmps24
  go_wp2
  go_ret
  exact ⟨rfl, rfl⟩

/-- The program's Bytes of an entry, by cases. -/
theorem bytes4_yes (e : Ent) (ho : e.Ok) (hr : rightE e) (w : World) (hf : Fit3 w) :
    Calls Tryd.prog 26 #[entV e] w fun r w' => (∃ v, r = .returned (.tuple #[v, .int .i64 0]) ∧ OwnB w.heap.size w' v (bytesE e)) ∧ Below w.heap.size w w' :=
  (bytes4_any e ho w hf).mono fun r w' ⟨h, hb⟩ => ⟨by simpa [hr] using h, hb⟩
theorem bytes4_no (e : Ent) (ho : e.Ok) (hr : ¬ rightE e) (w : World) (hf : Fit3 w) :
    Calls Tryd.prog 26 #[entV e] w fun r w' => r = .returned (.tuple #[.slice none 0 0, .int .i64 2]) ∧ Below w.heap.size w w' :=
  (bytes4_any e ho w hf).mono fun r w' ⟨h, hb⟩ => ⟨by simpa [hr] using h, hb⟩

/-- What may not go. -/
def mayNo (c : Int) (how : Int) (l : List Ent) : Int := if ¬ comD c then 2 else if how = 0 ∧ 25 < l.length then 3 else if rightL l then 0 else 2
/-- How what may go ends. -/
def MayY (c how : Int) (l : List Ent) (e : Ending) : Prop := if mayNo c how l = 0 then e = .returned (.tuple #[]) else e = gaveE (mayNo c how l)
theorem MayY.no {c how k : Int} {l : List Ent} (h : mayNo c how l = k) (hk : ¬ k = 0) : MayY c how l (gaveE k) := by
  subst h
  unfold MayY
  rw [if_neg hk]
theorem MayY.yes {c how : Int} {l : List Ent} (h : mayNo c how l = 0) : MayY c how l (.returned (.tuple #[])) := by
  unfold MayY
  rw [if_pos h]
theorem MayY.isNo {c how : Int} {l : List Ent} {e : Ending} (h : MayY c how l e) (hk : ¬ mayNo c how l = 0) : e = gaveE (mayNo c how l) := by
  unfold MayY at h
  rwa [if_neg hk] at h
theorem MayY.isYes {c how : Int} {l : List Ent} {e : Ending} (h : MayY c how l e) (hk : mayNo c how l = 0) : e = .returned (.tuple #[]) := by
  unfold MayY at h
  rwa [if_pos hk] at h

set_option maxRecDepth 100000 in
set_option maxHeartbeats 1600000 in
theorem mayGo_loop (c how : Int) (hw : how = 0 ∨ how = 1) (A : Option Addr) (ca : Nat) (l : List Ent) (hn : l.length ≤ 1000000) (ho : OkL l) (w : World) (hA : EntS w A l) (hf : Fit3 w) (hc : comD c) (hs : ¬ (how = 0 ∧ 25 < l.length)) :
    Calls Tryd.prog 25 #[.int .i64 c, .int .i64 how, .slice A l.length ca] w fun e w' => MayY c how l e ∧ Below w.heap.size w w' := by
  have HE := Lib.hid (show mayNo c how l = if rightL l then 0 else 2 by unfold mayNo; rw [if_neg (not_not_intro hc), if_neg hs])
  have HHA := Lib.hid hA
  have HF := Lib.hid hf
  have HOO := Lib.hid ho
  have HCM : Hid (∀ W, Calls Tryd.prog 45 #[.int .i64 c] W fun e w' => e = .returned (.bool true) ∧ W = w') := Lib.hid (fun W => by
    have := isCom5_any c W
    rwa [decide_eq_true hc] at this)
  clear hA hf ho hc
  rcases hw with rfl | rfl
  · have hz : ¬ 25 < (l.length : Int) := by omega
    clear hs
    go_enter Tryd.func25, Tryd.ntmps25
    go_wp2_with fail
    refine (HCM.out _).mono ?_
    rintro e w1 ⟨rfl, rfl⟩
    go_wp2_with fail
    go_loopw [25] (fun a wr => ∃ j : Nat, j ≤ l.length ∧ a = .int .i64 j ∧ Hid (∀ i (hi : i < l.length), i < j → rightE (l[i]'hi)) ∧ Hid (Below w.heap.size w wr)) (fun a _ => l.length - (intOf a).toNat)
    case atStart => exact ⟨0, by omega, rfl, Lib.hid (fun i _ h => by omega), Lib.hid (Below.refl _ _)⟩
    case round =>
      obtain ⟨j, hj, rfl, HZ, HB⟩ := hrel
      by_cases hlt : j < l.length
      · have jz : (j : Int) < (l.length : Int) := by omega
        obtain ⟨b, o, rfl, hbl, d0, d1, d2, d3, d4, d5⟩ := (HHA.out.below HB.out).at hlt
        have HB1 := Lib.hid (HB.out.alloc HB.out.size (.cells (sixA (l[j]'hlt)) 55))
        by_cases hre : rightE (l[j]'hlt)
        · have hcall := bytes4_yes (l[j]'hlt) (HOO.out _ (List.getElem_mem hlt)) hre _ (HF.out.below HB1.out)
          have HZ2 : Hid (∀ i (hi : i < l.length), i < j + 1 → rightE (l[i]'hi)) := Lib.hid (fun i hi hij => by
            rcases Nat.lt_or_ge i j with h | h
            · exact HZ.out i hi h
            · obtain rfl : i = j := by omega
              exact hre)
          clear hre HZ
          generalize (l[j]'hlt) = x at *
          obtain ⟨f, t, a, m, n, z⟩ := x
          have HC := Lib.hid hcall
          clear hcall
          go_wp2_with fail
          refine HC.out.mono ?_
          rintro e w2 ⟨⟨v, rfl, -⟩, hb⟩
          have HB2 := Lib.hid (HB1.out.trans (hb.mono HB1.out.size))
          clear hb HB HB1 HC d0 d1 d2 d3 d4 d5 hbl
          go_wp2_with fail
          go_roundw
          case rel => exact ⟨j + 1, by omega, by go_num, HZ2, HB2⟩
          case measure => simp [intOf]; omega
        · have hcall := bytes4_no (l[j]'hlt) (HOO.out _ (List.getElem_mem hlt)) hre _ (HF.out.below HB1.out)
          have hno : ¬ rightL l := fun h => hre (h _ (List.getElem_mem hlt))
          have HNO := Lib.hid hno
          clear hre hno
          generalize (l[j]'hlt) = x at *
          obtain ⟨f, t, a, m, n, z⟩ := x
          have HC := Lib.hid hcall
          clear hcall
          go_wp2_with fail
          refine HC.out.mono ?_
          rintro e w2 ⟨rfl, hb⟩
          have HB2 := Lib.hid (HB1.out.trans (hb.mono HB1.out.size))
          clear hb HB HB1 HC d0 d1 d2 d3 d4 d5 hbl
          go_wp2_with fail
          exact ⟨rfl, MayY.no (HE.out.trans (if_neg HNO.out)) (by decide), HB2.out⟩
      · have jz : ¬ (j : Int) < (l.length : Int) := by omega
        have hrr : rightL l := fun x hx => by
          obtain ⟨i, hi, rfl⟩ := List.getElem_of_mem hx
          exact HZ.out i hi (by omega)
        have HRL := Lib.hid hrr
        clear hrr
        go_wp2_with fail
        go_end0
        exact ⟨MayY.yes (HE.out.trans (if_pos HRL.out)), HB.out⟩
  · clear hs
    go_enter Tryd.func25, Tryd.ntmps25
    go_wp2_with fail
    refine (HCM.out _).mono ?_
    rintro e w1 ⟨rfl, rfl⟩
    go_wp2_with fail
    go_loopw [25] (fun a wr => ∃ j : Nat, j ≤ l.length ∧ a = .int .i64 j ∧ Hid (∀ i (hi : i < l.length), i < j → rightE (l[i]'hi)) ∧ Hid (Below w.heap.size w wr)) (fun a _ => l.length - (intOf a).toNat)
    case atStart => exact ⟨0, by omega, rfl, Lib.hid (fun i _ h => by omega), Lib.hid (Below.refl _ _)⟩
    case round =>
      obtain ⟨j, hj, rfl, HZ, HB⟩ := hrel
      by_cases hlt : j < l.length
      · have jz : (j : Int) < (l.length : Int) := by omega
        obtain ⟨b, o, rfl, hbl, d0, d1, d2, d3, d4, d5⟩ := (HHA.out.below HB.out).at hlt
        have HB1 := Lib.hid (HB.out.alloc HB.out.size (.cells (sixA (l[j]'hlt)) 55))
        by_cases hre : rightE (l[j]'hlt)
        · have hcall := bytes4_yes (l[j]'hlt) (HOO.out _ (List.getElem_mem hlt)) hre _ (HF.out.below HB1.out)
          have HZ2 : Hid (∀ i (hi : i < l.length), i < j + 1 → rightE (l[i]'hi)) := Lib.hid (fun i hi hij => by
            rcases Nat.lt_or_ge i j with h | h
            · exact HZ.out i hi h
            · obtain rfl : i = j := by omega
              exact hre)
          clear hre HZ
          generalize (l[j]'hlt) = x at *
          obtain ⟨f, t, a, m, n, z⟩ := x
          have HC := Lib.hid hcall
          clear hcall
          go_wp2_with fail
          refine HC.out.mono ?_
          rintro e w2 ⟨⟨v, rfl, -⟩, hb⟩
          have HB2 := Lib.hid (HB1.out.trans (hb.mono HB1.out.size))
          clear hb HB HB1 HC d0 d1 d2 d3 d4 d5 hbl
          go_wp2_with fail
          go_roundw
          case rel => exact ⟨j + 1, by omega, by go_num, HZ2, HB2⟩
          case measure => simp [intOf]; omega
        · have hcall := bytes4_no (l[j]'hlt) (HOO.out _ (List.getElem_mem hlt)) hre _ (HF.out.below HB1.out)
          have hno : ¬ rightL l := fun h => hre (h _ (List.getElem_mem hlt))
          have HNO := Lib.hid hno
          clear hre hno
          generalize (l[j]'hlt) = x at *
          obtain ⟨f, t, a, m, n, z⟩ := x
          have HC := Lib.hid hcall
          clear hcall
          go_wp2_with fail
          refine HC.out.mono ?_
          rintro e w2 ⟨rfl, hb⟩
          have HB2 := Lib.hid (HB1.out.trans (hb.mono HB1.out.size))
          clear hb HB HB1 HC d0 d1 d2 d3 d4 d5 hbl
          go_wp2_with fail
          exact ⟨rfl, MayY.no (HE.out.trans (if_neg HNO.out)) (by decide), HB2.out⟩
      · have jz : ¬ (j : Int) < (l.length : Int) := by omega
        have hrr : rightL l := fun x hx => by
          obtain ⟨i, hi, rfl⟩ := List.getElem_of_mem hx
          exact HZ.out i hi (by omega)
        have HRL := Lib.hid hrr
        clear hrr
        go_wp2_with fail
        go_end0
        exact ⟨MayY.yes (HE.out.trans (if_pos HRL.out)), HB.out⟩

set_option maxRecDepth 100000 in
set_option maxHeartbeats 1600000 in
theorem mayGo_any (c how : Int) (hw : how = 0 ∨ how = 1) (A : Option Addr) (ca : Nat) (l : List Ent) (hn : l.length ≤ 1000000) (ho : OkL l) (w : World) (hA : EntS w A l) (hf : Fit3 w) :
    Calls Tryd.prog 25 #[.int .i64 c, .int .i64 how, .slice A l.length ca] w fun e w' => MayY c how l e ∧ Below w.heap.size w w' := by
  by_cases hc : comD c
  · by_cases hs : how = 0 ∧ 25 < l.length
    · obtain ⟨rfl, h25⟩ := hs
      have HE := Lib.hid (show mayNo c 0 l = 3 by unfold mayNo; rw [if_neg (not_not_intro hc), if_pos ⟨rfl, h25⟩])
      have HCM : Hid (∀ W, Calls Tryd.prog 45 #[.int .i64 c] W fun e w' => e = .returned (.bool true) ∧ W = w') := Lib.hid (fun W => by
        have := isCom5_any c W
        rwa [decide_eq_true hc] at this)
      have hz : 25 < (l.length : Int) := by omega
      clear hA hf ho hc hw
      go_enter Tryd.func25, Tryd.ntmps25
      go_wp2_with fail
      refine (HCM.out _).mono ?_
      rintro e w1 ⟨rfl, rfl⟩
      go_wp2_with fail
      exact ⟨rfl, MayY.no HE.out (by decide), Below.refl _ _⟩
    · exact mayGo_loop c how hw A ca l hn ho w hA hf hc hs
  · have HE := Lib.hid (show mayNo c how l = 2 by unfold mayNo; rw [if_pos hc])
    have HCM : Hid (∀ W, Calls Tryd.prog 45 #[.int .i64 c] W fun e w' => e = .returned (.bool false) ∧ W = w') := Lib.hid (fun W => by
      have := isCom5_any c W
      rwa [decide_eq_false hc] at this)
    clear hA hf ho hc hw
    go_enter Tryd.func25, Tryd.ntmps25
    go_wp2_with fail
    refine (HCM.out _).mono ?_
    rintro e w1 ⟨rfl, rfl⟩
    go_wp2_with fail
    exact ⟨rfl, MayY.no HE.out (by decide), Below.refl _ _⟩

theorem may_enc (d : Dat) : mayNo d.c 0 d.l = encNo d := by
  unfold mayNo encNo
  simp

set_option maxRecDepth 100000 in
set_option maxHeartbeats 400000 in
theorem encIdle (B : Nat) (y : Int) (w : World) (hc : w.cell? ⟨B, 0, none⟩ = some (.int .i64 y)) (hz : w.frozen? ⟨B, 0, none⟩ = false) :
    CallsD Tryd.prog 23 #[.pointer (some ⟨B, 0, none⟩)] .returning w fun e u' w' => e = .returned (.tuple #[]) ∧ u' = .returning ∧ w' = w.setCell ⟨B, 0, none⟩ (.int .i64 0) := by
  refine callsD_of_wpS Tryd.func23 rfl fun c₀ cs hu => ?_
  apply wpS_region
  simp [wpOpsS, go_sem, recoverD, hu, Tryd.ntmps23]
  refine (caught5_nil _).mono ?_
  rintro e w1 ⟨rfl, rfl⟩
  cases c₀
  simp_all [bodyPostS, results, Tryd.results23, go_sem]
set_option maxRecDepth 100000 in
set_option maxHeartbeats 400000 in
theorem encPanics (B : Nat) (y n : Int) (w : World) (hc : w.cell? ⟨B, 0, none⟩ = some (.int .i64 y)) (hz : w.frozen? ⟨B, 0, none⟩ = false) :
    CallsD Tryd.prog 23 #[.pointer (some ⟨B, 0, none⟩)] (.panicking [{ v := .iface 28 (.int .i64 n), recovered := false }]) w fun e u' w' => e = .returned (.tuple #[]) ∧ u' = .panicking [{ v := .iface 28 (.int .i64 n), recovered := true }] ∧ w' = w.setCell ⟨B, 0, none⟩ (.int .i64 n) := by
  refine callsD_of_wpS Tryd.func23 rfl fun c₀ cs hu => ?_
  apply wpS_region
  simp [wpOpsS, go_sem, recoverD, hu, Tryd.ntmps23]
  refine (caught5_any n _).mono ?_
  rintro e w1 ⟨rfl, rfl⟩
  cases c₀
  simp_all [bodyPostS, results, Tryd.results23, go_sem]
set_option maxRecDepth 100000 in
set_option maxHeartbeats 400000 in
theorem decIdle (B : Nat) (y : Int) (w : World) (hc : w.cell? ⟨B, 0, none⟩ = some (.int .i64 y)) (hz : w.frozen? ⟨B, 0, none⟩ = false) :
    CallsD Tryd.prog 32 #[.pointer (some ⟨B, 0, none⟩)] .returning w fun e u' w' => e = .returned (.tuple #[]) ∧ u' = .returning ∧ w' = w.setCell ⟨B, 0, none⟩ (.int .i64 0) := by
  refine callsD_of_wpS Tryd.func32 rfl fun c₀ cs hu => ?_
  apply wpS_region
  simp [wpOpsS, go_sem, recoverD, hu, Tryd.ntmps32]
  refine (caught5_nil _).mono ?_
  rintro e w1 ⟨rfl, rfl⟩
  cases c₀
  simp_all [bodyPostS, results, Tryd.results32, go_sem]
set_option maxRecDepth 100000 in
set_option maxHeartbeats 400000 in
theorem decPanics (B : Nat) (y n : Int) (w : World) (hc : w.cell? ⟨B, 0, none⟩ = some (.int .i64 y)) (hz : w.frozen? ⟨B, 0, none⟩ = false) :
    CallsD Tryd.prog 32 #[.pointer (some ⟨B, 0, none⟩)] (.panicking [{ v := .iface 28 (.int .i64 n), recovered := false }]) w fun e u' w' => e = .returned (.tuple #[]) ∧ u' = .panicking [{ v := .iface 28 (.int .i64 n), recovered := true }] ∧ w' = w.setCell ⟨B, 0, none⟩ (.int .i64 n) := by
  refine callsD_of_wpS Tryd.func32 rfl fun c₀ cs hu => ?_
  apply wpS_region
  simp [wpOpsS, go_sem, recoverD, hu, Tryd.ntmps32]
  refine (caught5_any n _).mono ?_
  rintro e w1 ⟨rfl, rfl⟩
  cases c₀
  simp_all [bodyPostS, results, Tryd.results32, go_sem]
set_option maxRecDepth 100000 in
set_option maxHeartbeats 400000 in
theorem cutIdle (B : Nat) (y : Int) (w : World) (hc : w.cell? ⟨B, 0, none⟩ = some (.int .i64 y)) (hz : w.frozen? ⟨B, 0, none⟩ = false) :
    CallsD Tryd.prog 36 #[.pointer (some ⟨B, 0, none⟩)] .returning w fun e u' w' => e = .returned (.tuple #[]) ∧ u' = .returning ∧ w' = w.setCell ⟨B, 0, none⟩ (.int .i64 0) := by
  refine callsD_of_wpS Tryd.func36 rfl fun c₀ cs hu => ?_
  apply wpS_region
  simp [wpOpsS, go_sem, recoverD, hu, Tryd.ntmps36]
  refine (caught5_nil _).mono ?_
  rintro e w1 ⟨rfl, rfl⟩
  cases c₀
  simp_all [bodyPostS, results, Tryd.results36, go_sem]
set_option maxRecDepth 100000 in
set_option maxHeartbeats 400000 in
theorem cutPanics (B : Nat) (y n : Int) (w : World) (hc : w.cell? ⟨B, 0, none⟩ = some (.int .i64 y)) (hz : w.frozen? ⟨B, 0, none⟩ = false) :
    CallsD Tryd.prog 36 #[.pointer (some ⟨B, 0, none⟩)] (.panicking [{ v := .iface 28 (.int .i64 n), recovered := false }]) w fun e u' w' => e = .returned (.tuple #[]) ∧ u' = .panicking [{ v := .iface 28 (.int .i64 n), recovered := true }] ∧ w' = w.setCell ⟨B, 0, none⟩ (.int .i64 n) := by
  refine callsD_of_wpS Tryd.func36 rfl fun c₀ cs hu => ?_
  apply wpS_region
  simp [wpOpsS, go_sem, recoverD, hu, Tryd.ntmps36]
  refine (caught5_any n _).mono ?_
  rintro e w1 ⟨rfl, rfl⟩
  cases c₀
  simp_all [bodyPostS, results, Tryd.results36, go_sem]

set_option maxRecDepth 100000 in
set_option maxHeartbeats 3200000 in
theorem encode5_no (c : Int) (A : Option Addr) (ca : Nat) (l : List Ent) (hn : l.length ≤ 1000) (ho : OkL l) (w : World) (hA : EntS w A l) (hf : Fit3 w) (h0 : ¬ encNo ⟨c, l⟩ = 0) :
    Calls Tryd.prog 9 #[datV c A l.length ca] w fun e w' => e = .returned (.tuple #[.slice none 0 0, .int .i64 (encNo ⟨c, l⟩)]) ∧ Below w.heap.size w w' := by
  have hmf : ∀ (fn : Fn) (first cap : Array Value) (w : World), (Instr.makeFunc fn first cap).run Tryd.prog w = .ok (.func fn first cap) w := fun _ _ _ _ => rfl
  have hb0 := two_below w (.cells #[.int .i64 c, .slice A l.length ca] 25) (.cells #[.int .i64 0] 28)
  have hmn : mayNo c 0 l = encNo ⟨c, l⟩ := may_enc ⟨c, l⟩
  have hm := (mayGo_any c 0 (.inl rfl) A ca l (by omega) ho _ (hA.below hb0) (hf.below hb0)).mono (fun e w' h => (⟨h.1.isNo (by rw [hmn]; exact h0), h.2⟩ : e = gaveE (mayNo c 0 l) ∧ _))
  rw [hmn] at hm
  have HM := Lib.hid hm
  clear hm hmn hb0 hA hf ho
  generalize encNo ⟨c, l⟩ = no at *
  go_enter_defers Tryd.func9, Tryd.ntmps9
  go_wp2_with fail
  refine HM.out.mono ?_
  rintro e w3 ⟨rfl, hb3⟩
  obtain ⟨b1, b2, hbl⟩ := blks2 w _ _ _ _ hb3
  have e0 := b2.cell 0
  have y0 := b2.frozen 0
  have hbb := hbl.setCell (p := ⟨w.heap.size + 1, 0, none⟩) (by simp) (.int .i64 no)
  have HEF := b2.set_ 0 (.int .i64 no)
  have q0 := HEF.cell 0
  simp at e0 q0
  clear b1 b2 hbl hb3 HM
  go_wp2_with fail
  refine leaves_cons (f := 23) (args := #[.pointer (some ⟨w.heap.size + 1, 0, none⟩)]) (by simp) (by simp [go_sem]) ?_
  refine (encPanics (w.heap.size + 1) 0 no _ e0 y0).mono ?_
  rintro e u' w'' ⟨rfl, rfl, rfl⟩
  simp [Leaves, settle, results, Tryd.results9, go_sem, q0, hbb]

set_option maxRecDepth 100000 in
set_option maxHeartbeats 3200000 in
theorem encode5_yes (c : Int) (A : Option Addr) (ca : Nat) (l : List Ent) (hn : l.length ≤ 1000) (ho : OkL l) (w : World) (hA : EntS w A l) (hf : Fit3 w) (h0 : encNo ⟨c, l⟩ = 0) :
    Calls Tryd.prog 9 #[datV c A l.length ca] w fun e w' => (∃ v, e = .returned (.tuple #[v, .int .i64 0]) ∧ OwnB w.heap.size w' v (bytesD ⟨c, l⟩)) ∧ Below w.heap.size w w' := by
  have hmf : ∀ (fn : Fn) (first cap : Array Value) (w : World), (Instr.makeFunc fn first cap).run Tryd.prog w = .ok (.func fn first cap) w := fun _ _ _ _ => rfl
  have hb0 := two_below w (.cells #[.int .i64 c, .slice A l.length ca] 25) (.cells #[.int .i64 0] 28)
  have hmn : mayNo c 0 l = encNo ⟨c, l⟩ := may_enc ⟨c, l⟩
  have hm := (mayGo_any c 0 (.inl rfl) A ca l (by omega) ho _ (hA.below hb0) (hf.below hb0)).mono (fun e w' h => (⟨h.1.isYes (by rw [hmn]; exact h0), h.2⟩ : e = .returned (.tuple #[]) ∧ _))
  obtain ⟨hc, _, hr⟩ := encNo_zero.1 h0
  dsimp only at hc hr
  have hw : IntKind.u8.wrap c = c := by rcases hc with rfl | rfl <;> rfl
  have HM := Lib.hid hm
  have HHA := Lib.hid hA
  have HF := Lib.hid hf
  have HRR := Lib.hid hr
  have HOO := Lib.hid ho
  clear hm hmn hb0 hA hf ho hr hc h0
  go_enter_defers Tryd.func9, Tryd.ntmps9
  go_wp2_with fail
  refine HM.out.mono ?_
  rintro e w3 ⟨rfl, hb3⟩
  obtain ⟨b1, b2, hbl⟩ := blks2 w _ _ _ _ hb3
  have hk0 := b1.cell 0
  have hk1 := b1.cell 1
  simp only [List.getElem?_toArray, List.getElem?_cons_zero, List.getElem?_cons_succ] at hk0 hk1
  have HB1 := Lib.hid b1
  have HB2 := Lib.hid b2
  have HBL := Lib.hid hbl
  have hs3 : w.heap.size + 2 ≤ w3.heap.size := by have := hb3.size; simpa using this
  have hl0 : w.heap.size < w3.heap.size := by omega
  clear b1 b2 hbl hb3 HM
  go_wp2_with fail
  go_loopw [4, 22] (fun v a wr => ∃ j : Nat, j ≤ l.length ∧ a = .int .i64 j ∧ Hid (OwnB (w.heap.size + 2) wr v (c :: 2 :: 0 :: 0 :: flatE (l.take j))) ∧ Hid (Below (w.heap.size + 2) w3 wr)) (fun _ a _ => l.length - (intOf a).toNat)
  case atStart =>
    refine ⟨0, by omega, rfl, ?_, ?_⟩
    · exact (Blk.new w3 5 #[.int .u8 c, .int .u8 2, .int .u8 0, .int .u8 0]).ownRow4 (base := w.heap.size + 2) (by omega)
    · exact (Below.refl _ _).alloc hs3 _
  case round =>
    obtain ⟨j, hj, rfl, HO, HB⟩ := hrel
    by_cases hlt : j < l.length
    · have jz : (j : Int) < (l.length : Int) := by omega
      have HBW := Lib.hid (HBL.out.trans (HB.out.mono (Nat.le_add_right _ 2)))
      obtain ⟨b, o, rfl, hbl, d0, d1, d2, d3, d4, d5⟩ := (HHA.out.below HBW.out).at hlt
      have hs4 : w.heap.size + 2 ≤ wr.heap.size := by have := HB.out.size; omega
      have HB1 := Lib.hid (HB.out.alloc hs4 (.cells (sixA (l[j]'hlt)) 55))
      have HO1 := Lib.hid (World.ownsRow.alloc HO.out (.cells (sixA (l[j]'hlt)) 55))
      have hcall := bytes4_yes (l[j]'hlt) (HOO.out _ (List.getElem_mem hlt)) (HRR.out _ (List.getElem_mem hlt)) _ (HF.out.below (HBL.out.trans (HB1.out.mono (Nat.le_add_right _ 2))))
      have htk : l.take (j + 1) = l.take j ++ [l[j]'hlt] := by rw [List.take_add_one, List.getElem?_eq_getElem hlt]; rfl
      generalize (l[j]'hlt) = x at *
      obtain ⟨f, t, a, m, n, z⟩ := x
      have HC := Lib.hid hcall
      have HTK := Lib.hid htk
      clear hcall htk
      go_wp2_with fail
      refine HC.out.mono ?_
      rintro e w1 ⟨⟨v1, rfl, ho1⟩, hb1⟩
      obtain ⟨q, cap, rfl, hcap, hy, hbase⟩ := OwnB.byS ho1
      have HO2 := Lib.hid (row_past5 HO1.out hb1)
      have hB1 := Lib.hid (HB1.out.trans (hb1.mono (by simp; omega)))
      have HY := Lib.hid hy
      have K1 : (c :: 2 :: 0 :: 0 :: flatE (l.take j)).length + (bytesE ⟨f, t, a, m, n, z⟩).length ≤ 1000000 := by
        simp only [List.length_cons, flatE_len, bytesE_len, List.length_take]
        omega
      have K2 : w.heap.size + 2 ≤ w1.heap.size := by have := hB1.out.size; omega
      have HEQ := Lib.hid (show (c :: 2 :: 0 :: 0 :: flatE (l.take j)) ++ bytesE ⟨f, t, a, m, n, z⟩ = c :: 2 :: 0 :: 0 :: flatE (l.take (j + 1)) by rw [HTK.out, flatE_snoc]; rfl)
      generalize (c :: 2 :: 0 :: 0 :: flatE (l.take j)) = zs at *
      generalize bytesE ⟨f, t, a, m, n, z⟩ = ys at *
      clear ho1 hb1 hy HO HB HB1 HO1 HC HBW d0 d1 d2 d3 d4 d5 hbl
      go_wp2_with (first | (at_builtin; refine wpList_app_bytes (v := u4) (xs := zs) (p := q) (ys := ys) (c := cap) rfl _ _ rfl (w.heap.size + 2) rfl HO2.out rfl HY.out K1 K2 ?_))
      intro v2 w2 o2 g2 _
      have HB3 := Lib.hid (own_below K2 hB1.out HO2.out g2)
      have HO3 : Hid (OwnB (w.heap.size + 2) w2 v2 (c :: 2 :: 0 :: 0 :: flatE (l.take (j + 1)))) := by
        have h := o2
        rw [HEQ.out] at h
        exact h
      clear o2 g2 HO2 hB1 HY HEQ
      go_wp2_with fail
      go_roundw
      case rel => exact ⟨j + 1, by omega, by go_num, HO3, HB3⟩
      case measure => simp [intOf]; omega
    · have jz : ¬ (j : Int) < (l.length : Int) := by omega
      have hj2 : j = l.length := by omega
      have ho := HO.out
      rw [hj2, List.take_length] at ho
      have HO2 := Lib.hid ho
      have hb2 := HB2.out.below HB.out (by omega)
      have e0 := hb2.cell 0
      have y0 := hb2.frozen 0
      have HW5 := hb2.set_ 0 (.int .i64 0)
      have c5 := HW5.cell 0
      have z5 := HW5.frozen 0
      have q0 := (HW5.set_ 0 (.int .i64 0)).cell 0
      have hbb := ((HBL.out.trans (HB.out.mono (Nat.le_add_right _ 2))).setCell (p := ⟨w.heap.size + 1, 0, none⟩) (by simp) (.int .i64 0)).setCell (p := ⟨w.heap.size + 1, 0, none⟩) (by simp) (.int .i64 0)
      have hown := Joins.ownsRow_le (ownsRow_setCell_below (ownsRow_setCell_below ho (a := ⟨w.heap.size + 1, 0, none⟩) (by simp) (.int .i64 0)) (a := ⟨w.heap.size + 1, 0, none⟩) (by simp) (.int .i64 0)) (show w.heap.size ≤ w.heap.size + 2 by omega)
      simp at e0 c5 q0
      have HBB := Lib.hid hbb
      have HOW := Lib.hid hown
      clear ho HO HB hb2 HW5 hbb hown
      go_wp2_with fail
      refine leaves_cons (f := 23) (args := #[.pointer (some ⟨w.heap.size + 1, 0, none⟩)]) (by simp) (by simp [go_sem]) ?_
      refine (encIdle (w.heap.size + 1) 0 _ c5 z5).mono ?_
      rintro e u' w'' ⟨rfl, rfl, rfl⟩
      simp [Leaves, settle, results, Tryd.results9, go_sem, q0]
      exact ⟨HOW.out, HBB.out⟩
end Go.Proofs.YtehhablobfaplaaDoor
