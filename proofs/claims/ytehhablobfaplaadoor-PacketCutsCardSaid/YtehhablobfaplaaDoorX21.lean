/- The walk of PacketCuts (laid by tools/gen/x21.py). -/
import Derived.Test.YtehhablobfaplaaDoorX16
namespace Go.Proofs.YtehhablobfaplaaDoor
open Go Go.RowKit Go.Shelf Go.Sort
attribute [local go_sem] Oper.semAt_some
attribute [local irreducible] wpQuiet

/-- Datagrams that lie somewhere. -/
def DatS (W : World) (P : Option Addr) (c : Int) (L : List (List Ent)) : Prop := ∀ i (h : i < L.length), ∃ g Ai ki, P = some ⟨g, 0, none⟩ ∧ g < W.heap.size ∧ W.cell? ⟨g, i * 2, none⟩ = some (.int .i64 c) ∧ W.cell? ⟨g, i * 2 + 1, none⟩ = some (.slice Ai (L[i]'h).length ki) ∧ EntS W Ai (L[i]'h)
theorem DatS.below {W W' : World} {P : Option Addr} {c : Int} {L : List (List Ent)} (h : DatS W P c L) (hb : Below W.heap.size W W') : DatS W' P c L := fun i hi => by
  obtain ⟨g, Ai, ki, e, hl, h1, h2, h3⟩ := h i hi
  exact ⟨g, Ai, ki, e, Nat.lt_of_lt_of_le hl hb.size, (hb.cell (p := ⟨g, i * 2, none⟩) hl).trans h1, (hb.cell (p := ⟨g, i * 2 + 1, none⟩) hl).trans h2, h3.below hb⟩
theorem DatV.lies {W : World} {base : Nat} {v : Value} {c : Int} {L : List (List Ent)} {vs : List Value} (h : DatV W base v c L vs) : ∃ P k, v = .slice P L.length k ∧ L.length ≤ k ∧ DatS W P c L := by
  have hrow := h.row
  rcases hrow.2 with ⟨rfl, h0⟩ | ⟨g, cap, cur, rfl, _, _, hcap, _⟩
  · exact ⟨none, 0, by rw [h0], by omega, fun i hi => absurd hi (by omega)⟩
  · refine ⟨some ⟨g, 0, none⟩, cap, rfl, hcap, fun i hi => ?_⟩
    have hv : i < vs.length := by have := h.len; omega
    obtain ⟨Ai, ki, e, _, hE⟩ := ownE_ents (h.ent i hv hi)
    obtain ⟨d0, d1⟩ := datCs_at c vs i hv
    refine ⟨g, Ai, ki, rfl, (hrow.lt g rfl).2, ?_, ?_, hE⟩
    · rw [hrow.cellAt (i * 2) (by omega), Nat.mul_comm i 2]
      exact d0
    · rw [hrow.cellAt (i * 2 + 1) (by omega), Nat.mul_comm i 2, d1, e]
theorem cutL_pos (c : Int) (l : List Ent) : ∀ i (h : i < (cutL c l).length), 0 < ((cutL c l)[i]'h).length := by
  unfold cutL
  split
  · intro i h
    have e : (cutsE l)[i]'h = pieceE l i := firstsE_at l ((l.length + 24) / 25) i h
    have hl : (cutsE l).length = (l.length + 24) / 25 := firstsE_len l _
    rw [e, pieceE_len]
    omega
  · intro i h
    exact absurd h (by simp)
theorem cutL_short (c : Int) (l : List Ent) : (cutL c l).flatten.length ≤ l.length := by
  unfold cutL
  split
  · rw [cutsE_flat]
    exact Nat.le_refl _
  · simp
theorem flat_take {L : List (List Ent)} {i : Nat} (h : i < L.length) : (L.take (i + 1)).flatten = (L.take i).flatten ++ L[i]'h := by
  rw [List.take_add_one, List.getElem?_eq_getElem h, List.flatten_append]
  simp
theorem flat_le (L : List (List Ent)) (i : Nat) : (L.take i).flatten.length ≤ L.flatten.length := by
  have h : L.flatten = (L.take i).flatten ++ (L.drop i).flatten := by rw [← List.flatten_append, List.take_append_drop]
  rw [h, List.length_append]
  omega
/-- Cut of both. -/
theorem cutE (c : Int) (A : Option Addr) (ca : Nat) (l : List Ent) (hn : l.length ≤ 1000000) (hcc : l.length ≤ ca) (ho : OkL l) (w : World) (hA : EntS w A l) (hf : Fit3 w) :
    Calls Tryd.prog 18 #[.int .i64 c, .slice A l.length ca] w fun e w' => (∃ P k, e = .returned (.tuple #[.slice P (cutL c l).length k, .int .i64 (mayNo c 1 l)]) ∧ DatS w' P c (cutL c l)) ∧ Below w.heap.size w w' :=
  (cutP_any c A ca l hn hcc ho w hA hf).mono fun e w' ⟨⟨v, vs, he, hd⟩, hb⟩ => by
    obtain ⟨P, k, rfl, _, hS⟩ := hd.lies
    exact ⟨⟨P, k, he, hS⟩, hb⟩
theorem refCutE (c : Int) (A : Option Addr) (ca : Nat) (l : List Ent) (hn : l.length ≤ 1000000) (w : World) (hA : EntS w A l) :
    Calls Tryd.prog 19 #[.int .i64 c, .slice A l.length ca] w fun e w' => (∃ P k, e = .returned (.tuple #[.slice P (cutL c l).length k, .int .i64 (mayNo c 1 l)]) ∧ DatS w' P c (cutL c l)) ∧ Below w.heap.size w w' :=
  (refCut5_any c A ca l hn w hA).mono fun e w' ⟨⟨v, vs, he, hd⟩, hb⟩ => by
    obtain ⟨P, k, rfl, _, hS⟩ := hd.lies
    exact ⟨⟨P, k, he, hS⟩, hb⟩
theorem refSameE_self (c : Int) (A B : Option Addr) (ca cb : Nat) (l : List Ent) (hl : l.length ≤ 1000000) (w : World) (hA : EntS w A l) (hB : EntS w B l) :
    Calls Tryd.prog 15 #[.agg #[.int .i64 c, .slice A l.length ca], .agg #[.int .i64 c, .slice B l.length cb]] w fun e w' => e = .returned (.bool true) ∧ Below w.heap.size w w' :=
  (refSame5_any c c A B ca cb l l hl hl w hA hB).mono fun e w' ⟨h, hb⟩ => ⟨by simpa using h, hb⟩


set_option maxRecDepth 1000000 in
set_option maxHeartbeats 6400000 in
theorem law05_cuts_big (c : Int) (A : Option Addr) (ca : Nat) (l : List Ent) (ho : OkL l) (hcc : l.length ≤ ca) (hl : 120 < l.length) (w : World) (hA : EntS w A l) (hf : Fit3 w) :
    Calls Tryd.prog 5 #[.int .i64 c, .slice A l.length ca] w fun e w' => e = .returned (.bool true) ∧ Below w.heap.size w w' := by
  have HF := Lib.hid hf
  have HA := Lib.hid hA
  have HO := Lib.hid ho
  have HCC := Lib.hid hcc
  have HY0 : Hid (∀ W, Fit3 W → Calls Tryd.prog 8 #[] W fun e w' => e = .returned (.bool true) ∧ Below W.heap.size W w') := yes5
  clear hf hA ho hcc
  have nl : 120 < (l.length : Int) := by omega
  go_enter Tryd.func5, Tryd.ntmps5
  go_wp2_with fail
  have HV := Lib.hid (Below.refl w.heap.size w)
  refine (HY0.out _ (HF.out.below HV.out)).mono ?_
  rintro e w1 ⟨rfl, hb⟩
  have hv := HV.out.trans (hb.mono HV.out.size)
  clear hb HV 
  have HV := Lib.hid hv
  clear hv 
  go_wp2_with fail
  go_ret
  exact ⟨rfl, HV.out⟩

set_option maxRecDepth 1000000 in
set_option maxHeartbeats 6400000 in
theorem law05_cuts_no (c : Int) (A : Option Addr) (ca : Nat) (l : List Ent) (ho : OkL l) (hcc : l.length ≤ ca) (hl : l.length ≤ 120) (h0 : ¬ mayNo c 1 l = 0) (w : World) (hA : EntS w A l) (hf : Fit3 w) :
    Calls Tryd.prog 5 #[.int .i64 c, .slice A l.length ca] w fun e w' => e = .returned (.bool true) ∧ Below w.heap.size w w' := by
  have HF := Lib.hid hf
  have HA := Lib.hid hA
  have HO := Lib.hid ho
  have HCC := Lib.hid hcc
  have HY0 : Hid (∀ W, Fit3 W → Calls Tryd.prog 8 #[] W fun e w' => e = .returned (.bool true) ∧ Below W.heap.size W w') := yes5
  clear hf hA ho hcc
  have nl : ¬ 120 < (l.length : Int) := by omega
  have hE := fun W (h : EntS W A l) (hF : Fit3 W) => cutE c A ca l (by omega) HCC.out HO.out W h hF
  have hR := fun W (h : EntS W A l) => refCutE c A ca l (by omega) W h
  have hpos := cutL_pos c l
  have hsh := cutL_short c l
  generalize cutL c l = L at *
  generalize mayNo c 1 l = no at *
  have hls : L.length ≤ 1000000 := by
    have := hsh
    have h2 : ∀ M : List (List Ent), (∀ i (h : i < M.length), 0 < (M[i]'h).length) → M.length ≤ M.flatten.length := by
      intro M
      induction M with
      | nil => intro _; simp
      | cons x M ih =>
        intro hp
        have h3 := hp 0 (by simp)
        have h4 := ih (fun i h => by have := hp (i + 1) (by simpa using h); simpa using this)
        simp only [List.getElem_cons_zero] at h3
        simp only [List.length_cons, List.flatten_cons, List.length_append]
        omega
    have := h2 L hpos
    omega
  have HE := Lib.hid hE
  have HR := Lib.hid hR
  have HPOS := Lib.hid hpos
  have HSH := Lib.hid hsh
  clear hE hR hpos hsh
  obtain ⟨i0, hi, hz0, hz1, hz2⟩ := info_parts infoEnt
  have HI := Lib.hid (And.intro hi (And.intro hz0 (And.intro hz1 hz2)))
  clear hi hz0 hz1 hz2
  go_enter Tryd.func5, Tryd.ntmps5
  go_wp2_with fail
  have HV := Lib.hid (Below.refl w.heap.size w)
  refine (HE.out _ (HA.out.below HV.out) (HF.out.below HV.out)).mono ?_
  rintro e w1 ⟨⟨P, k1, rfl, hS⟩, hb⟩
  have hv := HV.out.trans (hb.mono HV.out.size)
  clear hb HV 
  have HV := Lib.hid hv
  clear hv 
  have HS := Lib.hid hS
  clear hS
  go_wp2_with fail
  refine (HR.out _ (HA.out.below HV.out)).mono ?_
  rintro e w2 ⟨⟨Q, k2, rfl, hT⟩, hb⟩
  have hv := HV.out.trans (hb.mono HV.out.size)
  have yHS := HS.out.below hb
  clear hb HV 
  have HV := Lib.hid hv
  clear hv 
  clear HS
  have HS := Lib.hid yHS
  clear yHS
  have HT := Lib.hid hT
  clear hT
  go_wp2_with fail
  clear HE HR
  refine (num5_any _ _).mono ?_
  rintro e wn3 ⟨rfl, rfl⟩
  go_wp2_with fail
  go_loopw [9, 10] (fun v a wr => ∃ i : Nat, i ≤ L.length ∧ a = .int .i64 i ∧ Hid (wr.ownsRow w2.heap.size 55 6 v (L.take i).flatten.length (entCs (L.take i).flatten)) ∧ Hid (Below w2.heap.size w2 wr)) (fun _ a _ => L.length - (intOf a).toNat)
  case atStart => exact ⟨0, by omega, rfl, Lib.hid (World.ownsRow_nil _ _ _ _), Lib.hid (Below.refl _ _)⟩
  case round =>
    obtain ⟨i, hil, rfl, HOW, HB⟩ := hrel
    by_cases hlt : i < L.length
    · have jz : (i : Int) < (L.length : Int) := by omega
      obtain ⟨g, Ai, ki, rfl, hg, k0, k1c, hEi⟩ := (HS.out.below HB.out) i hlt
      obtain ⟨q, Bi, kb, rfl, hq, m0, m1, hFi⟩ := (HT.out.below HB.out) i hlt
      have hpi := HPOS.out i hlt
      have HFT := Lib.hid (flat_take hlt)
      have hsm : (L.take i).flatten.length + (L[i]'hlt).length ≤ 1000000 := by
        have h1 := flat_le L (i + 1)
        rw [HFT.out, List.length_append] at h1
        have := HSH.out
        omega
      have HEI := Lib.hid hEi
      have HFI := Lib.hid hFi
      clear hEi hFi
      generalize (L[i]'hlt) = x at *
      generalize (L.take i).flatten = y at *
      have r0 := cell_regrown k0
      have r1 := cell_regrown k1c
      have r2 := cell_regrown m0
      have r3 := cell_regrown m1
      have cS : ∀ d os, Calls Tryd.prog 15 #[.agg #[.int .i64 c, .slice Ai x.length ki], .agg #[.int .i64 c, .slice Bi x.length kb]] (grow (redrawn wr d) os) fun e w'' => e = .returned (.bool true) ∧ ∃ p : Regrown, w'' = grow (redrawn wr p.d) p.os := fun d os => Calls.regrown_of (refSameE_self c Ai Bi ki kb x (by omega) _ (HEI.out.below (below_regrown wr d os)) (HFI.out.below (below_regrown wr d os)))
      clear k0 k1c m0 m1
      go_wp2_with fail
      refine wp_region_quiet_below (by kernel_rfl) (by kernel_rfl) ?_
      try simp only [List.append_eq, List.cons_append, List.nil_append]
      repeat (go_big_quiet_step (first | (with_reducible exact cS _ _)))
      refine wpQuiet_nil ?_
      intro wq hwq
      obtain ⟨⟨dq, osq⟩, rfl⟩ := hwq
      have hb := below_regrown wr dq osq
      have HB2 := Lib.hid (HB.out.trans (hb.mono HB.out.size))
      have HE2 := Lib.hid (HEI.out.below hb)
      have HO2 := Lib.hid (row_past5 HOW.out hb)
      have s0 := r0 dq osq
      have s1 := r1 dq osq
      have hg2 := Nat.lt_of_lt_of_le hg hb.size
      generalize grow (redrawn wr dq) osq = w9 at *
      clear hb r0 r1 r2 r3 cS HEI HFI HB HOW
      obtain ⟨b, o, rfl, _, _⟩ := HE2.out hpi
      go_wp2_with (first | (at_builtin; refine wpList_append_own _ rfl _ _ 23 rfl w2.heap.size 55 i0 (.agg #[.int .i64 0, .int .i64 0, .int .u32 0, .int .u32 0, .int .u32 0, .int .u32 0]) 6 32 Tryd.underlying23 HI.out.1 HI.out.2.1 HI.out.2.2.1 HI.out.2.2.2 rfl (by decide) _ _ _ rfl HO2.out ⟨b, o, none⟩ x.length ki (entCs x) rfl (entCs_len x) ?a1 ?a2 ?a3 ?a4 ?a5 ?_))
      case a1 => exact HE2.out.news
      case a2 => exact entCs_one
      case a3 => unfold maxLen; omega
      case a4 => omega
      case a5 => exact HB2.out.size
      intro v2 w10 hown hgrow _
      have HO3 : Hid (w10.ownsRow w2.heap.size 55 6 v2 (L.take (i + 1)).flatten.length (entCs (L.take (i + 1)).flatten)) := Lib.hid (by
        rw [HFT.out, List.length_append, entCs_app]
        exact hown)
      have HB3 : Hid (Below w2.heap.size w2 w10) := Lib.hid (HB2.out.grown hgrow HB2.out.size (fun r e => (HO2.out.lt r e).1))
      clear hown hgrow HO2 HB2 HE2 s0 s1 hg hg2 hq
      go_wp2_with fail
      go_roundw
      case rel => exact ⟨i + 1, by omega, by go_num, HO3, HB3⟩
      case measure => simp [intOf]; omega
    · have jz : ¬ (i : Int) < (L.length : Int) := by omega
      obtain rfl : i = L.length := by omega
      have ho := HOW.out
      rw [List.take_length] at ho
      have hv := HV.out.trans (HB.out.mono HV.out.size)
      clear HV HOW
      have hform : u9 = .slice none 0 0 ∨ ∃ g cap, u9 = .slice (some ⟨g, 0, none⟩) L.flatten.length cap := (Joins.ownsRow_forms ho).imp (fun h => h.1) (fun h => h)
      clear ho hform
      have HV := Lib.hid hv
      clear hv
      go_wp2_with fail
      refine (HY0.out _ (HF.out.below HV.out)).mono ?_
      rintro e w4 ⟨rfl, hb⟩
      have hv := HV.out.trans (hb.mono HV.out.size)
      clear hb HV 
      have HV := Lib.hid hv
      clear hv 
      go_wp2_with fail
      go_ret
      exact ⟨rfl, HV.out⟩

set_option maxRecDepth 1000000 in
set_option maxHeartbeats 6400000 in
theorem law05_cuts_yes (c : Int) (A : Option Addr) (ca : Nat) (l : List Ent) (ho : OkL l) (hcc : l.length ≤ ca) (hl : l.length ≤ 120) (h0 : mayNo c 1 l = 0) (w : World) (hA : EntS w A l) (hf : Fit3 w) :
    Calls Tryd.prog 5 #[.int .i64 c, .slice A l.length ca] w fun e w' => e = .returned (.bool true) ∧ Below w.heap.size w w' := by
  have HF := Lib.hid hf
  have HA := Lib.hid hA
  have HO := Lib.hid ho
  have HCC := Lib.hid hcc
  have HY0 : Hid (∀ W, Fit3 W → Calls Tryd.prog 8 #[] W fun e w' => e = .returned (.bool true) ∧ Below W.heap.size W w') := yes5
  clear hf hA ho hcc
  have nl : ¬ 120 < (l.length : Int) := by omega
  have hE := fun W (h : EntS W A l) (hF : Fit3 W) => cutE c A ca l (by omega) HCC.out HO.out W h hF
  have hR := fun W (h : EntS W A l) => refCutE c A ca l (by omega) W h
  have hpos := cutL_pos c l
  have hsh := cutL_short c l
  have hfl : (cutL c l).flatten = l := by unfold cutL; rw [if_pos h0]; exact cutsE_flat l
  rw [h0] at hE hR
  have HFL := Lib.hid hfl
  clear hfl h0
  generalize cutL c l = L at *
  have hls : L.length ≤ 1000000 := by
    have := hsh
    have h2 : ∀ M : List (List Ent), (∀ i (h : i < M.length), 0 < (M[i]'h).length) → M.length ≤ M.flatten.length := by
      intro M
      induction M with
      | nil => intro _; simp
      | cons x M ih =>
        intro hp
        have h3 := hp 0 (by simp)
        have h4 := ih (fun i h => by have := hp (i + 1) (by simpa using h); simpa using this)
        simp only [List.getElem_cons_zero] at h3
        simp only [List.length_cons, List.flatten_cons, List.length_append]
        omega
    have := h2 L hpos
    omega
  have HE := Lib.hid hE
  have HR := Lib.hid hR
  have HPOS := Lib.hid hpos
  have HSH := Lib.hid hsh
  clear hE hR hpos hsh
  obtain ⟨i0, hi, hz0, hz1, hz2⟩ := info_parts infoEnt
  have HI := Lib.hid (And.intro hi (And.intro hz0 (And.intro hz1 hz2)))
  clear hi hz0 hz1 hz2
  go_enter Tryd.func5, Tryd.ntmps5
  go_wp2_with fail
  have HV := Lib.hid (Below.refl w.heap.size w)
  refine (HE.out _ (HA.out.below HV.out) (HF.out.below HV.out)).mono ?_
  rintro e w1 ⟨⟨P, k1, rfl, hS⟩, hb⟩
  have hv := HV.out.trans (hb.mono HV.out.size)
  clear hb HV 
  have HV := Lib.hid hv
  clear hv 
  have HS := Lib.hid hS
  clear hS
  go_wp2_with fail
  refine (HR.out _ (HA.out.below HV.out)).mono ?_
  rintro e w2 ⟨⟨Q, k2, rfl, hT⟩, hb⟩
  have hv := HV.out.trans (hb.mono HV.out.size)
  have yHS := HS.out.below hb
  clear hb HV 
  have HV := Lib.hid hv
  clear hv 
  clear HS
  have HS := Lib.hid yHS
  clear yHS
  have HT := Lib.hid hT
  clear hT
  go_wp2_with fail
  clear HE HR
  refine (num5_any _ _).mono ?_
  rintro e wn3 ⟨rfl, rfl⟩
  go_wp2_with fail
  go_loopw [9, 10] (fun v a wr => ∃ i : Nat, i ≤ L.length ∧ a = .int .i64 i ∧ Hid (wr.ownsRow w2.heap.size 55 6 v (L.take i).flatten.length (entCs (L.take i).flatten)) ∧ Hid (Below w2.heap.size w2 wr)) (fun _ a _ => L.length - (intOf a).toNat)
  case atStart => exact ⟨0, by omega, rfl, Lib.hid (World.ownsRow_nil _ _ _ _), Lib.hid (Below.refl _ _)⟩
  case round =>
    obtain ⟨i, hil, rfl, HOW, HB⟩ := hrel
    by_cases hlt : i < L.length
    · have jz : (i : Int) < (L.length : Int) := by omega
      obtain ⟨g, Ai, ki, rfl, hg, k0, k1c, hEi⟩ := (HS.out.below HB.out) i hlt
      obtain ⟨q, Bi, kb, rfl, hq, m0, m1, hFi⟩ := (HT.out.below HB.out) i hlt
      have hpi := HPOS.out i hlt
      have HFT := Lib.hid (flat_take hlt)
      have hsm : (L.take i).flatten.length + (L[i]'hlt).length ≤ 1000000 := by
        have h1 := flat_le L (i + 1)
        rw [HFT.out, List.length_append] at h1
        have := HSH.out
        omega
      have HEI := Lib.hid hEi
      have HFI := Lib.hid hFi
      clear hEi hFi
      generalize (L[i]'hlt) = x at *
      generalize (L.take i).flatten = y at *
      have r0 := cell_regrown k0
      have r1 := cell_regrown k1c
      have r2 := cell_regrown m0
      have r3 := cell_regrown m1
      have cS : ∀ d os, Calls Tryd.prog 15 #[.agg #[.int .i64 c, .slice Ai x.length ki], .agg #[.int .i64 c, .slice Bi x.length kb]] (grow (redrawn wr d) os) fun e w'' => e = .returned (.bool true) ∧ ∃ p : Regrown, w'' = grow (redrawn wr p.d) p.os := fun d os => Calls.regrown_of (refSameE_self c Ai Bi ki kb x (by omega) _ (HEI.out.below (below_regrown wr d os)) (HFI.out.below (below_regrown wr d os)))
      clear k0 k1c m0 m1
      go_wp2_with fail
      refine wp_region_quiet_below (by kernel_rfl) (by kernel_rfl) ?_
      try simp only [List.append_eq, List.cons_append, List.nil_append]
      repeat (go_big_quiet_step (first | (with_reducible exact cS _ _)))
      refine wpQuiet_nil ?_
      intro wq hwq
      obtain ⟨⟨dq, osq⟩, rfl⟩ := hwq
      have hb := below_regrown wr dq osq
      have HB2 := Lib.hid (HB.out.trans (hb.mono HB.out.size))
      have HE2 := Lib.hid (HEI.out.below hb)
      have HO2 := Lib.hid (row_past5 HOW.out hb)
      have s0 := r0 dq osq
      have s1 := r1 dq osq
      have hg2 := Nat.lt_of_lt_of_le hg hb.size
      generalize grow (redrawn wr dq) osq = w9 at *
      clear hb r0 r1 r2 r3 cS HEI HFI HB HOW
      obtain ⟨b, o, rfl, _, _⟩ := HE2.out hpi
      go_wp2_with (first | (at_builtin; refine wpList_append_own _ rfl _ _ 23 rfl w2.heap.size 55 i0 (.agg #[.int .i64 0, .int .i64 0, .int .u32 0, .int .u32 0, .int .u32 0, .int .u32 0]) 6 32 Tryd.underlying23 HI.out.1 HI.out.2.1 HI.out.2.2.1 HI.out.2.2.2 rfl (by decide) _ _ _ rfl HO2.out ⟨b, o, none⟩ x.length ki (entCs x) rfl (entCs_len x) ?a1 ?a2 ?a3 ?a4 ?a5 ?_))
      case a1 => exact HE2.out.news
      case a2 => exact entCs_one
      case a3 => unfold maxLen; omega
      case a4 => omega
      case a5 => exact HB2.out.size
      intro v2 w10 hown hgrow _
      have HO3 : Hid (w10.ownsRow w2.heap.size 55 6 v2 (L.take (i + 1)).flatten.length (entCs (L.take (i + 1)).flatten)) := Lib.hid (by
        rw [HFT.out, List.length_append, entCs_app]
        exact hown)
      have HB3 : Hid (Below w2.heap.size w2 w10) := Lib.hid (HB2.out.grown hgrow HB2.out.size (fun r e => (HO2.out.lt r e).1))
      clear hown hgrow HO2 HB2 HE2 s0 s1 hg hg2 hq
      go_wp2_with fail
      go_roundw
      case rel => exact ⟨i + 1, by omega, by go_num, HO3, HB3⟩
      case measure => simp [intOf]; omega
    · have jz : ¬ (i : Int) < (L.length : Int) := by omega
      obtain rfl : i = L.length := by omega
      have ho := HOW.out
      rw [List.take_length] at ho
      have hv := HV.out.trans (HB.out.mono HV.out.size)
      clear HV HOW
      rw [HFL.out] at ho
      obtain ⟨Ao, ko, rfl, _, hEo⟩ := ownE_ents ho
      have HEO := Lib.hid hEo
      clear ho hEo
      have HV := Lib.hid hv
      clear hv
      have hsf := fun W (h1 : EntS W Ao l) (h2 : EntS W A l) => refSame4_any Ao A ko ca l l (by omega) (by omega) W h1 h2
      simp only [decide_true] at hsf
      have HSF := Lib.hid hsf
      clear hsf
      go_wp2_with fail
      refine (HSF.out _ HEO.out (HA.out.below HV.out)).mono ?_
      rintro e w4 ⟨rfl, hb⟩
      have hv := HV.out.trans (hb.mono HV.out.size)
      clear hb HV 
      have HV := Lib.hid hv
      clear hv 
      go_wp2_with fail
      refine (HY0.out _ (HF.out.below HV.out)).mono ?_
      rintro e w5 ⟨rfl, hb⟩
      have hv := HV.out.trans (hb.mono HV.out.size)
      clear hb HV 
      have HV := Lib.hid hv
      clear hv 
      go_wp2_with fail
      go_ret
      exact ⟨rfl, HV.out⟩

theorem law05_cuts (c : Int) (A : Option Addr) (ca : Nat) (l : List Ent) (ho : OkL l) (hcc : l.length ≤ ca) (w : World) (hA : EntS w A l) (hf : Fit3 w) :
    Calls Tryd.prog 5 #[.int .i64 c, .slice A l.length ca] w fun e w' => e = .returned (.bool true) ∧ Below w.heap.size w w' := by
  by_cases hl : l.length ≤ 120
  · by_cases h0 : mayNo c 1 l = 0
    · exact law05_cuts_yes c A ca l ho hcc hl h0 w hA hf
    · exact law05_cuts_no c A ca l ho hcc hl h0 w hA hf
  · exact law05_cuts_big c A ca l ho hcc (by omega) w hA hf
end Go.Proofs.YtehhablobfaplaaDoor
