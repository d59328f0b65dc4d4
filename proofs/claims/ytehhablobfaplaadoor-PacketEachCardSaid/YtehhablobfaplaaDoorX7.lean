/- Layer 5's program: a reader's datagram, where bytes are a datagram's. -/
import Derived.Test.YtehhablobfaplaaDoorX6
namespace Go.Proofs.YtehhablobfaplaaDoor
open Go Go.RowKit Go.Shelf Go.Sort
attribute [local go_sem] Oper.semAt_some

theorem pcs_short (n : Nat) : ∀ f a : Nat, (pcs 20 n f a).length ≤ f
  | 0, _ => by simp [pcs]
  | f + 1, a => by
    unfold pcs
    split
    · simpa using pcs_short n f (a + 20)
    · simp
theorem eachE_snd (xs : List Int) : (eachE xs).map (·.2) = ents xs := by
  have hl := eachE_len xs
  refine List.ext_getElem (by simpa using hl) fun i h1 h2 => ?_
  rw [List.getElem_map, eachE_at (by simpa using h1) h2]

/-- Blocks of entries. -/
def mbE : Obj → Bool
  | .cells _ t _ => t == 55
  | _ => false
theorem mbE0 (o : Obj) (h : o.isCells = false) : mbE o = false := by
  cases o <;> first | rfl | simp [Obj.isCells] at h
theorem ownE_kind {W : World} {base : Nat} {v : Value} {k : Nat} {xs : List Value} (h : W.ownsRow base 55 6 v k xs) {r : Nat} (hr : v.ownBlock = some r) : ∃ o, W.heap[r]? = some o ∧ mbE o = true ∧ o.isCells = true := by
  rcases h.2 with ⟨rfl, _⟩ | ⟨g, cap, cur, rfl, _, hh, _⟩
  · cases hr
  · cases hr
    exact ⟨_, hh, by simp [mbE], rfl⟩
theorem ownE_turned {W W' : World} {base B : Nat} {v : Value} {k : Nat} {xs : List Value} (h : W.ownsRow base 55 6 v k xs) (ht : Turns (fun o => !mbE o || !o.isCells) B W W') : W'.ownsRow base 55 6 v k xs := by
  refine ⟨h.1, ?_⟩
  rcases h.2 with hn | ⟨g, cap, cur, rfl, hb, hh, rest⟩
  · exact .inl hn
  · exact .inr ⟨g, cap, cur, rfl, hb, Turns.keepsKind mbE0 ht hh (by simp [mbE]), rest⟩
/-- What a round that appends an entry to a slice of its own keeps. -/
theorem appE_keeps {W Wa w2 : World} {base B E : Nat} {K₀ : Nat → Prop} {v : Value} {k : Nat} {xs : List Value} (ho : Wa.ownsRow base 55 6 v k xs) (ha : Below W.heap.size W Wa) (hg : Wa.grownBy w2 v.ownBlock) (hK : ∀ r, base ≤ r → ¬ K₀ r) :
    KeepsFrom B W w2 ∧ KeptB mbE K₀ E W w2 := by
  have h1 : KeptB mbE K₀ E W Wa := KeptB.calls ha
  have k1 : KeepsFrom B W Wa := keepsFrom_below ha
  cases hb : v.ownBlock with
  | none =>
    rw [hb] at hg
    exact ⟨⟨Nat.le_trans k1.1 hg.size, fun i o hi hoo hc => (hg.block i (Array.getElem?_eq_some_iff.1 (k1.2 i o hi hoo hc)).1 (fun e => by cases e)).trans (k1.2 i o hi hoo hc)⟩, h1.trans (KeptB.grow hg)⟩
  | some r =>
    rw [hb] at hg
    obtain ⟨o, q1, q2, q3⟩ := ownE_kind ho hb
    refine ⟨⟨Nat.le_trans k1.1 hg.size, fun i o' hi hoo hc => ?_⟩, h1.trans (KeptB.grown hg (hK r (ho.lt r hb).1) (.inr ⟨o, q1, q2⟩))⟩
    have := k1.2 i o' hi hoo hc
    refine (hg.block i (Array.getElem?_eq_some_iff.1 this).1 (fun e => ?_)).trans this
    cases e
    rw [q1] at this
    cases this
    rw [q3] at hc
    cases hc
theorem keepsFrom_step {B : Nat} {A W C : World} (h : KeepsFrom B A W) (k : KeepsFrom B W C) : KeepsFrom B A C := ⟨Nat.le_trans h.1 k.1, fun i o hi ho hc => k.2 i o hi (h.2 i o hi ho hc) hc⟩

set_option maxRecDepth 100000 in
set_option maxHeartbeats 3200000 in
theorem datagram_yes (p : Option Addr) (c : Nat) (xs : List Int) (hb : IsBytes xs) (hn : xs.length ≤ 1000000) (hc : xs.length ≤ c) (w : World) (hx : ByS w p xs) (hf : Fit3 w) (h0 : chkNo xs = 0) :
    CallsIn Fence.wide 9 Tryd.prog 33 #[.agg #[.slice p xs.length c]] w fun e w' => DgY w xs e w' ∧ Below w.heap.size w w' := by
  have HBX := Lib.hid hb
  have HX := Lib.hid hx
  have HF := Lib.hid hf
  have HM5 := Lib.hid (mOk_of hb h0)
  clear hb hx hf h0
  refine callsIn_of_wp_marks Tryd.func33 rfl trivial ?_ rfl
  simp only [Tryd.ntmps33, List.size_toArray, List.length_cons, List.length_nil, Nat.reduceAdd, Nat.reduceSub, Array.replicate_succ, Array.replicate_zero, List.push_toArray, List.append_toArray, List.nil_append, List.cons_append]
  gi_wp2_with fail
  refine ⟨trivial, ?_⟩
  refine (callsIn_wide.2 (musts_any _)).mono ?_
  rintro e w1 ⟨rfl, hk, hb1⟩
  obtain ⟨b1, b2, hbl⟩ := blks2 w _ _ _ _ hb1
  simp only [World.size_alloc] at hk
  have hs1 : w.heap.size + 3 ≤ w1.heap.size := by have := hk.lt; omega
  have HC0 : Hid (DgC w p xs.length c w1) := Lib.hid ⟨hbl, b1, b2, hk⟩
  clear hk hb1 b1 b2 hbl
  simp only [World.size_alloc]
  gi_wp2_with fail
  gi_loopw [10] (fun a wr => ∃ j : Nat, j ≤ 5 ∧ a = .int .i64 j ∧ Hid (MOk xs j) ∧ Hid (DgC w p xs.length c wr) ∧ Hid (w.heap.size + 3 ≤ wr.heap.size)) (fun a _ => 5 - (intOf a).toNat)
  case atStart => exact ⟨0, by omega, rfl, Lib.hid ⟨fun h => by omega, fun h => by omega, fun h => by omega, fun h => by omega, fun h => by omega⟩, HC0, Lib.hid hs1⟩
  case round =>
    obtain ⟨j, hj, rfl, HM, HC, HS⟩ := hrel
    have hs3 := HS.out
    have hl0 : w.heap.size < wr.heap.size := by omega
    match j, hj, HM with
    | 0, _, HM =>
      have k0 := HC.out.m.cell 0
      have k1 := HC.out.m.cell 1
      have r0 := HC.out.r.cell 0
      simp only [mustCs, List.getElem?_toArray, List.getElem?_cons_zero, List.getElem?_cons_succ] at k0 k1 r0
      have HC1 := Lib.hid (HC.out.mono ((Below.refl _ _).alloc hs3 (.cells #[.func (.func 58) #[] #[], .int .i64 150] 88)))
      have HBW := Lib.hid HC1.out.bl
      have HS1 : Hid (w.heap.size + 3 ≤ (wr.alloc (.cells #[.func (.func 58) #[] #[], .int .i64 150] 88)).heap.size) := Lib.hid (by simp; omega)
      have hr := must1_any p c xs (wr.alloc (.cells #[.func (.func 58) #[] #[], .int .i64 150] 88))
      have hm := HM5.out.m1 (by omega)
      rw [hm] at hr
      have HM2 : Hid (MOk xs 1) := Lib.hid ⟨fun h => by first | exact HM.out.m1 (by omega) | exact hm | omega, fun h => by first | exact HM.out.m2 (by omega) | exact hm | omega, fun h => by first | exact HM.out.m3 (by omega) | exact hm | omega, fun h => by first | exact HM.out.m4 (by omega) | exact hm | omega, fun h => by first | exact HM.out.m5 (by omega) | exact hm | omega⟩
      clear hm
      have HR := Lib.hid hr
      clear hr
      gi_wp2_with fail
      refine ⟨trivial, ?_⟩
      refine (callsIn_wide.2 HR.out).mono ?_
      rintro e w2 ⟨rfl, hb⟩
      have HC2 := Lib.hid (HC1.out.mono (hb.mono HS1.out))
      have HS2 : Hid (w.heap.size + 3 ≤ w2.heap.size) := Lib.hid (Nat.le_trans HS1.out hb.size)
      clear hb HC HC1 HR HBW HS1 k0 k1 r0 hl0
      gi_wp2_with fail
      go_roundw
      case rel => exact ⟨1, by omega, by go_num, HM2, HC2, HS2⟩
      case measure => simp [intOf]
    | 1, _, HM =>
      have k0 := HC.out.m.cell 2
      have k1 := HC.out.m.cell 3
      have r0 := HC.out.r.cell 0
      simp only [mustCs, List.getElem?_toArray, List.getElem?_cons_zero, List.getElem?_cons_succ] at k0 k1 r0
      have HC1 := Lib.hid (HC.out.mono ((Below.refl _ _).alloc hs3 (.cells #[.func (.func 59) #[] #[], .int .i64 151] 88)))
      have HBW := Lib.hid HC1.out.bl
      have HS1 : Hid (w.heap.size + 3 ≤ (wr.alloc (.cells #[.func (.func 59) #[] #[], .int .i64 151] 88)).heap.size) := Lib.hid (by simp; omega)
      have hr := must2_any p c xs hn hc _ (HX.out.below HBW.out)
      have hm := HM5.out.m2 (by omega)
      rw [hm] at hr
      have HM2 : Hid (MOk xs 2) := Lib.hid ⟨fun h => by first | exact HM.out.m1 (by omega) | exact hm | omega, fun h => by first | exact HM.out.m2 (by omega) | exact hm | omega, fun h => by first | exact HM.out.m3 (by omega) | exact hm | omega, fun h => by first | exact HM.out.m4 (by omega) | exact hm | omega, fun h => by first | exact HM.out.m5 (by omega) | exact hm | omega⟩
      clear hm
      have HR := Lib.hid hr
      clear hr
      gi_wp2_with fail
      refine ⟨trivial, ?_⟩
      refine (callsIn_wide.2 HR.out).mono ?_
      rintro e w2 ⟨rfl, hb⟩
      have HC2 := Lib.hid (HC1.out.mono (hb.mono HS1.out))
      have HS2 : Hid (w.heap.size + 3 ≤ w2.heap.size) := Lib.hid (Nat.le_trans HS1.out hb.size)
      clear hb HC HC1 HR HBW HS1 k0 k1 r0 hl0
      gi_wp2_with fail
      go_roundw
      case rel => exact ⟨2, by omega, by go_num, HM2, HC2, HS2⟩
      case measure => simp [intOf]
    | 2, _, HM =>
      have k0 := HC.out.m.cell 4
      have k1 := HC.out.m.cell 5
      have r0 := HC.out.r.cell 0
      simp only [mustCs, List.getElem?_toArray, List.getElem?_cons_zero, List.getElem?_cons_succ] at k0 k1 r0
      have HC1 := Lib.hid (HC.out.mono ((Below.refl _ _).alloc hs3 (.cells #[.func (.func 61) #[] #[], .int .i64 152] 88)))
      have HBW := Lib.hid HC1.out.bl
      have HS1 : Hid (w.heap.size + 3 ≤ (wr.alloc (.cells #[.func (.func 61) #[] #[], .int .i64 152] 88)).heap.size) := Lib.hid (by simp; omega)
      have hr := must3_any p c xs HBX.out hn hc _ (HX.out.below HBW.out) (HF.out.below HBW.out)
      have hm := HM5.out.m3 (by omega)
      rw [hm] at hr
      have HM2 : Hid (MOk xs 3) := Lib.hid ⟨fun h => by first | exact HM.out.m1 (by omega) | exact hm | omega, fun h => by first | exact HM.out.m2 (by omega) | exact hm | omega, fun h => by first | exact HM.out.m3 (by omega) | exact hm | omega, fun h => by first | exact HM.out.m4 (by omega) | exact hm | omega, fun h => by first | exact HM.out.m5 (by omega) | exact hm | omega⟩
      clear hm
      have HR := Lib.hid hr
      clear hr
      gi_wp2_with fail
      refine ⟨trivial, ?_⟩
      refine (callsIn_wide.2 HR.out).mono ?_
      rintro e w2 ⟨rfl, hb⟩
      have HC2 := Lib.hid (HC1.out.mono (hb.mono HS1.out))
      have HS2 : Hid (w.heap.size + 3 ≤ w2.heap.size) := Lib.hid (Nat.le_trans HS1.out hb.size)
      clear hb HC HC1 HR HBW HS1 k0 k1 r0 hl0
      gi_wp2_with fail
      go_roundw
      case rel => exact ⟨3, by omega, by go_num, HM2, HC2, HS2⟩
      case measure => simp [intOf]
    | 3, _, HM =>
      have k0 := HC.out.m.cell 6
      have k1 := HC.out.m.cell 7
      have r0 := HC.out.r.cell 0
      simp only [mustCs, List.getElem?_toArray, List.getElem?_cons_zero, List.getElem?_cons_succ] at k0 k1 r0
      have HC1 := Lib.hid (HC.out.mono ((Below.refl _ _).alloc hs3 (.cells #[.func (.func 63) #[] #[], .int .i64 153] 88)))
      have HBW := Lib.hid HC1.out.bl
      have HS1 : Hid (w.heap.size + 3 ≤ (wr.alloc (.cells #[.func (.func 63) #[] #[], .int .i64 153] 88)).heap.size) := Lib.hid (by simp; omega)
      have hr := must4_any p c xs HBX.out hn hc _ (HX.out.below HBW.out) (HF.out.below HBW.out)
      have hm := HM5.out.m4 (by omega)
      rw [hm] at hr
      have HM2 : Hid (MOk xs 4) := Lib.hid ⟨fun h => by first | exact HM.out.m1 (by omega) | exact hm | omega, fun h => by first | exact HM.out.m2 (by omega) | exact hm | omega, fun h => by first | exact HM.out.m3 (by omega) | exact hm | omega, fun h => by first | exact HM.out.m4 (by omega) | exact hm | omega, fun h => by first | exact HM.out.m5 (by omega) | exact hm | omega⟩
      clear hm
      have HR := Lib.hid hr
      clear hr
      gi_wp2_with fail
      refine ⟨trivial, ?_⟩
      refine (callsIn_wide.2 HR.out).mono ?_
      rintro e w2 ⟨rfl, hb⟩
      have HC2 := Lib.hid (HC1.out.mono (hb.mono HS1.out))
      have HS2 : Hid (w.heap.size + 3 ≤ w2.heap.size) := Lib.hid (Nat.le_trans HS1.out hb.size)
      clear hb HC HC1 HR HBW HS1 k0 k1 r0 hl0
      gi_wp2_with fail
      go_roundw
      case rel => exact ⟨4, by omega, by go_num, HM2, HC2, HS2⟩
      case measure => simp [intOf]
    | 4, _, HM =>
      have k0 := HC.out.m.cell 8
      have k1 := HC.out.m.cell 9
      have r0 := HC.out.r.cell 0
      simp only [mustCs, List.getElem?_toArray, List.getElem?_cons_zero, List.getElem?_cons_succ] at k0 k1 r0
      have HC1 := Lib.hid (HC.out.mono ((Below.refl _ _).alloc hs3 (.cells #[.func (.func 64) #[] #[], .int .i64 154] 88)))
      have HBW := Lib.hid HC1.out.bl
      have HS1 : Hid (w.heap.size + 3 ≤ (wr.alloc (.cells #[.func (.func 64) #[] #[], .int .i64 154] 88)).heap.size) := Lib.hid (by simp; omega)
      have hr := must5_any p c xs HBX.out hn hc _ (HX.out.below HBW.out) (HF.out.below HBW.out)
      have hm := HM5.out.m5 (by omega)
      rw [hm] at hr
      have HM2 : Hid (MOk xs 5) := Lib.hid ⟨fun h => by first | exact HM.out.m1 (by omega) | exact hm | omega, fun h => by first | exact HM.out.m2 (by omega) | exact hm | omega, fun h => by first | exact HM.out.m3 (by omega) | exact hm | omega, fun h => by first | exact HM.out.m4 (by omega) | exact hm | omega, fun h => by first | exact HM.out.m5 (by omega) | exact hm | omega⟩
      clear hm
      have HR := Lib.hid hr
      clear hr
      gi_wp2_with fail
      refine ⟨trivial, ?_⟩
      refine (callsIn_wide.2 HR.out).mono ?_
      rintro e w2 ⟨rfl, hb⟩
      have HC2 := Lib.hid (HC1.out.mono (hb.mono HS1.out))
      have HS2 : Hid (w.heap.size + 3 ≤ w2.heap.size) := Lib.hid (Nat.le_trans HS1.out hb.size)
      clear hb HC HC1 HR HBW HS1 k0 k1 r0 hl0
      gi_wp2_with fail
      go_roundw
      case rel => exact ⟨5, by omega, by go_num, HM2, HC2, HS2⟩
      case measure => simp [intOf]
    | 5, _, HM =>
      clear HM
      have HBW := Lib.hid HC.out.bl
      have hl0 : w.heap.size < wr.heap.size := by omega
      have r0 := HC.out.r.cell 0
      simp only [List.getElem?_toArray, List.getElem?_cons_zero] at r0
      have hr := command5_any p c xs HBX.out hn hc _ (HX.out.below HBW.out) (HF.out.below HBW.out)
      have HR := Lib.hid hr
      clear hr HM5
      gi_wp2_with fail
      refine ⟨trivial, ?_⟩
      refine (callsIn_wide.2 HR.out).mono ?_
      rintro e w2 ⟨rfl, hb⟩
      have HC2 := Lib.hid (HC.out.mono (hb.mono HS.out))
      have hs2 : w.heap.size + 3 ≤ w2.heap.size := Nat.le_trans HS.out hb.size
      clear hb HC HR HBW HS hs3 hl0 r0
      generalize hcm : readN xs 0 1 = cm at *
      have HCMQ := Lib.hid hcm
      clear hcm
      have HC3 := Lib.hid (HC2.out.mono ((Below.refl _ _).alloc hs2 (.cells #[.int .i64 cm, .slice none 0 0] 25)))
      have hdk := Blk.new w2 25 #[.int .i64 cm, .slice none 0 0]
      have HDK := Lib.hid hdk
      have hsz : (w2.alloc (.cells #[.int .i64 cm, .slice none 0 0] 25)).heap.size = w2.heap.size + 1 := by simp
      have HSZ := Lib.hid hsz
      clear hdk hsz
      have hl0 : w.heap.size < w2.heap.size := by omega
      have r0 := HC2.out.r.cell 0
      simp only [List.getElem?_toArray, List.getElem?_cons_zero] at r0
      have hbh := behind5_any p c xs hn hc _ (HX.out.below HC3.out.bl)
      have HBH := Lib.hid hbh
      clear hbh
      gi_wp2_with fail
      refine ⟨trivial, ?_⟩
      refine (callsIn_wide.2 HBH.out).mono ?_
      rintro e w3 ⟨⟨q, k, rfl, hqk, hq⟩, rfl⟩
      have hyl : (xs.drop 4).length ≤ 1000000 := by rw [List.length_drop]; omega
      have hea := each4_any q k (xs.drop 4) _ hyl hq
      have HEA := Lib.hid hea
      have HYB := Lib.hid (HBX.out.drop 4)
      clear hea hq HBH r0 hl0
      generalize hys : xs.drop 4 = ys at *
      have HYS := Lib.hid hys
      clear hys
      gi_wp2_with fail
      refine ⟨trivial, ?_⟩
      refine (callsIn_wide.2 HEA.out).mono ?_
      rintro e w4 ⟨Bo, g, cap, q2, rfl, hcapq, hq2, lg, lg2, co, hx2, hb2⟩
      rw [HSZ.out] at lg2
      have hs4 : w2.heap.size + 1 ≤ w4.heap.size := by have := hb2.size; rw [HSZ.out] at this; omega
      have HC4 := Lib.hid (HC3.out.mono (hb2.mono (by rw [HSZ.out]; omega)))
      have HD4 := Lib.hid (HDK.out.below hb2 (by rw [HSZ.out]; omega))
      have hwid := World.block_lt_of_cell? _ _ (HF.out.tab.cell gWid 0 (by decide))
      simp only at hwid
      have HSEQ := Lib.hid (each4_stopsB mbE mbE0 (fun _ => rfl) (fun _ => rfl) 8 (by omega) Bo g cap (fun i => i = g ∨ i = 0) q2 ys HYB.out hyl hcapq hq2 w4 (fun i h => by rcases h with rfl | rfl; exact lg; omega) (.inl rfl) (.inr rfl) co hx2 (HF.out.below HC4.out.bl))
      obtain ⟨i0, hi, hz0, hz1, hz2⟩ := info_parts infoEnt
      have HI := Lib.hid (And.intro hi (And.intro hz0 (And.intro hz1 hz2)))
      clear hi hz0 hz1 hz2 HEA HC2 HC3 HDK HC0 co hx2 hb2 hq2 HX HF HYB
      gi_wp2_with fail
      refine rangeFuncB_A (Mb := mbE) (K₀ := fun i => i = g ∨ i = 0) (S := fun zs => zs = eachE ys) (Sp := fun pre => pre <+: eachE ys) (N := (pcs 20 ys.length (ys.length + 1) 0).length) (w0 := w4) rfl (by omega) (gf := 53) (lb := #[.pointer (some ⟨Bo, 0, none⟩)]) rfl trivial (enters_of Tryd.func53 (by kernel_rfl) rfl)
        HSEQ.out (by omega) (Below.refl _ _) (fun _ => rfl)
        (fun pre W => ∃ v, Blk W w2.heap.size 25 #[.int .i64 cm, v] ∧ W.ownsRow w4.heap.size 55 6 v pre.length (entCs (pre.map (·.2))) ∧ Below w2.heap.size w4 W)
        ?hI ⟨.slice none 0 0, HD4.out, World.ownsRow_nil _ _ _ _, Below.refl _ _⟩
        (fun x b W => Blk W b 55 (sixE x.2)) (fun x b => blk_ab x b _) ?a₁ ?assign ?body ?done
      case hI =>
        rintro pre A C ⟨v, h1, h2, h3⟩ ht
        exact ⟨v, h1.turned ht (by omega), ownE_turned h2 ht, h3.trans (ht.below (by omega) (Nat.le_trans (by omega) h3.size))⟩
      case assign =>
        intro l pre x W K hI hK
        have hb : Below W.heap.size W (W.alloc (.cells (sixE x.2) 55)) := (Below.refl _ _).alloc (Nat.le_refl _) _
        have hk := hK W.heap.size _ (keepsFrom_below hb) (KeptB.calls hb) (by
          obtain ⟨v, h1, h2, h3⟩ := hI
          exact ⟨v, h1.below hb h1.lt, h2.alloc _, h3.trans (hb.mono (Nat.le_trans (by omega) h3.size))⟩) (Blk.new W _ _)
        have HK := Lib.hid hk
        clear hI hK hb hk
        gi_wp2
        generalize W.heap.size = b at *
        exact HK.out
      case body =>
        rintro l pre x b W ⟨v, h1, h2, h3⟩ hab hlen
        have hpl : pre.length ≤ 1000001 := by
          have := pcs_short ys.length (ys.length + 1) 0
          omega
        obtain ⟨n, f, t, a, m, nx, z⟩ := x
        have cb0 := hab.cell 0
        have cb1 := hab.cell 1
        have cb2 := hab.cell 2
        have cb3 := hab.cell 3
        have cb4 := hab.cell 4
        have cb5 := hab.cell 5
        simp only [sixE, List.getElem?_toArray, List.getElem?_cons_zero, List.getElem?_cons_succ] at cb0 cb1 cb2 cb3 cb4 cb5
        have c1 := h1.cell 1
        simp only [List.getElem?_toArray, List.getElem?_cons_zero, List.getElem?_cons_succ] at c1
        have hsW : w4.heap.size ≤ W.heap.size := h3.size
        have hlw : w2.heap.size < W.heap.size := by omega
        have H1 := Lib.hid h1
        have H2 := Lib.hid h2
        have H3 := Lib.hid h3
        clear h1 h2 h3 hab hlen
        gi_wp2_with (first | (gi_at_builtin; refine wpListIn_append_own _ rfl _ _ 23 rfl w4.heap.size 55 i0 (.agg #[.int .i64 0, .int .i64 0, .int .u32 0, .int .u32 0, .int .u32 0, .int .u32 0]) 6 32 Tryd.underlying23 HI.out.1 HI.out.2.1 HI.out.2.2.1 HI.out.2.2.2 rfl (by decide) _ _ _ rfl (H2.out.alloc _) ⟨W.heap.size, 0, none⟩ 1 1 [.int .i64 f, .int .i64 t, .int .u32 a, .int .u32 m, .int .u32 nx, .int .u32 z] rfl rfl ?c1 ?c2 ?c3 ?c4 ?c5 ?_))
        case c1 =>
          intro q u hq
          match q, hq with
          | 0, hq => simp at hq; subst hq; simp [Addr.add]
          | 1, hq => simp at hq; subst hq; simp [Addr.add]
          | 2, hq => simp at hq; subst hq; simp [Addr.add]
          | 3, hq => simp at hq; subst hq; simp [Addr.add]
          | 4, hq => simp at hq; subst hq; simp [Addr.add]
          | 5, hq => simp at hq; subst hq; simp [Addr.add]
          | q + 6, hq => simp at hq
        case c2 =>
          intro u hu
          simp at hu
          rcases hu with rfl | rfl | rfl | rfl | rfl | rfl <;> rfl
        case c3 => unfold maxLen; omega
        case c4 => omega
        case c5 => simp; omega
        intro v2 wn hown hgrow _
        have hal : Below W.heap.size W (W.alloc (.cells #[.int .i64 f, .int .i64 t, .int .u32 a, .int .u32 m, .int .u32 nx, .int .u32 z] 55)) := (Below.refl _ _).alloc (Nat.le_refl _) _
        have hkk := appE_keeps (B := w4.heap.size) (E := w4.heap.size + 2) (K₀ := fun i => i = g ∨ i = 0) (H2.out.alloc (.cells #[.int .i64 f, .int .i64 t, .int .u32 a, .int .u32 m, .int .u32 nx, .int .u32 z] 55)) hal hgrow (fun r hr h => by rcases h with rfl | rfl <;> omega)
        obtain ⟨g', cap', rfl⟩ := ownsRow_succ hown
        have hlt2 : ∀ k, Value.ownBlock v = some k → w4.heap.size ≤ k := fun k hk => (H2.out.lt k hk).1
        have hB2 : Blk wn w2.heap.size 25 #[.int .i64 cm, v] := (H1.out.below hal (by omega)).grown hgrow (fun e => by have := hlt2 _ e.symm; omega)
        have hb3 : Below w2.heap.size w4 wn := (H3.out.trans (hal.mono (by omega))).grown hgrow (by simp; omega) (fun k e => by have := hlt2 k e; omega)
        have c3 := hB2.cell 1
        have f3 := hB2.frozen 1
        simp only [List.getElem?_toArray, List.getElem?_cons_zero, List.getElem?_cons_succ] at c3
        have hent : entCs (((pre ++ [(n, (⟨f, t, a, m, nx, z⟩ : Ent))]).map (·.2))) = entCs (pre.map (·.2)) ++ [.int .i64 f, .int .i64 t, .int .u32 a, .int .u32 m, .int .u32 nx, .int .u32 z] := by
          rw [List.map_append, List.map_singleton, entCs_snoc]
        have HP : Hid (KeepsFrom w4.heap.size W (wn.setCell ⟨w2.heap.size, 1, none⟩ (.slice (some ⟨g', 0, none⟩) (pre.length + 1) cap')) ∧ KeptB mbE (fun i => i = g ∨ i = 0) (w4.heap.size + 2) W (wn.setCell ⟨w2.heap.size, 1, none⟩ (.slice (some ⟨g', 0, none⟩) (pre.length + 1) cap')) ∧
            (∃ v, Blk (wn.setCell ⟨w2.heap.size, 1, none⟩ (.slice (some ⟨g', 0, none⟩) (pre.length + 1) cap')) w2.heap.size 25 #[.int .i64 cm, v] ∧ (wn.setCell ⟨w2.heap.size, 1, none⟩ (.slice (some ⟨g', 0, none⟩) (pre.length + 1) cap')).ownsRow w4.heap.size 55 6 v (pre ++ [(n, (⟨f, t, a, m, nx, z⟩ : Ent))]).length (entCs ((pre ++ [(n, (⟨f, t, a, m, nx, z⟩ : Ent))]).map (·.2))) ∧ Below w2.heap.size w4 (wn.setCell ⟨w2.heap.size, 1, none⟩ (.slice (some ⟨g', 0, none⟩) (pre.length + 1) cap')))) := by
          refine ⟨keepsFrom_step hkk.1 ?_, hkk.2.trans (KeptB.grown (grown_set wn w2.heap.size 1 _) (fun h => by rcases h with h | h <;> omega) (.inl (by omega))), .slice (some ⟨g', 0, none⟩) (pre.length + 1) cap', ?_, ?_, hb3.setCell (Nat.le_refl _) _⟩
          · have k1 := (KeepsOthers.setCell wn ⟨w2.heap.size, 1, none⟩ (.slice (some ⟨g', 0, none⟩) (pre.length + 1) cap')).from w4.heap.size
            exact ⟨k1.1, k1.2⟩
          · simpa using hB2.set_ 1 (.slice (some ⟨g', 0, none⟩) (pre.length + 1) cap')
          · rw [hent, List.length_append, List.length_singleton]
            exact ownsRow_setCell_below hown (by simp; omega) _
        clear hkk hB2 hb3 hent hown hgrow hal hlt2 H1 H2 H3 cb0 cb1 cb2 cb3 cb4 cb5 c1
        gi_wp2_with fail
        exact HP.out
      case done =>
        rintro D zs W hD rfl ⟨v, h1, h2, h3⟩ hK
        rw [eachE_len, eachE_snd] at h2
        have hC := HC4.out.mono (h3.mono (by omega))
        have c0 := h1.cell 0
        have c1 := h1.cell 1
        simp only [List.getElem?_toArray, List.getElem?_cons_zero, List.getElem?_cons_succ] at c0 c1
        have hform : v = .slice none 0 0 ∨ ∃ g cap, v = .slice (some ⟨g, 0, none⟩) (ents ys).length cap := (Joins.ownsRow_forms h2).imp (fun h => h.1) (fun h => h)
        rcases hform with rfl | ⟨g2, cap2, rfl⟩
        · have hz : (ents ys).length = (ents ys).length := rfl
          clear hz
          have hwa : Blk ((W.setCell ⟨w.heap.size + 1, 0, none⟩ (.int .i64 cm)).setCell ⟨w.heap.size + 1, 1, none⟩ (.slice none 0 0)) (w.heap.size + 1) 25 #[.int .i64 cm, (.slice none 0 0)] := by
            simpa using (hC.d.set_ 0 (.int .i64 cm)).set_ 1 (.slice none 0 0)
          have gA := grown_set W (w.heap.size + 1) 0 (.int .i64 cm)
          have gB := grown_set (W.setCell ⟨w.heap.size + 1, 0, none⟩ (.int .i64 cm)) (w.heap.size + 1) 1 (.slice none 0 0)
          have hKA := (gA.block D (Array.getElem?_eq_some_iff.1 hK).1 (by simp; omega)).trans hK
          have hKB := (gB.block D (Array.getElem?_eq_some_iff.1 hKA).1 (by simp; omega)).trans hKA
          have hown := ownsRow_setCell_below (ownsRow_setCell_below h2 (a := ⟨w.heap.size + 1, 0, none⟩) (by simp; omega) (.int .i64 cm)) (a := ⟨w.heap.size + 1, 1, none⟩) (by simp; omega) (.slice none 0 0)
          have hbb := (hC.bl.setCell (p := ⟨w.heap.size + 1, 0, none⟩) (by simp) (.int .i64 cm)).setCell (p := ⟨w.heap.size + 1, 1, none⟩) (by simp) (.slice none 0 0)
          have hf0 := hC.d.frozen 0
          have hf1 := hC.d.frozen 1
          have hd0 := hC.d.cell 0
          have hd1 := hC.d.cell 1
          simp only [List.getElem?_toArray, List.getElem?_cons_zero, List.getElem?_cons_succ] at hd0 hd1
          have HWA := Lib.hid hwa
          have HKB := Lib.hid hKB
          have HOW := Lib.hid hown
          have HBB := Lib.hid hbb
          clear hwa gA gB hKA hKB hown hbb hC h1 h2 h3 hK
          gi_wp2_with fail
          refine ⟨by simp, .inl ⟨_, _, rfl, run_takeDeferred HKB.out, ?_⟩⟩
          have hg := grownBy_putObj' ((W.setCell ⟨w.heap.size + 1, 0, none⟩ (.int .i64 cm)).setCell ⟨w.heap.size + 1, 1, none⟩ (.slice none 0 0)) D (.deferred none)
          have hwf := HWA.out.grown hg (by simp; omega)
          have q0 := hwf.cell 0
          have q1 := hwf.cell 1
          simp only [List.getElem?_toArray, List.getElem?_cons_zero, List.getElem?_cons_succ] at q0 q1
          have hown2 := Joins.ownsRow_le (ownsRow_putObj HOW.out (.deferred none) HKB.out rfl) (show w.heap.size ≤ w4.heap.size by omega)
          have hb2 := HBB.out.grown hg (Nat.le_trans (Nat.le_refl _) HBB.out.size) (fun k e => by cases e; omega)
          refine ⟨.agg #[.int .i64 cm, (.slice none 0 0)], ?_, ⟨_, by rw [HCMQ.out], by rw [HYS.out]; exact hown2⟩, hb2⟩
          simp [results, Tryd.results33, go_sem, q0, q1]
        · have hwa : Blk ((W.setCell ⟨w.heap.size + 1, 0, none⟩ (.int .i64 cm)).setCell ⟨w.heap.size + 1, 1, none⟩ (.slice (some ⟨g2, 0, none⟩) (ents ys).length cap2)) (w.heap.size + 1) 25 #[.int .i64 cm, (.slice (some ⟨g2, 0, none⟩) (ents ys).length cap2)] := by
            simpa using (hC.d.set_ 0 (.int .i64 cm)).set_ 1 (.slice (some ⟨g2, 0, none⟩) (ents ys).length cap2)
          have gA := grown_set W (w.heap.size + 1) 0 (.int .i64 cm)
          have gB := grown_set (W.setCell ⟨w.heap.size + 1, 0, none⟩ (.int .i64 cm)) (w.heap.size + 1) 1 (.slice (some ⟨g2, 0, none⟩) (ents ys).length cap2)
          have hKA := (gA.block D (Array.getElem?_eq_some_iff.1 hK).1 (by simp; omega)).trans hK
          have hKB := (gB.block D (Array.getElem?_eq_some_iff.1 hKA).1 (by simp; omega)).trans hKA
          have hown := ownsRow_setCell_below (ownsRow_setCell_below h2 (a := ⟨w.heap.size + 1, 0, none⟩) (by simp; omega) (.int .i64 cm)) (a := ⟨w.heap.size + 1, 1, none⟩) (by simp; omega) (.slice (some ⟨g2, 0, none⟩) (ents ys).length cap2)
          have hbb := (hC.bl.setCell (p := ⟨w.heap.size + 1, 0, none⟩) (by simp) (.int .i64 cm)).setCell (p := ⟨w.heap.size + 1, 1, none⟩) (by simp) (.slice (some ⟨g2, 0, none⟩) (ents ys).length cap2)
          have hf0 := hC.d.frozen 0
          have hf1 := hC.d.frozen 1
          have hd0 := hC.d.cell 0
          have hd1 := hC.d.cell 1
          simp only [List.getElem?_toArray, List.getElem?_cons_zero, List.getElem?_cons_succ] at hd0 hd1
          have HWA := Lib.hid hwa
          have HKB := Lib.hid hKB
          have HOW := Lib.hid hown
          have HBB := Lib.hid hbb
          clear hwa gA gB hKA hKB hown hbb hC h1 h2 h3 hK
          gi_wp2_with fail
          refine ⟨by simp, .inl ⟨_, _, rfl, run_takeDeferred HKB.out, ?_⟩⟩
          have hg := grownBy_putObj' ((W.setCell ⟨w.heap.size + 1, 0, none⟩ (.int .i64 cm)).setCell ⟨w.heap.size + 1, 1, none⟩ (.slice (some ⟨g2, 0, none⟩) (ents ys).length cap2)) D (.deferred none)
          have hwf := HWA.out.grown hg (by simp; omega)
          have q0 := hwf.cell 0
          have q1 := hwf.cell 1
          simp only [List.getElem?_toArray, List.getElem?_cons_zero, List.getElem?_cons_succ] at q0 q1
          have hown2 := Joins.ownsRow_le (ownsRow_putObj HOW.out (.deferred none) HKB.out rfl) (show w.heap.size ≤ w4.heap.size by omega)
          have hb2 := HBB.out.grown hg (Nat.le_trans (Nat.le_refl _) HBB.out.size) (fun k e => by cases e; omega)
          refine ⟨.agg #[.int .i64 cm, (.slice (some ⟨g2, 0, none⟩) (ents ys).length cap2)], ?_, ⟨_, by rw [HCMQ.out], by rw [HYS.out]; exact hown2⟩, hb2⟩
          simp [results, Tryd.results33, go_sem, q0, q1]
end Go.Proofs.YtehhablobfaplaaDoor
