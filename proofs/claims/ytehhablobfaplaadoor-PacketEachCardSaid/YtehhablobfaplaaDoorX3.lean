/- Layer 5's reference: Bytes, over what layer 4's does. -/
import Derived.Test.YtehhablobfaplaaDoorX2
import Derived.Lib.SmallJoins
namespace Go.Proofs.YtehhablobfaplaaDoor
open Go Go.RowKit Go.Shelf Go.Sort
attribute [local go_sem] Oper.semAt_some

/-- An own slice stays through a call (row_past of XE6). -/
theorem row_past5 {w w' : World} {base : Nat} {e : TypeId} {size : Nat} {v : Value} {n : Nat} {xs : List Value} (h : w.ownsRow base e size v n xs) (hb : Below w.heap.size w w') : w'.ownsRow base e size v n xs := by
  refine ⟨h.1, ?_⟩
  rcases h.2 with hn | ⟨g, cap, cur, rfl, hb', hgg, rest⟩
  · exact .inl hn
  · exact .inr ⟨g, cap, cur, rfl, hb', (hb.block g (Array.getElem?_eq_some_iff.1 hgg).1).trans hgg, rest⟩
theorem Blk.ownRow4 {w : World} {base g : Nat} {a b c d : Int} (h : Blk w g 5 #[.int .u8 a, .int .u8 b, .int .u8 c, .int .u8 d]) (hb : base ≤ g) : OwnB base w (.slice (some ⟨g, 0, none⟩) 4 4) [a, b, c, d] :=
  ⟨by simp, .inr ⟨g, 4, _, rfl, hb, h, Nat.le_refl _, by unfold maxLen; omega, by simp, by simp⟩⟩
set_option maxRecDepth 100000 in
set_option maxHeartbeats 3200000 in
theorem refBytes5_of (prB4 : ∀ (e : Ent), e.Ok → rightE e → ∀ w : World, Calls Tryd.prog 49 #[entV e] w fun r w' => ∃ v, r = .returned v ∧ OwnB w.heap.size w' v (bytesE e) ∧ Below w.heap.size w w')
    (c : Int) (hc : comD c) (A : Option Addr) (ca : Nat) (l : List Ent) (hn : l.length ≤ 1000) (hr : rightL l) (ho : OkL l) (w : World) (hA : EntS w A l) :
    Calls Tryd.prog 29 #[datV c A l.length ca] w fun e w' => ∃ v, e = .returned v ∧ OwnB w.heap.size w' v (bytesD ⟨c, l⟩) ∧ Below w.heap.size w w' := by
  have hw : IntKind.u8.wrap c = c := by rcases hc with rfl | rfl <;> rfl
  have hb0 : Below w.heap.size w (w.alloc (.cells #[.int .i64 c, .slice A l.length ca] 25)) := (Below.refl _ _).alloc (Nat.le_refl _) _
  have hbl : Blk (w.alloc (.cells #[.int .i64 c, .slice A l.length ca] 25)) w.heap.size 25 #[.int .i64 c, .slice A l.length ca] := Blk.new _ _ _
  have hs0 : (w.alloc (.cells #[.int .i64 c, .slice A l.length ca] 25)).heap.size = w.heap.size + 1 := by simp
  have HHA := Lib.hid (hA.below hb0)
  have HB0 := Lib.hid hb0
  have HBL := Lib.hid hbl
  have HRR := Lib.hid hr
  have HOO := Lib.hid ho
  have hidB4 := Lib.hid prB4
  have hk0 := hbl.cell 0
  simp only [List.getElem?_toArray, List.getElem?_cons_zero] at hk0
  clear hb0 hbl hA hr ho prB4 hc
  go_enter Tryd.func29, Tryd.ntmps29
  go_wp2_with fail
  generalize (w.alloc (.cells #[.int .i64 c, .slice A l.length ca] 25)) = W0 at *
  go_loopw [3, 4] (fun v a wr => ∃ j : Nat, j ≤ l.length ∧ a = .int .i64 j ∧ Hid (OwnB (w.heap.size + 1) wr v (c :: 2 :: 0 :: 0 :: flatE (l.take j))) ∧ Hid (Below (w.heap.size + 1) W0 wr)) (fun _ a _ => l.length - (intOf a).toNat)
  case atStart =>
    refine ⟨0, by omega, rfl, ?_, ?_⟩
    · have h1 := (Blk.new W0 5 #[.int .u8 c, .int .u8 2, .int .u8 0, .int .u8 0]).ownRow4 (base := w.heap.size + 1) (by omega)
      rw [hs0] at h1
      exact h1
    · exact (Below.refl _ _).alloc (by omega) _
  case round =>
    obtain ⟨j, hj, rfl, HO, HB⟩ := hrel
    have hk1 := (HBL.out.below HB.out (by omega)).cell 1
    simp only [List.getElem?_toArray, List.getElem?_cons_zero, List.getElem?_cons_succ] at hk1
    by_cases hlt : j < l.length
    · have jz : (j : Int) < (l.length : Int) := by omega
      obtain ⟨b, o, rfl, hbl, d0, d1, d2, d3, d4, d5⟩ := (HHA.out.below (HB.out.mono (by omega))).at hlt
      have hcall := fun W => hidB4.out (l[j]'hlt) (HOO.out _ (List.getElem_mem hlt)) (HRR.out _ (List.getElem_mem hlt)) W
      have htk : l.take (j + 1) = l.take j ++ [l[j]'hlt] := by rw [List.take_add_one, List.getElem?_eq_getElem hlt]; rfl
      generalize (l[j]'hlt) = x at *
      obtain ⟨f, t, a, m, n, z⟩ := x
      have HC := Lib.hid hcall
      have HTK := Lib.hid htk
      clear hcall htk
      go_wp2_with fail
      refine (HC.out _).mono ?_
      rintro e w1 ⟨v1, rfl, ho1, hb1⟩
      obtain ⟨q, cap, rfl, hcap, hy, hbase⟩ := OwnB.byS ho1
      have hO1 := Lib.hid (row_past5 HO.out hb1)
      have hB1 := Lib.hid (HB.out.trans (hb1.mono (by have := HB.out.size; omega)))
      have HY := Lib.hid hy
      have K1 : (c :: 2 :: 0 :: 0 :: flatE (l.take j)).length + (bytesE ⟨f, t, a, m, n, z⟩).length ≤ 1000000 := by
        simp only [List.length_cons, flatE_len, bytesE_len, List.length_take]
        omega
      have K2 : w.heap.size + 1 ≤ w1.heap.size := by have := hB1.out.size; omega
      have HEQ := Lib.hid (show (c :: 2 :: 0 :: 0 :: flatE (l.take j)) ++ bytesE ⟨f, t, a, m, n, z⟩ = c :: 2 :: 0 :: 0 :: flatE (l.take (j + 1)) by rw [HTK.out, flatE_snoc]; rfl)
      generalize (c :: 2 :: 0 :: 0 :: flatE (l.take j)) = zs at *
      generalize bytesE ⟨f, t, a, m, n, z⟩ = ys at *
      clear ho1 hb1 hy HO HB HC d0 d1 d2 d3 d4 d5
      go_wp2_with (first | (at_builtin; refine wpList_app_bytes (v := u3) (xs := zs) (p := q) (ys := ys) (c := cap) rfl _ _ rfl (w.heap.size + 1) rfl hO1.out rfl HY.out K1 K2 ?_))
      intro v2 w2 o2 g2 _
      have HB2 := Lib.hid (own_below K2 hB1.out hO1.out g2)
      have HO2 : Hid (OwnB (w.heap.size + 1) w2 v2 (c :: 2 :: 0 :: 0 :: flatE (l.take (j + 1)))) := by
        have h := o2
        rw [HEQ.out] at h
        exact h
      clear o2 g2 hO1 hB1 HY HEQ
      go_wp2_with fail
      go_roundw
      case rel => exact ⟨j + 1, by omega, by go_num, HO2, HB2⟩
      case measure => simp [intOf]; omega
    · have jz : ¬ (j : Int) < (l.length : Int) := by omega
      have hj2 : j = l.length := by omega
      have ho := HO.out
      rw [hj2, List.take_length] at ho
      have HO2 := Lib.hid (Joins.ownsRow_le ho (Nat.le_succ _))
      have HB2 := Lib.hid (HB0.out.trans (HB.out.mono (Nat.le_succ _)))
      clear ho HO HB
      go_wp2_with fail
      go_ret
      exact ⟨_, rfl, HO2.out, HB2.out⟩

/-- How Encode ends. -/
def EncY (w : World) (d : Dat) (e : Ending) (w' : World) : Prop := if encNo d = 0 then ∃ v, e = .returned (.tuple #[v, .int .i64 0]) ∧ OwnB w.heap.size w' v (bytesD d) else e = .returned (.tuple #[.slice none 0 0, .int .i64 (encNo d)])
theorem EncY.no {w w' : World} {d : Dat} {k : Int} (h : encNo d = k) (hk : ¬ k = 0) : EncY w d (.returned (.tuple #[.slice none 0 0, .int .i64 k])) w' := by
  subst h
  unfold EncY
  rw [if_neg hk]
theorem EncY.yes {w w' : World} {d : Dat} {v : Value} (h : encNo d = 0) (ho : OwnB w.heap.size w' v (bytesD d)) : EncY w d (.returned (.tuple #[v, .int .i64 0])) w' := by
  unfold EncY
  rw [if_pos h]
  exact ⟨v, rfl, ho⟩

set_option maxRecDepth 100000 in
set_option maxHeartbeats 3200000 in
theorem refEncode5_of (prB4 : ∀ (e : Ent), e.Ok → rightE e → ∀ w : World, Calls Tryd.prog 49 #[entV e] w fun r w' => ∃ v, r = .returned v ∧ OwnB w.heap.size w' v (bytesE e) ∧ Below w.heap.size w w')
    (c : Int) (A : Option Addr) (ca : Nat) (l : List Ent) (hn : l.length ≤ 1000) (ho : OkL l) (w : World) (hA : EntS w A l) :
    Calls Tryd.prog 10 #[datV c A l.length ca] w fun e w' => EncY w ⟨c, l⟩ e w' ∧ Below w.heap.size w w' := by
  have hb0 : Below w.heap.size w (w.alloc (.cells #[.int .i64 c, .slice A l.length ca] 25)) := (Below.refl _ _).alloc (Nat.le_refl _) _
  have hbl : Blk (w.alloc (.cells #[.int .i64 c, .slice A l.length ca] 25)) w.heap.size 25 #[.int .i64 c, .slice A l.length ca] := Blk.new _ _ _
  have hs0 : (w.alloc (.cells #[.int .i64 c, .slice A l.length ca] 25)).heap.size = w.heap.size + 1 := by simp
  have HHA := Lib.hid (hA.below hb0)
  have HB0 := Lib.hid hb0
  have HBL := Lib.hid hbl
  have HOO := Lib.hid ho
  have hidB4 := Lib.hid prB4
  have HCM := Lib.hid (fun W => refCom5_any c W)
  clear hb0 hbl hA ho prB4
  by_cases hc : comD c
  · have hd : decide (comD c) = true := by simp [hc]
    rw [hd] at HCM
    by_cases h25 : 25 < l.length
    · have hz : 25 < (l.length : Int) := by omega
      have he : encNo ⟨c, l⟩ = 3 := by unfold encNo; rw [if_neg (not_not_intro hc), if_pos h25]
      have HE := Lib.hid he
      clear he hd
      go_enter Tryd.func10, Tryd.ntmps10
      go_wp2_with fail
      generalize (w.alloc (.cells #[.int .i64 c, .slice A l.length ca] 25)) = W0 at *
      refine (HCM.out _).mono ?_
      rintro e w1 ⟨rfl, hb⟩
      have HB1 := Lib.hid (HB0.out.trans (hb.mono (by omega)))
      have hk1 := (HBL.out.below hb (by omega)).cell 1
      simp only [List.getElem?_toArray, List.getElem?_cons_zero, List.getElem?_cons_succ] at hk1
      clear hb
      go_wp2_with fail
      refine ⟨rfl, .tuple #[.slice none 0 0, .int .i64 3], ?_, EncY.no HE.out (by decide), HB1.out⟩
      simp [results, Tryd.f10, go_sem]
    · have hz : ¬ 25 < (l.length : Int) := by omega
      have he : encNo ⟨c, l⟩ = if rightL l then 0 else 2 := by unfold encNo; rw [if_neg (not_not_intro hc), if_neg h25]
      have HE := Lib.hid he
      have HCC := Lib.hid hc
      clear he hd hc
      go_enter Tryd.func10, Tryd.ntmps10
      go_wp2_with fail
      generalize (w.alloc (.cells #[.int .i64 c, .slice A l.length ca] 25)) = W0 at *
      refine (HCM.out _).mono ?_
      rintro e w1 ⟨rfl, hb⟩
      have HB1 := Lib.hid hb
      have hk1 := (HBL.out.below hb (by omega)).cell 1
      simp only [List.getElem?_toArray, List.getElem?_cons_zero, List.getElem?_cons_succ] at hk1
      clear hb
      go_wp2_with fail
      go_loopw [4] (fun a wr => ∃ j : Nat, j ≤ l.length ∧ a = .int .i64 j ∧ Hid (∀ i (hi : i < l.length), i < j → rightE (l[i]'hi)) ∧ Hid (Below W0.heap.size W0 wr)) (fun a _ => l.length - (intOf a).toNat)
      case atStart => exact ⟨0, by omega, rfl, Lib.hid (fun i _ h => by omega), HB1⟩
      case round =>
        obtain ⟨j, hj, rfl, HZ, HB⟩ := hrel
        clear hk1
        have hk0 := (HBL.out.below HB.out (by omega)).cell 0
        have hk1 := (HBL.out.below HB.out (by omega)).cell 1
        simp only [List.getElem?_toArray, List.getElem?_cons_zero, List.getElem?_cons_succ] at hk0 hk1
        by_cases hlt : j < l.length
        · have jz : (j : Int) < (l.length : Int) := by omega
          obtain ⟨b, o, rfl, hbl, d0, d1, d2, d3, d4, d5⟩ := (HHA.out.below HB.out).at hlt
          by_cases hre : rightE (l[j]'hlt)
          · have hcall : ∀ W : World, Calls Tryd.prog 28 #[entV (l[j]'hlt)] W fun e w' => e = .returned (.bool true) ∧ Below W.heap.size W w' := fun W => (refRight4_any (l[j]'hlt) W).mono (by rintro e w' ⟨rfl, h⟩; exact ⟨by simp [hre], h⟩)
            have HZ2 : Hid (∀ i (hi : i < l.length), i < j + 1 → rightE (l[i]'hi)) := Lib.hid (fun i hi hij => by
              rcases Nat.lt_or_ge i j with h | h
              · exact HZ.out i hi h
              · obtain rfl : i = j := by omega
                exact hre)
            clear hre
            generalize (l[j]'hlt) = x at *
            obtain ⟨f, t, a, m, n, z⟩ := x
            have HC := Lib.hid hcall
            clear hcall
            go_wp2_with fail
            refine (HC.out _).mono ?_
            rintro e w2 ⟨rfl, hb⟩
            have HB2 := Lib.hid (HB.out.trans (hb.mono HB.out.size))
            clear hb HB HC d0 d1 d2 d3 d4 d5 hk0 hk1
            go_wp2_with fail
            go_roundw
            case rel => exact ⟨j + 1, by omega, by go_num, HZ2, HB2⟩
            case measure => simp [intOf]; omega
          · have hcall : ∀ W : World, Calls Tryd.prog 28 #[entV (l[j]'hlt)] W fun e w' => e = .returned (.bool false) ∧ Below W.heap.size W w' := fun W => (refRight4_any (l[j]'hlt) W).mono (by rintro e w' ⟨rfl, h⟩; exact ⟨by simp [hre], h⟩)
            have hno : ¬ rightL l := fun h => hre (h _ (List.getElem_mem hlt))
            have HNO := Lib.hid hno
            clear hre hno
            generalize (l[j]'hlt) = x at *
            obtain ⟨f, t, a, m, n, z⟩ := x
            have HC := Lib.hid hcall
            clear hcall
            go_wp2_with fail
            refine (HC.out _).mono ?_
            rintro e w2 ⟨rfl, hb⟩
            have HB2 := Lib.hid (HB0.out.trans ((HB.out.trans (hb.mono HB.out.size)).mono (by omega)))
            clear hb HB HC d0 d1 d2 d3 d4 d5 hk0 hk1
            go_wp2_with fail
            refine ⟨rfl, .tuple #[.slice none 0 0, .int .i64 2], ?_, EncY.no (HE.out.trans (if_neg HNO.out)) (by decide), HB2.out⟩
            simp [results, Tryd.f10, go_sem]
        · have jz : ¬ (j : Int) < (l.length : Int) := by omega
          have hrr : rightL l := fun x hx => by
            obtain ⟨i, hi, rfl⟩ := List.getElem_of_mem hx
            exact HZ.out i hi (by omega)
          have HW := Lib.hid (refBytes5_of hidB4.out c HCC.out A ca l hn hrr HOO.out _ (HHA.out.below HB.out))
          have HRL := Lib.hid hrr
          clear hrr
          go_wp2_with fail
          refine HW.out.mono ?_
          rintro e w2 ⟨v, rfl, ho2, hb⟩
          have HB2 := Lib.hid (HB0.out.trans ((HB.out.trans (hb.mono HB.out.size)).mono (by omega)))
          have HO2 := Lib.hid (Joins.ownsRow_le ho2 (show w.heap.size ≤ _ by have := HB.out.size; omega))
          clear ho2 hb HB HW hk0 hk1
          go_wp2_with fail
          refine ⟨rfl, .tuple #[v, .int .i64 0], ?_, EncY.yes (HE.out.trans (if_pos HRL.out)) HO2.out, HB2.out⟩
          simp [results, Tryd.f10, go_sem]
  · have hd : decide (comD c) = false := by simp [hc]
    rw [hd] at HCM
    have he : encNo ⟨c, l⟩ = 2 := by unfold encNo; rw [if_pos hc]
    have HE := Lib.hid he
    clear he hd
    go_enter Tryd.func10, Tryd.ntmps10
    go_wp2_with fail
    refine (HCM.out _).mono ?_
    rintro e w1 ⟨rfl, hb⟩
    have HB1 := Lib.hid (HB0.out.trans (hb.mono HB0.out.size))
    clear hb
    go_wp2_with fail
    refine ⟨rfl, .tuple #[.slice none 0 0, .int .i64 2], ?_, EncY.no HE.out (by decide), HB1.out⟩
    simp [results, Tryd.f10, go_sem]
end Go.Proofs.YtehhablobfaplaaDoor
