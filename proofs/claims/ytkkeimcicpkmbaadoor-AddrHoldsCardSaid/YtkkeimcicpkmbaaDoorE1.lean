/- Contract of layer 1's iterator Each: it tells what eachF tells, or, where a round says no more, a beginning of it. -/
import Derived.RangeFuncFrom
import Derived.RangeFuncNested
import Derived.RangeFuncBound
import Derived.RangeFuncCalls
import Derived.RangeFuncLeaves
import Derived.Shelf.Abstract
import Derived.Shelf.RegionOpen
import Derived.WalkKit
import Derived.OwnWalkIn
import Derived.TacticsInMore
import Derived.LoopNIn
import Derived.LoopIn
import Derived.RegionIn
import Derived.BigRegionIn
import Derived.Test.YtkkeimcicpkmbaaDoorM3
import Derived.Test.YtkkeimcicpkmbaaDoorShelf
import Derived.Test.YtkkeimcicpkmbaaDoorA0
namespace Go.Proofs.YtkkeimcicpkmbaaDoor
open Go Go.RowKit Go.Shelf Go.Sort
attribute [local go_sem] Oper.semAt_some

def lenOf : Value → Nat | .string b => b.size | _ => 0
def boolOf : Value → Nat | .bool true => 1 | _ => 0

theorem mkSize (l : List UInt8) : (ByteArray.mk l.toArray).size = l.length := by show l.toArray.size = _; simp

/-- A scope through which the run goes without a goto, inside the wide fence. -/
theorem wpInWide_scope {n : Nat} {P : Program} {Q : Exit → Act → World → Prop} {a : Act} {w : World} {c : Code} (h : c.wpIn Fence.wide n P (Exit.noGoto Q) a w) : (Code.scope c).wpIn Fence.wide n P Q a w :=
  wpIn_wide.2 (wp_scope_straight (wpIn_wide.1 h))

set_option maxRecDepth 100000 in
set_option maxHeartbeats 3200000 in
theorem each1_in (n : Nat) (hn : 1 ≤ n) (l Bs n₀ : Nat) (s : ByteArray) (hs : s.size < 4000000000) (hn0 : 0 < n₀) (J Jx : List (Int × Int) → World → Prop)
    (hY : ∀ pre x W, J pre W → pre.length < (eachF (s.size + 1) 0 s.data.toList).length → YieldAt Fence.wide (n - 1) Tryd.prog l #[.int .i64 x.1, .int .u32 x.2] W fun e W' =>
      (e = .returned (.bool true) ∧ J (pre ++ [x]) W' ∧ Below n₀ W W') ∨ (e = .returned (.bool false) ∧ Jx (pre ++ [x]) W'))
    (W : World) (hJ : AbidesFrom W.heap.size J) (hBs : W.cell? ⟨Bs, 0, none⟩ = some (.string s)) (mx : Int) (hm : W.cell? ⟨0, 0, none⟩ = some (.int .i64 mx)) (h0 : J [] W) :
    CallsIn Fence.wide n Tryd.prog 31 #[.func (.yield l) #[] #[], .pointer (some ⟨Bs, 0, none⟩)] W fun e W' => (∃ v, e = .returned v) ∧
      ((∃ ys, ys = eachF (s.size + 1) 0 s.data.toList ∧ J ys W') ∨ (∃ pre, pre <+: eachF (s.size + 1) 0 s.data.toList ∧ Jx pre W')) := by
  generalize hLdef : eachF (s.size + 1) 0 s.data.toList = L at *
  have HLd := Lib.hid hLdef
  clear hLdef
  refine callsIn_of_wp Tryd.func31 rfl trivial ?_ rfl
  simp only [Tryd.ntmps31, List.size_toArray, List.length_cons, List.length_nil, Nat.reduceAdd, Nat.reduceSub, Array.replicate_succ, Array.replicate_zero, List.push_toArray, List.append_toArray, List.nil_append, List.cons_append]
  refine wpInWide_scope ?_
  gi_wp2
  gi_region
  gi_wp2
  refine wpIn_label ?_
  gi_wp2
  have hJ0 : J [] W.drew := hJ [] W W.drew none h0 (grown_drew W none) (fun r e => by cases e)
  gi_loopw [3, 4, 5, 6] (fun a v r m wr => ∃ (k at_ : Nat) (pre : List (Int × Int)) (word rest : ByteArray) (more : Bool), a = .int .i64 at_ ∧ v = .string word ∧ r = .string rest ∧ m = .bool more ∧ at_ + rest.size + boolOf (.bool more) ≤ s.size + 1 ∧ (more = true → rest.size + 1 ≤ k) ∧
      Hid (L = pre ++ (if more = true then eachF k at_ rest.data.toList else [])) ∧ Hid (J pre wr) ∧ wr.cell? ⟨0, 0, none⟩ = some (.int .i64 mx))
    (fun _ _ r m _ => lenOf r + boolOf m)
  case atStart => exact ⟨s.size + 1, 0, [], ⟨#[]⟩, s, true, rfl, rfl, rfl, rfl, by simp only [boolOf]; omega, fun _ => by omega, by rw [← HLd.out]; simp [Hid], hJ0, hm⟩
  case round =>
    clear hJ0 hBs hm h0
    obtain ⟨k, at_, pre, word, rest, more, rfl, rfl, rfl, rfl, hat, hk, HL, HJ, hmx⟩ := hrel
    cases more with
    | false =>
      have hL := HL.out
      simp only [Bool.false_eq_true, if_false, List.append_nil] at hL
      have HL2 := Lib.hid hL
      clear hL HL
      gi_wp2
      rw [Exit.noGoto_normal]
      go_end0
      exact ⟨⟨_, rfl⟩, .inl ⟨pre, HL2.out.symm, HJ.out⟩⟩
    | true =>
      have hk := hk rfl
      obtain ⟨k, rfl⟩ : ∃ j, k = j + 1 := ⟨k - 1, by omega⟩
      have hcut : Calls Tryd.prog 32 #[.string rest, .string ⟨#[32]⟩] wr fun e w' => e = .returned (.tuple #[.string ⟨(cut32 rest.data.toList).1.toArray⟩, .string ⟨(cut32 rest.data.toList).2.1.toArray⟩, .bool (cut32 rest.data.toList).2.2]) ∧ ∃ n, w' = wr.drewN n := by
        have h := Tryd.strings_Cut rest ⟨#[32]⟩ mx wr (by omega) hmx
        rw [show Lib.cut rest.data.toList (ByteArray.mk #[32]).data.toList = cut32 rest.data.toList from cut_eq _] at h
        exact h
      have hL := HL.out
      rw [if_pos rfl, eachF] at hL
      have hyes := cut32_yes rest.data.toList
      have hno := cut32_no rest.data.toList
      have hrl : rest.data.toList.length = rest.size := by simp
      generalize (cut32 rest.data.toList).1 = wd at *
      generalize (cut32 rest.data.toList).2.1 = tl at *
      generalize (cut32 rest.data.toList).2.2 = b at *
      have hsz : wd.length + tl.length + boolOf (.bool b) = rest.size ∧ (b = false → tl = []) := by
        cases b with
        | true =>
          have := congrArg List.length (hyes rfl)
          rw [hrl, List.length_append, List.length_cons] at this
          exact ⟨by simp only [boolOf]; omega, fun h => by cases h⟩
        | false =>
          have h := hno rfl
          have := congrArg List.length h.1
          rw [hrl] at this
          exact ⟨by rw [h.2]; simp only [boolOf, List.length_nil]; omega, fun _ => h.2⟩
      have hparse := parse_any ⟨wd.toArray⟩
      have HCut := Lib.hid hcut
      clear hcut hyes hno hrl HL
      rcases parsed_cases wd with ⟨i, _, hpar⟩ | ⟨a, _, _, hpar, _⟩
      · have hend : parseEnd (ByteArray.mk wd.toArray).data.toList = .returned (.tuple #[.int .u32 0, .int .i64 i, .int .i64 110]) := by
          show parseEnd wd = _
          unfold parseEnd; rw [hpar]
        rw [hend] at hparse
        rw [hpar, if_neg (by simp), List.append_nil] at hL
        have HP := Lib.hid hparse
        have HL2 := Lib.hid hL
        clear hparse hend hpar hL
        gi_wp2_with fail
        refine ⟨trivial, ?_⟩
        refine (callsIn_wide.2 HCut.out).mono ?_
        rintro e w1 ⟨rfl, nd, rfl⟩
        gi_wp2_with fail
        refine ⟨trivial, ?_⟩
        refine (callsIn_wide.2 (HP.out _)).mono ?_
        rintro e w2 ⟨rfl, hb2⟩
        have hJ2 : J pre w2 := hJ pre (wr.drewN nd) w2 none (hJ pre wr (wr.drewN nd) none HJ.out ⟨rfl, rfl, rfl, Nat.le_refl _, fun _ _ _ => rfl⟩ (fun r e => by cases e)) (grown_below hb2 none) (fun r e => by cases e)
        have HJ2 := Lib.hid hJ2
        clear hb2 hJ2
        gi_wp2
        rw [Exit.noGoto_normal]
        go_end0
        exact ⟨⟨_, rfl⟩, .inl ⟨pre, HL2.out.symm, HJ2.out⟩⟩
      · have hend : parseEnd (ByteArray.mk wd.toArray).data.toList = .returned (.tuple #[.int .u32 a, .int .i64 wd.length, .int .i64 0]) := by
          show parseEnd wd = _
          unfold parseEnd; rw [hpar]
        rw [hend] at hparse
        rw [hpar, if_pos rfl] at hL
        have HP := Lib.hid hparse
        have HL2 := Lib.hid hL
        clear hparse hend hpar hL
        gi_wp2_with fail
        refine ⟨trivial, ?_⟩
        refine (callsIn_wide.2 HCut.out).mono ?_
        rintro e w1 ⟨rfl, nd, rfl⟩
        gi_wp2_with fail
        refine ⟨trivial, ?_⟩
        refine (callsIn_wide.2 (HP.out _)).mono ?_
        rintro e w2 ⟨rfl, hb2⟩
        have hJ2 : J pre w2 := hJ pre (wr.drewN nd) w2 none (hJ pre wr (wr.drewN nd) none HJ.out ⟨rfl, rfl, rfl, Nat.le_refl _, fun _ _ _ => rfl⟩ (fun r e => by cases e)) (grown_below hb2 none) (fun r e => by cases e)
        have hmx2 : w2.cell? ⟨0, 0, none⟩ = some (.int .i64 mx) := (hb2.cell (p := ⟨0, 0, none⟩) (World.block_lt_of_cell? _ _ hmx)).trans hmx
        obtain ⟨fn, tmps, assign, body, hy, hR⟩ := hY pre ((at_ : Int), a) w2 hJ2 (by rw [HL2.out]; simp)
        dsimp only at hy
        have HR := Lib.hid hR
        have HM2 := Lib.hid hmx2
        clear hb2 hJ2 hmx2 hmx hR
        gi_wp2
        refine HR.out.mono ?_
        rintro e W3 (⟨rfl, hJ3, hk3⟩ | ⟨rfl, hJx3⟩)
        · have hm3 : W3.cell? ⟨0, 0, none⟩ = some (.int .i64 mx) := (hk3.cell (p := ⟨0, 0, none⟩) hn0).trans HM2.out
          have hL3 : L = (pre ++ [((at_ : Int), a)]) ++ (if b = true then eachF k (at_ + wd.length + 1) tl else []) := by rw [HL2.out]; simp
          have HL3 := Lib.hid hL3
          have HJ3 := Lib.hid hJ3
          have HM3 := Lib.hid hm3
          have hb1 : boolOf (.bool b) ≤ 1 := by cases b <;> simp [boolOf]
          obtain ⟨hsz1, hsz2⟩ := hsz
          have hat2 : at_ + wd.length + 1 + tl.length + boolOf (.bool b) ≤ s.size + 1 ∧ (b = true → tl.length + 1 ≤ k) := by
            simp only [boolOf] at hat
            exact ⟨by omega, fun h => by subst h; simp only [boolOf] at hsz1; omega⟩
          have HA := Lib.hid hat2
          have hwl : wd.length ≤ s.size := by omega
          clear hk3 hm3 hL3 hJ3 hy hat2 hsz2
          gi_wp2
          go_roundw
          case rel => exact ⟨k, at_ + wd.length + 1, pre ++ [((at_ : Int), a)], ⟨wd.toArray⟩, ⟨tl.toArray⟩, b, by congr 1, rfl, rfl, rfl, by rw [mkSize]; exact HA.out.1, fun h => by rw [mkSize]; exact HA.out.2 h, HL3, HJ3, HM3.out⟩
          case measure =>
            have e1 : lenOf (.string ⟨tl.toArray⟩) = tl.length := mkSize tl
            rw [e1]
            simp only [lenOf, boolOf] at hsz1 ⊢
            omega
        · gi_wp2
          rw [Exit.noGoto_normal]
          go_end0
          exact ⟨⟨_, rfl⟩, .inr ⟨pre ++ [((at_ : Int), a)], ⟨_, by rw [HL2.out, List.append_assoc]; rfl⟩, hJx3⟩⟩
end Go.Proofs.YtkkeimcicpkmbaaDoor
