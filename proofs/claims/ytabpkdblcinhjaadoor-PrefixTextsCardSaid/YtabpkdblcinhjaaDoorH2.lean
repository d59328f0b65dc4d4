/- Contract of layer 2's iterator Around: it tells the prefixes around one, or, where a round says no more, a beginning of them. -/
import Derived.RangeFuncFrom
import Derived.RangeFuncNested
import Derived.RangeFuncBound
import Derived.RangeFuncCalls
import Derived.RangeFuncLeaves
import Derived.Shelf.Abstract
import Derived.Shelf.RegionOpen
import Derived.WalkKit
import Derived.OwnWalkIn
import Derived.TacticsInMore
import Derived.LoopNIn
import Derived.LoopIn
import Derived.RegionIn
import Derived.BigRegionIn
import Derived.Test.YtabpkdblcinhjaaDoorR1
import Derived.Test.YtabpkdblcinhjaaDoorH1
namespace Go.Proofs.YtabpkdblcinhjaaDoor
open Go Go.RowKit Go.Shelf Go.Sort
attribute [local go_sem] Oper.semAt_some

/-- An object of cells of one type. -/
def markT (T : TypeId) : Obj → Bool
  | .cells _ t _ => t == T
  | _ => false
/-- What a round keeps: the block of what the iterator goes over, and every prefix under way. -/
structure KpW (Bs : Nat) (W W' : World) : Prop where
  box : W'.heap[Bs]? = W.heap[Bs]?
  walks : ∀ (k : Nat) (cs : Array Value) (z : Nat × Nat), W.heap[k]? = some (.cells cs 81 z) → W'.heap[k]? = some (.cells cs 81 z)
theorem KpW.refl (Bs : Nat) (W : World) : KpW Bs W W := ⟨rfl, fun _ _ _ e => e⟩
theorem KpW.trans {Bs : Nat} {A B C : World} (h : KpW Bs A B) (k : KpW Bs B C) : KpW Bs A C := ⟨k.box.trans h.box, fun i cs z e => k.walks i cs z (h.walks i cs z e)⟩
theorem KpW.put {Bs : Nat} {w : World} (hn : Bs < w.heap.size) (W : World) (l : Nat) (o o' : Obj) (hl : w.heap.size ≤ l) (h : W.heap[l]? = some o) (hc : o.isCells = false) : KpW Bs W (W.putObj l o') := by
  refine ⟨World.putObj_heap_other (by omega), fun k cs z e => ?_⟩
  refine (World.putObj_heap_other (fun e2 => ?_)).trans e
  subst e2
  rw [h] at e
  cases e
  simp [Obj.isCells] at hc
theorem KpW.grown {Bs : Nat} {W W' : World} {row : Option Nat} (hg : W.grownBy W' row) (hn : Bs < W.heap.size) (hne : row ≠ some Bs) (hr : ∀ k, row = some k → ∀ cs z, W.heap[k]? ≠ some (.cells cs 81 z)) : KpW Bs W W' :=
  ⟨hg.block Bs hn (fun e => hne e.symm), fun k cs z e => (hg.block k (Array.getElem?_eq_some_iff.1 e).1 (fun e2 => hr k e2.symm cs z e)).trans e⟩
theorem KpW.calls {Bs : Nat} {W W' : World} (h : Below W.heap.size W W') (hn : Bs < W.heap.size) : KpW Bs W W' :=
  ⟨h.block Bs hn, fun k _ _ e => (h.block k (Array.getElem?_eq_some_iff.1 e).1).trans e⟩
theorem KpW.cell {Bs : Nat} {W W' : World} (h : KpW Bs W W') (i : Nat) : W'.cell? ⟨Bs, i, none⟩ = W.cell? ⟨Bs, i, none⟩ := by
  unfold World.cell?; rw [h.box]

/-- The lengths of the prefixes around one. -/
def arL (x m : Int) : List Nat := if right x m then List.range (m.toNat + 1) else []
def arE (x : Int) (k : Nat) : Array Value := #[.int .i64 k, .agg #[.int .u32 (cutTo x k), .int .i64 k]]
/-- How far a prefix under way has come. -/
def lenAt (w : World) (g : Nat) : Nat := match w.cell? ⟨g, 1, none⟩ with
  | some (.int _ n) => n.toNat
  | _ => 0
theorem lenAt_walk {w : World} {g : Nat} {x m : Int} {k : Nat} (h : Blk w g 81 (walkObj x m k)) : lenAt w g = k := by
  unfold lenAt; rw [h.cell 1]; rfl

set_option maxRecDepth 100000 in
set_option maxHeartbeats 3200000 in
theorem around1_in (n : Nat) (hn : 1 ≤ n) (l Bs : Nat) (x m : Int) (x0 : 0 ≤ x) (x1 : x < 4294967296) (J Jx : List Nat → World → Prop)
    (hY : ∀ pre k W, J pre W → pre.length < (arL x m).length → YieldAt Fence.wide (n - 1) Tryd.prog l (arE x k) W fun e W' =>
      (e = .returned (.bool true) ∧ J (pre ++ [k]) W' ∧ KpW Bs W W') ∨ (e = .returned (.bool false) ∧ Jx (pre ++ [k]) W'))
    (W : World) (hJ : AbidesM (markT 81) W.heap.size J) (c0 : W.cell? ⟨Bs, 0, none⟩ = some (.int .u32 x)) (c1 : W.cell? ⟨Bs, 1, none⟩ = some (.int .i64 m)) (h0 : J [] W) :
    CallsIn Fence.wide n Tryd.prog 38 #[.func (.yield l) #[] #[], .pointer (some ⟨Bs, 0, none⟩)] W fun e W' => (∃ v, e = .returned v) ∧
      ((∃ ys, ys = arL x m ∧ J ys W') ∨ (∃ pre, pre <+: arL x m ∧ Jx pre W')) := by
  by_cases hr : right x m
  · have hc : chk x m = 0 := if_pos hr
    have HC := Lib.hid hc
    have hL : arL x m = List.range (m.toNat + 1) := if_pos hr
    have HL := Lib.hid hL
    have hm0 := hr.1
    have hm1 := hr.2.1
    obtain ⟨q, rfl⟩ : ∃ q : Nat, m = q := ⟨m.toNat, by omega⟩
    clear hc hL hr
    refine callsIn_of_wp Tryd.func38 rfl trivial ?_ rfl
    simp only [Tryd.ntmps38, List.size_toArray, List.length_cons, List.length_nil, Nat.reduceAdd, Nat.reduceSub, Array.replicate_succ, Array.replicate_zero, List.push_toArray, List.append_toArray, List.nil_append, List.cons_append]
    gi_wp2_with fail
    refine ⟨trivial, ?_⟩
    refine (callsIn_wide.2 (check_any x q x0 x1 _)).mono ?_
    rw [HC.out]
    rintro e w1 ⟨rfl, hb⟩
    have c0' := (hb.cell (p := ⟨Bs, 0, none⟩) (World.block_lt_of_cell? _ _ c0)).trans c0
    have c1' := (hb.cell (p := ⟨Bs, 1, none⟩) (World.block_lt_of_cell? _ _ c1)).trans c1
    have hJ1 : J [] w1 := hJ [] W w1 h0 (.calls hb)
    have hz1 := hb.size
    have HJ1 := Lib.hid hJ1
    clear hb c0 c1 hJ1 h0
    gi_wp2_with fail
    have hz0 : cutTo x 0 = 0 := by unfold cutTo; rw [top_zero x x0 x1]; simp
    have hb2 : Blk (w1.alloc (.cells #[.int .u32 0, .int .i64 0, .int .u32 x, .int .i64 (q : Int)] 81)) w1.heap.size 81 (walkObj x q 0) := by
      have := Blk.new w1 81 #[.int .u32 0, .int .i64 0, .int .u32 x, .int .i64 (q : Int)]
      unfold walkObj; rw [hz0]; exact this
    have hJ2 : J [] (w1.alloc (.cells #[.int .u32 0, .int .i64 0, .int .u32 x, .int .i64 (q : Int)] 81)) := hJ [] _ _ HJ1.out (.grow (World.grownBy_alloc w1 _ none))
    have hbs := World.block_lt_of_cell? _ _ c0'
    have c1'' : (w1.alloc (.cells #[.int .u32 0, .int .i64 0, .int .u32 x, .int .i64 (q : Int)] 81)).cell? ⟨Bs, 1, none⟩ = some (.int .i64 q) := (((Below.refl w1.heap.size w1).alloc (Nat.le_refl _) _).cell (p := ⟨Bs, 1, none⟩) hbs).trans c1'
    have hge : W.heap.size ≤ w1.heap.size := hz1
    generalize (w1.alloc (.cells #[.int .u32 0, .int .i64 0, .int .u32 x, .int .i64 (q : Int)] 81)) = W2 at *
    generalize w1.heap.size = g at *
    have HB2 := Lib.hid hb2
    have HJ2 := Lib.hid hJ2
    have HC2 := Lib.hid c1''
    clear hz0 hb2 hJ2 c0' c1' hz1 HJ1 c1''
    gi_loopw [12] (fun _ wr => ∃ k : Nat, k ≤ q ∧ Hid (Blk wr g 81 (walkObj x q k)) ∧ Hid (J (List.range k) wr) ∧ Hid (wr.cell? ⟨Bs, 1, none⟩ = some (.int .i64 (q : Int))))
      (fun _ wr => q - lenAt wr g)
    case atStart => exact ⟨0, by omega, HB2, HJ2, HC2⟩
    case round =>
      clear HB2 HJ2 HC2
      obtain ⟨k, hk, HB3, HJ3, HC3⟩ := hrel
      have b0 := HB3.out.cell 0
      have b1 := HB3.out.cell 1
      simp only [walkObj, List.getElem?_toArray, List.getElem?_cons_zero, List.getElem?_cons_succ] at b0 b1
      obtain ⟨fn, tmps, assign, body, hy, hR⟩ := hY (List.range k) k wr HJ3.out (by rw [HL.out]; simp; omega)
      simp only [arE] at hy
      have HR := Lib.hid hR
      clear hR
      gi_wp2
      refine HR.out.mono ?_
      rintro e W3 (⟨rfl, hJ3, hk3⟩ | ⟨rfl, hJx3⟩)
      · have hb3 : Blk W3 g 81 (walkObj x q k) := hk3.walks g _ _ HB3.out
        have hc3 : W3.cell? ⟨Bs, 1, none⟩ = some (.int .i64 (q : Int)) := (hk3.cell 1).trans HC3.out
        have d1 := hb3.cell 1
        simp only [walkObj, List.getElem?_toArray, List.getElem?_cons_zero, List.getElem?_cons_succ] at d1
        have hrk : List.range k ++ [k] = List.range (k + 1) := List.range_succ.symm
        rw [hrk] at hJ3
        have HB4 := Lib.hid hb3
        have HJ4 := Lib.hid hJ3
        have hl1 := lenAt_walk HB3.out
        have HL1 := Lib.hid hl1
        clear hb3 hJ3 hk3 hrk hl1 hy b0 b1 HB3 HJ3 HC3
        by_cases hlt : k < q
        · gi_wp2
          refine ⟨trivial, ?_⟩
          refine (callsIn_wide.2 (grow_any g x q k (by omega) x0 x1 W3 HB4.out)).mono ?_
          rintro e w5 ⟨⟨v, rfl⟩, hb5, hg5⟩
          have hJ5 : J (List.range (k + 1)) w5 := hJ _ W3 w5 HJ4.out ⟨some g, hg5, fun r e => by cases e; exact ⟨hge, _, HB4.out, by simp [markT]⟩⟩
          have hc5 : w5.cell? ⟨Bs, 1, none⟩ = some (.int .i64 (q : Int)) := by
            have hne : Bs ≠ g := by omega
            have := hg5.block Bs (World.block_lt_of_cell? _ _ hc3) (by simpa using hne)
            rw [← hc3]; unfold World.cell?; rw [this]
          have hl5 := lenAt_walk hb5
          have HL5 := Lib.hid hl5
          have HB5 := Lib.hid hb5
          have HJ5 := Lib.hid hJ5
          have HC5 := Lib.hid hc5
          clear hb5 hg5 hJ5 hc5 hl5 d1 hc3
          gi_wp2
          go_roundw
          case rel => exact ⟨k + 1, by omega, HB5, HJ5, HC5⟩
          case measure => rw [HL5.out, HL1.out]; omega
        · obtain rfl : k = q := by omega
          gi_wp2
          go_end0
          exact ⟨⟨_, rfl⟩, .inl ⟨_, by rw [HL.out]; simp, HJ4.out⟩⟩
      · gi_wp2
        go_end0
        refine ⟨⟨_, rfl⟩, .inr ⟨List.range k ++ [k], ?_, hJx3⟩⟩
        rw [HL.out, ← List.range_succ]
        refine ⟨(List.range ((q : Int).toNat + 1)).drop (k + 1), ?_⟩
        have : List.range (k + 1) = (List.range ((q : Int).toNat + 1)).take (k + 1) := by rw [List.take_range]; congr 1; omega
        rw [this, List.take_append_drop]
  · have hc : chk x m = 2 := if_neg hr
    have HC := Lib.hid hc
    have hL : arL x m = [] := if_neg hr
    have HL := Lib.hid hL
    clear hc hL hr
    refine callsIn_of_wp Tryd.func38 rfl trivial ?_ rfl
    simp only [Tryd.ntmps38, List.size_toArray, List.length_cons, List.length_nil, Nat.reduceAdd, Nat.reduceSub, Array.replicate_succ, Array.replicate_zero, List.push_toArray, List.append_toArray, List.nil_append, List.cons_append]
    gi_wp2_with fail
    refine ⟨trivial, ?_⟩
    refine (callsIn_wide.2 (check_any x m x0 x1 _)).mono ?_
    rw [HC.out]
    rintro e w1 ⟨rfl, hb⟩
    have hJ1 : J [] w1 := hJ [] W w1 h0 (.calls hb)
    have HJ1 := Lib.hid hJ1
    clear hb hJ1 h0
    gi_wp2
    refine bodyPost_ret (results_none rfl _ _ _) rfl ?_
    exact ⟨⟨_, rfl⟩, .inl ⟨[], HL.out.symm, HJ1.out⟩⟩
end Go.Proofs.YtabpkdblcinhjaaDoor
