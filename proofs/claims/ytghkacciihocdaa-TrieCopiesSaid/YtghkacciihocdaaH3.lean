/- Merged by tools/merge.py: H1, H2, H3. -/
import Derived.Test.YtghkacciihocdaaD5
import Derived.StillTailTactics
import Derived.RangeFuncFrom
import Derived.RangeFuncNested
import Derived.RangeFuncBound
import Derived.RangeFuncCalls
import Derived.RangeFuncLeaves
import Derived.Shelf.Abstract
import Derived.Shelf.RegionOpen
import Derived.WalkKit
import Derived.OwnWalkIn
import Derived.TacticsInMore
import Derived.LoopNIn
import Derived.LoopIn
import Derived.RegionIn
import Derived.BigRegionIn
import Derived.Test.YtghkacciihocdaaR2
import Derived.Test.YtghkacciihocdaaG0
namespace Go.Proofs.Ytghkacciihocdaa
open Go Go.RowKit Go.Sort
attribute [local go_sem] Oper.semAt_some

/-- A prefix under way, in memory. -/
def walkObj (x n : Int) (k : Nat) : Array Value := #[.int .u32 (cutTo x k), .int .i64 k, .int .u32 x, .int .i64 n]

theorem bit_up (b : Int) (k : Nat) (hk : k < 32) (hb : 0 ≤ b ∧ b ≤ 1) : b * 2 ^ (31 - k) % 4294967296 = b * wgt (k + 1) := by
  have h1 : wgt (k + 1) = ((2 : Int) ^ (31 - k)) := by rw [wgt_nat, show 32 - (k + 1) = 31 - k from by omega]; simp
  have h2 := wgt_step k hk
  have h3 := wgt_le k
  have h4 := wgt_pos (k + 1)
  rw [← h1]
  rcases (show b = 0 ∨ b = 1 by omega) with rfl | rfl
  · simp
  · rw [Int.one_mul]; omega

set_option maxRecDepth 100000 in
set_option maxHeartbeats 1600000 in
theorem grow_any (g : Nat) (x n : Int) (k : Nat) (hk : k < 32) (x0 : 0 ≤ x) (x1 : x < 4294967296) (w : World) (hB : Blk w g 150 (walkObj x n k)) :
    Calls Try.prog 96 #[.pointer (some ⟨g, 0, none⟩)] w fun e w' => (∃ v, e = .returned v) ∧ Blk w' g 150 (walkObj x n (k + 1)) ∧ w.grownBy w' (some g) := by
  have c0 := hB.cell 0
  have c1 := hB.cell 1
  have c2 := hB.cell 2
  have f0 := hB.frozen 0
  have f1 := hB.frozen 1
  simp only [walkObj, List.getElem?_toArray, List.getElem?_cons_zero, List.getElem?_cons_succ] at c0 c1 c2
  have HB := Lib.hid hB
  clear hB
  go_enter Try.func96, Try.ntmps96
  go_wp2_with fail
  have hB1 := HB.out.set_ 1 (.int .i64 ((k : Int) + 1))
  have hg1 : w.grownBy (w.setCell ⟨g, 1, none⟩ (.int .i64 ((k : Int) + 1))) (some g) := grown_set w g 1 _
  generalize w.setCell ⟨g, 1, none⟩ (.int .i64 ((k : Int) + 1)) = W at *
  simp only [walkObj] at hB1
  have e1 : (#[Value.int .u32 (cutTo x k), .int .i64 k, .int .u32 x, .int .i64 n] : Array Value).setIfInBounds 1 (.int .i64 ((k : Int) + 1)) = #[Value.int .u32 (cutTo x k), .int .i64 ((k : Int) + 1), .int .u32 x, .int .i64 n] := by rfl
  rw [e1] at hB1
  have d0 := hB1.cell 0
  have d1 := hB1.cell 1
  have d2 := hB1.cell 2
  have z0 := hB1.frozen 0
  have hlt := hB1.lt
  simp only [List.getElem?_toArray, List.getElem?_cons_zero, List.getElem?_cons_succ] at d0 d1 d2
  have hbit : bitOf x ((k : Int) + 1 - 1) = bitN x k := by rw [show (k : Int) + 1 - 1 = k from by omega]; exact bitOf_at x k (by omega)
  have hr := bitN_range x k
  have hup := bit_up (bitN x k) k hk hr
  have hor := or_bit x k hk x0 x1
  have hsh : (32 - ((k : Int) + 1)).toNat = 31 - k := by omega
  have hwk : walkObj x n (k + 1) = #[Value.int .u32 (cutTo x (k + 1)), .int .i64 ((k : Int) + 1), .int .u32 x, .int .i64 n] := rfl
  have HB1 := Lib.hid hB1
  have HG1 := Lib.hid hg1
  have HUP := Lib.hid hup
  have HOR := Lib.hid hor
  have HSH := Lib.hid hsh
  have HWK := Lib.hid hwk
  generalize cutTo x k = ck at *
  generalize cutTo x (k + 1) = ck1 at *
  have j0 : 1 ≤ (k : Int) + 1 := by omega
  have j1 : (k : Int) + 1 ≤ 32 := by omega
  generalize (k : Int) + 1 = j at *
  have w1 : IntKind.i64.wrap (j - 1) = j - 1 := by rw [IntKind.wrap_i64]; omega
  have w2 : IntKind.i64.wrap (32 - j) = 32 - j := by rw [IntKind.wrap_i64]; omega
  have w3 : IntKind.u32.wrap (bitN x k) = bitN x k := by rw [IntKind.wrap_u32]; omega
  have hbt := fun w => bit2_any x (j - 1) x0 x1 w
  rw [hbit] at hbt
  generalize bitN x k = b at *
  have HBT := Lib.hid hbt
  clear hbt hbit hup hor hsh hwk hB1 hg1 c0 c1 c2 f0 f1 e1
  have HBT2 : ∀ W : World, Calls Try.prog 89 #[.int .u32 x, .int .i64 (j - 1)] W fun e w'' => e = .returned (.int .i64 b) ∧ w'' = W := fun W => (HBT.out W).mono fun _ _ ⟨he, hw⟩ => ⟨he, hw.symm⟩
  have HBT3 := Lib.hid HBT2
  clear HBT2
  refine wp_region_still_tail 29 (by kernel_rfl) (by kernel_rfl) ?_
  simp only [List.take_succ_cons, List.take_zero, List.drop_succ_cons, List.drop_zero]
  repeat (first | still_step | still_call (HBT3.out _))
  refine wpStill_nil ?_
  change wpList _ _ _ _ _ W.drew
  have hv : bits .or .u32 ck (b * 2 ^ (32 - j).toNat % 4294967296) = ck1 := by rw [HSH.out, HUP.out, HOR.out]
  have HV := Lib.hid hv
  clear hv d1 d2 w1 w2 w3
  go_wp2_with fail
  rw [HV.out]
  have hset := (HB1.out.set_ 0 (.int .u32 ck1)).drew
  have hgr : w.grownBy (W.setCell ⟨g, 0, none⟩ (.int .u32 ck1)).drew (some g) := (HG1.out.trans (grown_set W g 0 _)).trans (grown_drew _ _)
  rw [HWK.out]
  go_end0
  exact ⟨⟨_, rfl⟩, hset, hgr⟩
end Go.Proofs.Ytghkacciihocdaa

namespace Go.Proofs.Ytghkacciihocdaa
open Go Go.RowKit Go.Shelf Go.Sort
attribute [local go_sem] Oper.semAt_some

/-- An object of cells of one type. -/
def markT (T : TypeId) : Obj → Bool
  | .cells _ t _ => t == T
  | _ => false
/-- What a round keeps: the block of what the iterator goes over, and every prefix under way. -/
structure KpW (Bs : Nat) (W W' : World) : Prop where
  box : W'.heap[Bs]? = W.heap[Bs]?
  walks : ∀ (k : Nat) (cs : Array Value) (z : Nat × Nat), W.heap[k]? = some (.cells cs 150 z) → W'.heap[k]? = some (.cells cs 150 z)
theorem KpW.refl (Bs : Nat) (W : World) : KpW Bs W W := ⟨rfl, fun _ _ _ e => e⟩
theorem KpW.trans {Bs : Nat} {A B C : World} (h : KpW Bs A B) (k : KpW Bs B C) : KpW Bs A C := ⟨k.box.trans h.box, fun i cs z e => k.walks i cs z (h.walks i cs z e)⟩
theorem KpW.put {Bs : Nat} {w : World} (hn : Bs < w.heap.size) (W : World) (l : Nat) (o o' : Obj) (hl : w.heap.size ≤ l) (h : W.heap[l]? = some o) (hc : o.isCells = false) : KpW Bs W (W.putObj l o') := by
  refine ⟨World.putObj_heap_other (by omega), fun k cs z e => ?_⟩
  refine (World.putObj_heap_other (fun e2 => ?_)).trans e
  subst e2
  rw [h] at e
  cases e
  simp [Obj.isCells] at hc
theorem KpW.grown {Bs : Nat} {W W' : World} {row : Option Nat} (hg : W.grownBy W' row) (hn : Bs < W.heap.size) (hne : row ≠ some Bs) (hr : ∀ k, row = some k → ∀ cs z, W.heap[k]? ≠ some (.cells cs 150 z)) : KpW Bs W W' :=
  ⟨hg.block Bs hn (fun e => hne e.symm), fun k cs z e => (hg.block k (Array.getElem?_eq_some_iff.1 e).1 (fun e2 => hr k e2.symm cs z e)).trans e⟩
theorem KpW.calls {Bs : Nat} {W W' : World} (h : Below W.heap.size W W') (hn : Bs < W.heap.size) : KpW Bs W W' :=
  ⟨h.block Bs hn, fun k _ _ e => (h.block k (Array.getElem?_eq_some_iff.1 e).1).trans e⟩
theorem KpW.cell {Bs : Nat} {W W' : World} (h : KpW Bs W W') (i : Nat) : W'.cell? ⟨Bs, i, none⟩ = W.cell? ⟨Bs, i, none⟩ := by
  unfold World.cell?; rw [h.box]

/-- The lengths of the prefixes around one. -/
def arL (x m : Int) : List Nat := if right x m then List.range (m.toNat + 1) else []
def arE (x : Int) (k : Nat) : Array Value := #[.int .i64 k, .agg #[.int .u32 (cutTo x k), .int .i64 k]]
/-- How far a prefix under way has come. -/
def lenAt (w : World) (g : Nat) : Nat := match w.cell? ⟨g, 1, none⟩ with
  | some (.int _ n) => n.toNat
  | _ => 0
theorem lenAt_walk {w : World} {g : Nat} {x m : Int} {k : Nat} (h : Blk w g 150 (walkObj x m k)) : lenAt w g = k := by
  unfold lenAt; rw [h.cell 1]; rfl

set_option maxRecDepth 100000 in
set_option maxHeartbeats 3200000 in
theorem around1_in (n : Nat) (hn : 1 ≤ n) (l Bs : Nat) (x m : Int) (x0 : 0 ≤ x) (x1 : x < 4294967296) (J Jx : List Nat → World → Prop)
    (hY : ∀ pre k W, J pre W → pre.length < (arL x m).length → YieldAt Fence.wide (n - 1) Try.prog l (arE x k) W fun e W' =>
      (e = .returned (.bool true) ∧ J (pre ++ [k]) W' ∧ KpW Bs W W') ∨ (e = .returned (.bool false) ∧ Jx (pre ++ [k]) W'))
    (W : World) (hJ : AbidesM (markT 150) W.heap.size J) (c0 : W.cell? ⟨Bs, 0, none⟩ = some (.int .u32 x)) (c1 : W.cell? ⟨Bs, 1, none⟩ = some (.int .i64 m)) (h0 : J [] W) :
    CallsIn Fence.wide n Try.prog 95 #[.func (.yield l) #[] #[], .pointer (some ⟨Bs, 0, none⟩)] W fun e W' => (∃ v, e = .returned v) ∧
      ((∃ ys, ys = arL x m ∧ J ys W') ∨ (∃ pre, pre <+: arL x m ∧ Jx pre W')) := by
  by_cases hr : right x m
  · have hc : chk x m = 0 := if_pos hr
    have HC := Lib.hid hc
    have hL : arL x m = List.range (m.toNat + 1) := if_pos hr
    have HL := Lib.hid hL
    have hm0 := hr.1
    have hm1 := hr.2.1
    obtain ⟨q, rfl⟩ : ∃ q : Nat, m = q := ⟨m.toNat, by omega⟩
    clear hc hL hr
    refine callsIn_of_wp Try.func95 rfl trivial ?_ rfl
    simp only [Try.ntmps95, List.size_toArray, List.length_cons, List.length_nil, Nat.reduceAdd, Nat.reduceSub, Array.replicate_succ, Array.replicate_zero, List.push_toArray, List.append_toArray, List.nil_append, List.cons_append]
    gi_wp2_with fail
    refine ⟨trivial, ?_⟩
    refine (callsIn_wide.2 (check_any x q x0 x1 _)).mono ?_
    rw [HC.out]
    rintro e w1 ⟨rfl, hb⟩
    have c0' := (hb.cell (p := ⟨Bs, 0, none⟩) (World.block_lt_of_cell? _ _ c0)).trans c0
    have c1' := (hb.cell (p := ⟨Bs, 1, none⟩) (World.block_lt_of_cell? _ _ c1)).trans c1
    have hJ1 : J [] w1 := hJ [] W w1 h0 (.calls hb)
    have hz1 := hb.size
    have HJ1 := Lib.hid hJ1
    clear hb c0 c1 hJ1 h0
    gi_wp2_with fail
    have hz0 : cutTo x 0 = 0 := by unfold cutTo; rw [top_zero x x0 x1]; simp
    have hb2 : Blk (w1.alloc (.cells #[.int .u32 0, .int .i64 0, .int .u32 x, .int .i64 (q : Int)] 150)) w1.heap.size 150 (walkObj x q 0) := by
      have := Blk.new w1 150 #[.int .u32 0, .int .i64 0, .int .u32 x, .int .i64 (q : Int)]
      unfold walkObj; rw [hz0]; exact this
    have hJ2 : J [] (w1.alloc (.cells #[.int .u32 0, .int .i64 0, .int .u32 x, .int .i64 (q : Int)] 150)) := hJ [] _ _ HJ1.out (.grow (World.grownBy_alloc w1 _ none))
    have hbs := World.block_lt_of_cell? _ _ c0'
    have c1'' : (w1.alloc (.cells #[.int .u32 0, .int .i64 0, .int .u32 x, .int .i64 (q : Int)] 150)).cell? ⟨Bs, 1, none⟩ = some (.int .i64 q) := (((Below.refl w1.heap.size w1).alloc (Nat.le_refl _) _).cell (p := ⟨Bs, 1, none⟩) hbs).trans c1'
    have hge : W.heap.size ≤ w1.heap.size := hz1
    generalize (w1.alloc (.cells #[.int .u32 0, .int .i64 0, .int .u32 x, .int .i64 (q : Int)] 150)) = W2 at *
    generalize w1.heap.size = g at *
    have HB2 := Lib.hid hb2
    have HJ2 := Lib.hid hJ2
    have HC2 := Lib.hid c1''
    clear hz0 hb2 hJ2 c0' c1' hz1 HJ1 c1''
    gi_loopw [12] (fun _ wr => ∃ k : Nat, k ≤ q ∧ Hid (Blk wr g 150 (walkObj x q k)) ∧ Hid (J (List.range k) wr) ∧ Hid (wr.cell? ⟨Bs, 1, none⟩ = some (.int .i64 (q : Int))))
      (fun _ wr => q - lenAt wr g)
    case atStart => exact ⟨0, by omega, HB2, HJ2, HC2⟩
    case round =>
      clear HB2 HJ2 HC2
      obtain ⟨k, hk, HB3, HJ3, HC3⟩ := hrel
      have b0 := HB3.out.cell 0
      have b1 := HB3.out.cell 1
      simp only [walkObj, List.getElem?_toArray, List.getElem?_cons_zero, List.getElem?_cons_succ] at b0 b1
      obtain ⟨fn, tmps, assign, body, hy, hR⟩ := hY (List.range k) k wr HJ3.out (by rw [HL.out]; simp; omega)
      simp only [arE] at hy
      have HR := Lib.hid hR
      clear hR
      gi_wp2
      refine HR.out.mono ?_
      rintro e W3 (⟨rfl, hJ3, hk3⟩ | ⟨rfl, hJx3⟩)
      · have hb3 : Blk W3 g 150 (walkObj x q k) := hk3.walks g _ _ HB3.out
        have hc3 : W3.cell? ⟨Bs, 1, none⟩ = some (.int .i64 (q : Int)) := (hk3.cell 1).trans HC3.out
        have d1 := hb3.cell 1
        simp only [walkObj, List.getElem?_toArray, List.getElem?_cons_zero, List.getElem?_cons_succ] at d1
        have hrk : List.range k ++ [k] = List.range (k + 1) := List.range_succ.symm
        rw [hrk] at hJ3
        have HB4 := Lib.hid hb3
        have HJ4 := Lib.hid hJ3
        have hl1 := lenAt_walk HB3.out
        have HL1 := Lib.hid hl1
        clear hb3 hJ3 hk3 hrk hl1 hy b0 b1 HB3 HJ3 HC3
        by_cases hlt : k < q
        · gi_wp2
          refine ⟨trivial, ?_⟩
          refine (callsIn_wide.2 (grow_any g x q k (by omega) x0 x1 W3 HB4.out)).mono ?_
          rintro e w5 ⟨⟨v, rfl⟩, hb5, hg5⟩
          have hJ5 : J (List.range (k + 1)) w5 := hJ _ W3 w5 HJ4.out ⟨some g, hg5, fun r e => by cases e; exact ⟨hge, _, HB4.out, by simp [markT]⟩⟩
          have hc5 : w5.cell? ⟨Bs, 1, none⟩ = some (.int .i64 (q : Int)) := by
            have hne : Bs ≠ g := by omega
            have := hg5.block Bs (World.block_lt_of_cell? _ _ hc3) (by simpa using hne)
            rw [← hc3]; unfold World.cell?; rw [this]
          have hl5 := lenAt_walk hb5
          have HL5 := Lib.hid hl5
          have HB5 := Lib.hid hb5
          have HJ5 := Lib.hid hJ5
          have HC5 := Lib.hid hc5
          clear hb5 hg5 hJ5 hc5 hl5 d1 hc3
          gi_wp2
          go_roundw
          case rel => exact ⟨k + 1, by omega, HB5, HJ5, HC5⟩
          case measure => rw [HL5.out, HL1.out]; omega
        · obtain rfl : k = q := by omega
          gi_wp2
          go_end0
          exact ⟨⟨_, rfl⟩, .inl ⟨_, by rw [HL.out]; simp, HJ4.out⟩⟩
      · gi_wp2
        go_end0
        refine ⟨⟨_, rfl⟩, .inr ⟨List.range k ++ [k], ?_, hJx3⟩⟩
        rw [HL.out, ← List.range_succ]
        refine ⟨(List.range ((q : Int).toNat + 1)).drop (k + 1), ?_⟩
        have : List.range (k + 1) = (List.range ((q : Int).toNat + 1)).take (k + 1) := by rw [List.take_range]; congr 1; omega
        rw [this, List.take_append_drop]
  · have hc : chk x m = 2 := if_neg hr
    have HC := Lib.hid hc
    have hL : arL x m = [] := if_neg hr
    have HL := Lib.hid hL
    clear hc hL hr
    refine callsIn_of_wp Try.func95 rfl trivial ?_ rfl
    simp only [Try.ntmps95, List.size_toArray, List.length_cons, List.length_nil, Nat.reduceAdd, Nat.reduceSub, Array.replicate_succ, Array.replicate_zero, List.push_toArray, List.append_toArray, List.nil_append, List.cons_append]
    gi_wp2_with fail
    refine ⟨trivial, ?_⟩
    refine (callsIn_wide.2 (check_any x m x0 x1 _)).mono ?_
    rw [HC.out]
    rintro e w1 ⟨rfl, hb⟩
    have hJ1 : J [] w1 := hJ [] W w1 h0 (.calls hb)
    have HJ1 := Lib.hid hJ1
    clear hb hJ1 h0
    gi_wp2
    refine bodyPost_ret (results_none rfl _ _ _) rfl ?_
    exact ⟨⟨_, rfl⟩, .inl ⟨[], HL.out.symm, HJ1.out⟩⟩
end Go.Proofs.Ytghkacciihocdaa

namespace Go.Proofs.Ytghkacciihocdaa
open Go Go.RowKit Go.Shelf Go.Sort
attribute [local go_sem] Oper.semAt_some

theorem around_stops (n : Nat) (hn : 1 ≤ n) (Bs : Nat) (x m : Int) (x0 : 0 ≤ x) (x1 : x < 4294967296) (w : World) (hB : Blk w Bs 34 #[.int .u32 x, .int .i64 m]) :
    SeqStopsM (markT 150) Fence.wide n Try.prog 95 #[.pointer (some ⟨Bs, 0, none⟩)] (arE x) (KpW Bs) (fun ys => ys = arL x m) (fun pre => pre <+: arL x m) (arL x m).length w :=
  fun l J Jx W hW hJ _ hY h0 => around1_in n hn l Bs x m x0 x1 J Jx hY W hJ (by rw [(hB.below hW hB.lt).cell]; rfl) (by rw [(hB.below hW hB.lt).cell]; rfl) h0

/-- A range over such an iterator whose body may break out of it, or return where what has come is none of what comes. -/
theorem rangeFuncM_brk {M : Obj → Bool} (hML : ∀ r, M (.loop r) = false) (hMD : ∀ d, M (.deferred d) = false) {F : Fence} {n : Nat} {P : Program} {α : Type} {g : Operand} {ps : Array Tmp} {assign body : Code} {id : Nat} {Q : Exit → Act → World → Prop} {a : Act} {w : World}
    (hro : F.round = none) (h1 : 1 ≤ n) {gf : Nat} {lb : Array Value} (hg : a.eval g = .func (.func gf) #[] lb) (hFg : F.fn gf) (eg : ∀ args w, (callFunc gf args).run P w = .ok (.enter gf args) w)
    {encs : α → Array Value} {Kp : World → World → Prop} {S Sp : List α → Prop} {N : Nat} {w0 : World} (hseq : SeqStopsM M F (n - 1) P gf lb encs Kp S Sp N w0)
    (hKt : ∀ {A B C : World}, Kp A B → Kp B C → Kp A C) (hKb : ∀ (W : World) (l : Nat) (o o' : Obj), w.heap.size ≤ l → W.heap[l]? = some o → o.isCells = false → Kp W (W.putObj l o')) (hb0 : Below w0.heap.size w0 w) (hps : ∀ x, (encs x).size = ps.size)
    (I : List α → World → Prop) (Iy : List α → World → Prop) (hI : OwnM M w.heap.size I) (hIy : OwnM M w.heap.size Iy) (h0 : I [] w) (Ax : α → Act → World → Prop) (hAx : ∀ x a', OwnM M w.heap.size (fun (_ : Unit) W => Ax x a' W))
    (hassign : ∀ (l : Nat) (pre : List α) (x : α) (W : World) (K : Act → World → Prop), I pre W → (∀ a' W', KeepsFrom w.heap.size W W' → Kp W W' → I pre W' → Ax x a' W' → K a' W') →
      assign.wpIn (F.inRound l) (n - 1 - 1) P (Exit.then K (fun _ _ _ => False)) { tmps := (ps.zip (encs x)).foldl (fun t (p, v) => t.setIfInBounds p v) a.tmps, defers := [] } W)
    (hbody : ∀ (l : Nat) (pre : List α) (x : α) (a' : Act) (W : World), I pre W → Ax x a' W → pre.length < N → body.wpIn (F.inRound l) (n - 1 - 1) P (ownPostG w.heap.size Kp I (fun c pre W => (c = .ret ∧ ¬ Sp pre) ∨ (c = .exit id ∧ Iy pre W)) (pre ++ [x]) W) a' W)
    (hafter : ∀ (D : Nat) (xs : List α) (W : World), w.heap.size ≤ D → (S xs ∧ I xs W ∨ Sp xs ∧ Iy xs W) → W.heap[D]? = some (.deferred (some [])) → Q .normal { a with defers := { target := .collected D, args := #[] } :: a.defers } W) :
    (Code.rangeFunc g ps assign body).wpIn F n P (Exit.inBlock id Q) a w := by
  refine wpIn_rangeFunc_M M hML hMD hro h1 hg hFg eg hseq hKt hKb hb0 hps I (fun c pre W => (c = .ret ∧ ¬ Sp pre) ∨ (c = .exit id ∧ Iy pre W)) hI (fun c s A B hs ht => hs.imp (fun h => h) (fun h => ⟨h.1, hIy s A B h.2 ht⟩)) h0 Ax hAx hassign hbody ?_ ?_
  · intro D xs W hD hS hi hK
    simpa [Exit.inBlock] using hafter D xs W hD (.inl ⟨hS, hi⟩) hK
  · rintro D c pre W hD hS (⟨rfl, h⟩ | ⟨rfl, h⟩) hK
    · exact absurd hS h
    · have := hafter D pre W hD (.inr ⟨hS, h⟩) hK
      refine wpIn_exit ?_
      simpa [Exit.inBlock] using this

set_option maxHeartbeats 400000 in
theorem around_any (x m : Int) (w : World) :
    Calls Try.prog 90 #[pfx x m] w fun e w' => e = .returned (.func (.func 95) #[] #[.pointer (some ⟨w.heap.size, 0, none⟩)]) ∧ w' = w.alloc (.cells #[.int .u32 x, .int .i64 m] 34) := by
  have hmf : ∀ (fn : Fn) (first cap : Array Value) (w : World), (Instr.makeFunc fn first cap).run Try.prog w = .ok (.func fn first cap) w := fun _ _ _ _ => rfl
  go_enter Try.func90, Try.ntmps90
  go_wp2
  go_ret
  exact ⟨rfl, rfl⟩

/-- The prefix of k bits of x is around the other one. -/
def goesC (x y m : Int) (k : Nat) : Prop := (k : Int) ≤ m ∧ cutTo y k = cutTo x k
/-- What both have in common so far: nothing yet, or the last one that came. -/
def comOf (x : Int) (pre : List Nat) : Int × Int := match pre.getLast? with
  | none => (0, 0)
  | some j => (cutTo x j, j)
theorem comOf_snoc (x : Int) (pre : List Nat) (k : Nat) : comOf x (pre ++ [k]) = (cutTo x k, (k : Int)) := by simp [comOf]

theorem goesC_top {x y m : Int} {k : Nat} (h : goesC x y m k) : top x k = top y k := by
  rw [← top_cutTo x k, ← top_cutTo y k, h.2]
/-- So many bits both have in common. -/
def ComK (x n y m : Int) (k : Nat) : Prop := (k : Int) ≤ n ∧ (k : Int) ≤ m ∧ (∀ i, i < k → bitN x i = bitN y i) ∧ ((k : Int) < n → (k : Int) < m → bitN x k ≠ bitN y k)
theorem com_done {x y m : Int} {N : Nat} (x0 : 0 ≤ x) (x1 : x < 4294967296) (y0 : 0 ≤ y) (y1 : y < 4294967296) (hN : N ≤ 32) (h : ∀ j ∈ List.range (N + 1), goesC x y m j) : ComK x N y m N ∧ comOf x (List.range (N + 1)) = (cutTo x N, (N : Int)) := by
  have hg := h N (by simp)
  exact ⟨⟨by omega, hg.1, (top_same x y x0 x1 y0 y1 N hN).1 (goesC_top hg), fun e => by omega⟩, by rw [List.range_succ, comOf_snoc]⟩
theorem com_stop {x y m : Int} {N : Nat} {pre : List Nat} {j : Nat} (x0 : 0 ≤ x) (x1 : x < 4294967296) (y0 : 0 ≤ y) (y1 : y < 4294967296) (hN : N ≤ 32) (hm : 0 ≤ m) (hp : pre ++ [j] <+: List.range (N + 1)) (h : ∀ i ∈ pre, goesC x y m i) (hj : ¬ goesC x y m j) :
    ∃ k : Nat, ComK x N y m k ∧ comOf x pre = (cutTo x k, (k : Int)) := by
  have hl := hp.length_le
  simp only [List.length_append, List.length_cons, List.length_nil, List.length_range] at hl
  have he : pre ++ [j] = List.range (pre.length + 1) := by
    have := List.prefix_iff_eq_take.1 hp
    rw [List.length_append, List.length_cons, List.length_nil, List.take_range, Nat.min_eq_left (by omega)] at this
    exact this
  rw [List.range_succ] at he
  obtain ⟨h1, h2⟩ := List.append_inj' he rfl
  obtain rfl : j = pre.length := by simpa using h2
  generalize pre.length = j at *
  subst h1
  cases j with
  | zero =>
    exact absurd ⟨by omega, by unfold cutTo; rw [top_zero x x0 x1, top_zero y y0 y1]⟩ hj
  | succ k =>
    have hg := h k (by simp)
    refine ⟨k, ⟨by omega, hg.1, (top_same x y x0 x1 y0 y1 k (by omega)).1 (goesC_top hg), fun _ hkm e => hj ⟨by omega, ?_⟩⟩, by rw [List.range_succ, comOf_snoc]⟩
    have ht : top x (k + 1) = top y (k + 1) := (top_same x y x0 x1 y0 y1 (k + 1) (by omega)).2 (fun i hi => by
      rcases Nat.lt_or_ge i k with hlt | hge
      · exact (top_same x y x0 x1 y0 y1 k (by omega)).1 (goesC_top hg) i hlt
      · obtain rfl : i = k := by omega
        exact e)
    unfold cutTo; rw [ht]

structure Cm3 (w : World) (x n y m : Int) (c : Int × Int) (W : World) : Prop where
  a : Blk W w.heap.size 34 #[.int .u32 x, .int .i64 n]
  b : Blk W (w.heap.size + 1) 34 #[.int .u32 y, .int .i64 m]
  r : Blk W (w.heap.size + 2) 34 #[.int .u32 c.1, .int .i64 c.2]
  bl : Below w.heap.size w W
section
variable {w W W' : World} {x n y m : Int} {c : Int × Int}
theorem Cm3.below (h : Cm3 w x n y m c W) (hb : Below W.heap.size W W') : Cm3 w x n y m c W' := ⟨h.a.below hb h.a.lt, h.b.below hb h.b.lt, h.r.below hb h.r.lt, h.bl.trans (hb.mono h.bl.size)⟩
theorem Cm3.turned {M : Obj → Bool} {B : Nat} (h : Cm3 w x n y m c W) (k : Turns M B W W') (hB : w.heap.size + 2 < B) : Cm3 w x n y m c W' :=
  ⟨h.a.turned k (by omega), h.b.turned k (by omega), h.r.turned k (by omega), h.bl.trans (k.below (by omega) h.bl.size)⟩
theorem Cm3.put (h : Cm3 w x n y m c W) (c' : Int × Int) : Cm3 w x n y m c' ((W.setCell ⟨w.heap.size + 2, 0, none⟩ (.int .u32 c'.1)).setCell ⟨w.heap.size + 2, 1, none⟩ (.int .i64 c'.2)) :=
  ⟨(h.a.far (by simp) _).far (by simp) _, (h.b.far (by simp) _).far (by simp) _, by simpa using (h.r.set_ 0 (.int .u32 c'.1)).set_ 1 (.int .i64 c'.2),
    (h.bl.setCell (p := ⟨w.heap.size + 2, 0, none⟩) (by simp) _).setCell (p := ⟨w.heap.size + 2, 1, none⟩) (by simp) _⟩
end

set_option maxRecDepth 100000 in
set_option maxHeartbeats 3200000 in
theorem common_any (x n y m : Int) (x0 : 0 ≤ x) (x1 : x < 4294967296) (y0 : 0 ≤ y) (y1 : y < 4294967296) (hx : right x n) (hy : right y m) (w : World) :
    Calls Try.prog 81 #[pfx x n, pfx y m] w fun e w' => (∃ k : Nat, ComK x n y m k ∧ e = .returned (.tuple #[pfx (cutTo x k) k, .int .i64 0])) ∧ Below w.heap.size w w' := by
  have hc : chk x n = 0 := if_pos hx
  have HC := Lib.hid hc
  have hc2 : chk y m = 0 := if_pos hy
  have HC2 := Lib.hid hc2
  clear hc hc2
  have HO : Hid (Cm3 w x n y m (0, 0) (((w.alloc (.cells #[.int .u32 x, .int .i64 n] 34)).alloc (.cells #[.int .u32 y, .int .i64 m] 34)).alloc (.cells #[.int .u32 0, .int .i64 0] 34))) := by
    obtain ⟨h1, h2, h3, h4⟩ := own3_new w x n y m
    exact ⟨h1, h2, h3, h4⟩
  refine callsIn_wide (n := 6) |>.1 ?_
  refine callsIn_of_wp_marks Try.func81 rfl trivial ?_ rfl
  simp only [Try.ntmps81, List.size_toArray, List.length_cons, List.length_nil, Nat.reduceAdd, Nat.reduceSub, Array.replicate_succ, Array.replicate_zero, List.push_toArray, List.append_toArray, List.nil_append, List.cons_append]
  gi_wp2_with fail
  refine wpInWide_scope ?_
  gi_wp2_with fail
  refine ⟨trivial, ?_⟩
  refine (callsIn_wide.2 (check_any x n x0 x1 _)).mono ?_
  rw [HC.out]
  rintro e w1 ⟨rfl, hb⟩
  have HO1 := Lib.hid (HO.out.below hb)
  have d0 := HO1.out.b.cell 0
  have d1 := HO1.out.b.cell 1
  simp only [List.getElem?_toArray, List.getElem?_cons_zero, List.getElem?_cons_succ] at d0 d1
  clear hb HO
  gi_wp2_with fail
  refine ⟨trivial, ?_⟩
  refine (callsIn_wide.2 (check_any y m y0 y1 _)).mono ?_
  rw [HC2.out]
  rintro e w2 ⟨rfl, hb⟩
  have HO2 := Lib.hid (HO1.out.below hb)
  have c0 := HO2.out.a.cell 0
  have c1 := HO2.out.a.cell 1
  simp only [List.getElem?_toArray, List.getElem?_cons_zero, List.getElem?_cons_succ] at c0 c1
  clear hb d0 d1 HO1
  gi_wp2_with fail
  refine wpIn_label ?_
  gi_wp2_with fail
  refine ⟨trivial, ?_⟩
  refine (callsIn_wide.2 (around_any x n _)).mono ?_
  rintro e w3 ⟨rfl, rfl⟩
  clear c0 c1
  gi_wp2_with fail
  have hB3 := Blk.new w2 34 #[.int .u32 x, .int .i64 n]
  have HO3 := HO2.out.below ((Below.refl _ w2).alloc (Nat.le_refl _) (.cells #[.int .u32 x, .int .i64 n] 34))
  have hz2 := HO2.out.r.lt
  have hs3 : (w2.alloc (.cells #[.int .u32 x, .int .i64 n] 34)).heap.size = w2.heap.size + 1 := by simp
  generalize hW3 : (w2.alloc (.cells #[.int .u32 x, .int .i64 n] 34)) = W3 at *
  generalize w2.heap.size = Bs at *
  clear hW3
  refine rangeFuncM_brk (M := markT 150) (fun _ => rfl) (fun _ => rfl) rfl (by decide) (gf := 95) (lb := #[.pointer (some ⟨Bs, 0, none⟩)]) rfl trivial (enters_of Try.func95 (by kernel_rfl) rfl)
    (around_stops 5 (by decide) Bs x n x0 x1 W3 hB3) (fun h k => h.trans k) (fun W l o o' hl h hc => KpW.put (w := W3) (by omega) W l o o' hl h hc) (Below.refl _ _) (fun _ => rfl)
    (fun pre W => (∀ j ∈ pre, goesC x y m j) ∧ Cm3 w x n y m (comOf x pre) W ∧ Bs < W.heap.size)
    (fun ys W => ∃ pre j, ys = pre ++ [j] ∧ (∀ i ∈ pre, goesC x y m i) ∧ ¬ goesC x y m j ∧ Cm3 w x n y m (comOf x pre) W)
    (fun s A B hs ht => ⟨hs.1, hs.2.1.turned ht (by omega), Nat.lt_of_lt_of_le hs.2.2 ht.size⟩)
    (fun s A B ⟨pre, j, h1, h2, h3, h4⟩ ht => ⟨pre, j, h1, h2, h3, h4.turned ht (by omega)⟩)
    ⟨fun j hj => by simp at hj, HO3, by omega⟩
    (fun k a' W => ∃ Bx, Blk W Bx 34 #[.int .u32 (cutTo x k), .int .i64 k] ∧ Bs + 1 ≤ Bx ∧ a' = { tmps := #[pfx x n, pfx y m, .pointer (some ⟨w.heap.size, 0, none⟩), .pointer (some ⟨w.heap.size + 1, 0, none⟩), .pointer (some ⟨w.heap.size + 1 + 1, 0, none⟩), .int .i64 0, .int .i64 k, .pointer (some ⟨Bx, 0, none⟩), .agg #[.int .u32 x, .int .i64 n], .int .i64 0, .bool false, .bool false, .agg #[.int .u32 y, .int .i64 m], .int .i64 0, .bool false, .bool false, .agg #[.int .u32 x, .int .i64 n], .func (.func 95) #[] #[.pointer (some ⟨Bs, 0, none⟩)], .int .i64 k, .agg #[.int .u32 (cutTo x k), .int .i64 k], undef, undef, undef, undef, undef, undef, undef, undef, undef, undef, undef, undef, undef, undef], defers := [] })
    (fun k a' s A B ⟨Bx, h1, h2, h3⟩ ht => ⟨Bx, h1.spared ht (by simp [markT, Obj.isCells]), h2, h3⟩) ?assign ?body ?after
  case assign =>
    rintro l pre k W K ⟨hp, hC, hs⟩ hK
    unfold arE
    gi_wp2
    refine hK _ _ ((KeepsOthers.alloc _ _).from _) (KpW.calls ((Below.refl _ W).alloc (Nat.le_refl _) _) hs) ⟨hp, hC.below ((Below.refl _ W).alloc (Nat.le_refl _) _), by simp; omega⟩ ⟨W.heap.size, Blk.new W _ _, hs, rfl⟩
  case body =>
    rintro l pre k a' W ⟨hp, hC, hs⟩ ⟨Bx, bX, hBx, rfl⟩ hlen
    have HCm := Lib.hid hC
    have HBX := Lib.hid bX
    have d1 := hC.b.cell 1
    simp only [List.getElem?_toArray, List.getElem?_cons_zero, List.getElem?_cons_succ] at d1
    clear hlen
    by_cases hk : (k : Int) ≤ m
    · have d0 := hC.b.cell 0
      have b0 := bX.cell 0
      have b1 := bX.cell 1
      simp only [List.getElem?_toArray, List.getElem?_cons_zero, List.getElem?_cons_succ] at d0 b0 b1
      have hkm : k ≤ 32 := by have := hy.2.1; omega
      clear hC bX
      gi_wp2_with fail
      refine ⟨trivial, ?_⟩
      refine (CallsIn.inRound l (callsIn_wide.2 (has2_any (cutTo x k) k y y0 y1 _))).mono ?_
      rintro e w5 ⟨rfl, hb⟩
      have HC5 := Lib.hid (HCm.out.below hb)
      have HX5 := Lib.hid (HBX.out.below hb HBX.out.lt)
      have HK5 : Hid (KpW Bs W w5) := KpW.calls hb hs
      have hs5 : Bs < w5.heap.size := by have := hb.size; omega
      have HF5 : Hid (KeepsFrom W3.heap.size W w5) := ⟨hb.size, fun i o _ hi _ => (hb.block i (Array.getElem?_eq_some_iff.1 hi).1).trans hi⟩
      clear hb d0 d1 b0 b1
      by_cases hcut : cutTo y k = cutTo x k
      · have hd : decide (hasP (cutTo x k) k y) = true := decide_eq_true ((has_cut ⟨by omega, by omega⟩).2 (by simpa using hcut))
        rw [hd]
        clear hd
        have b0 := HX5.out.cell 0
        have b1 := HX5.out.cell 1
        have r0 := HC5.out.r.cell 0
        have r1 := HC5.out.r.cell 1
        have f0 := HC5.out.r.frozen 0
        have f1 := HC5.out.r.frozen 1
        simp only [List.getElem?_toArray, List.getElem?_cons_zero, List.getElem?_cons_succ] at b0 b1 r0 r1
        gi_wp2_with fail
        have hg : w5.grownBy ((w5.setCell ⟨w.heap.size + 1 + 1, 0, none⟩ (.int .u32 (cutTo x k))).setCell ⟨w.heap.size + 1 + 1, 1, none⟩ (.int .i64 k)) (some (w.heap.size + 1 + 1)) := (grown_set _ _ 0 _).trans (grown_set _ _ 1 _)
        have hkp : KpW Bs w5 ((w5.setCell ⟨w.heap.size + 1 + 1, 0, none⟩ (.int .u32 (cutTo x k))).setCell ⟨w.heap.size + 1 + 1, 1, none⟩ (.int .i64 k)) :=
          KpW.grown hg hs5 (fun e => by cases e; omega) (fun j e cs z e2 => by
            cases e
            have := HC5.out.r
            unfold Blk at this
            rw [show w.heap.size + 1 + 1 = w.heap.size + 2 from rfl, this] at e2
            cases e2)
        refine ⟨HF5.out.trans (((KeepsOthers.setCell _ _ _).trans (KeepsOthers.setCell _ _ _)).from _), HK5.out.trans hkp, ?_, ?_, by simpa [World.setCell] using hs5⟩
        · intro j hj
          rcases List.mem_append.1 hj with h | h
          · exact hp j h
          · obtain rfl : j = k := by simpa using h
            exact ⟨hk, hcut⟩
        · rw [comOf_snoc]; exact HC5.out.put (cutTo x k, (k : Int))
      · have hd : decide (hasP (cutTo x k) k y) = false := decide_eq_false (fun e => hcut (by simpa using (has_cut ⟨by omega, by omega⟩).1 e))
        rw [hd]
        clear hd
        gi_wp2_with fail
        exact ⟨HF5.out, .inr ⟨rfl, pre, k, rfl, hp, fun e => hcut e.2, HC5.out⟩⟩
    · have hk2 : m < (k : Int) := by omega
      clear hC bX
      gi_wp2_with fail
      refine ⟨trivial, ?_⟩
      gi_wp2_with fail
      exact ⟨KeepsFrom.refl _ _, .inr ⟨rfl, pre, k, rfl, hp, fun e => absurd e.1 (by omega), HCm.out⟩⟩
  case after =>
    intro D xs W hD hcase hK
    have hfin : ∃ k : Nat, ComK x n y m k ∧ Cm3 w x n y m (cutTo x k, (k : Int)) W := by
      have hn0 := hx.1
      have hn1 := hx.2.1
      obtain ⟨N, rfl⟩ : ∃ N : Nat, n = N := ⟨n.toNat, by omega⟩
      have hL : arL x N = List.range (N + 1) := by unfold arL; rw [if_pos hx]; rfl
      rw [hL] at hcase
      rcases hcase with ⟨rfl, hp, hC, _⟩ | ⟨hpre, pre, j, rfl, hp, hj, hC⟩
      · obtain ⟨h1, h2⟩ := com_done x0 x1 y0 y1 (by omega) hp
        rw [h2] at hC
        exact ⟨N, h1, hC⟩
      · obtain ⟨k, h1, h2⟩ := com_stop x0 x1 y0 y1 (by omega) hy.1 hpre hp hj
        rw [h2] at hC
        exact ⟨k, h1, hC⟩
    obtain ⟨k, hcom, hC⟩ := hfin
    have HCK := Lib.hid hcom
    have HCF := Lib.hid hC
    have r0 := hC.r.cell 0
    have r1 := hC.r.cell 1
    have f0 := hC.r.frozen 0
    have f1 := hC.r.frozen 1
    simp only [List.getElem?_toArray, List.getElem?_cons_zero, List.getElem?_cons_succ] at r0 r1
    clear hcom hC hcase
    gi_wp2_with fail
    rw [Exit.noGoto_ret]
    have hC5 := HCF.out.put (cutTo x k, (k : Int))
    have hk4 := (Below.heap_setCell W ⟨w.heap.size + 1 + 1, 0, none⟩ (.int .u32 (cutTo x k)) D (by simp only; omega)).trans hK
    have hk5 := (Below.heap_setCell (W.setCell ⟨w.heap.size + 1 + 1, 0, none⟩ (.int .u32 (cutTo x k))) ⟨w.heap.size + 1 + 1, 1, none⟩ (.int .i64 k) D (by simp only; omega)).trans hk4
    have hC5' : Cm3 w x n y m (cutTo x k, (k : Int)) ((W.setCell ⟨w.heap.size + 1 + 1, 0, none⟩ (.int .u32 (cutTo x k))).setCell ⟨w.heap.size + 1 + 1, 1, none⟩ (.int .i64 k)) := hC5
    clear r0 r1 f0 f1 hC5 hk4 hK
    generalize ((W.setCell ⟨w.heap.size + 1 + 1, 0, none⟩ (.int .u32 (cutTo x k))).setCell ⟨w.heap.size + 1 + 1, 1, none⟩ (.int .i64 k)) = w5 at *
    refine ⟨by simp, .inl ⟨_, _, rfl, run_takeDeferred hk5, ?_⟩⟩
    have hg1 := grownBy_putObj' w5 D (.deferred none)
    have hr := hC5'.r.grown hg1 (by simp; omega)
    have hb : Below w.heap.size w (w5.putObj D (.deferred none)) := hC5'.bl.grown hg1 hC5'.bl.size (fun k e => by cases e; omega)
    have c0 := hr.cell 0
    have c1 := hr.cell 1
    simp only [List.getElem?_toArray, List.getElem?_cons_zero, List.getElem?_cons_succ] at c0 c1
    refine ⟨.tuple #[pfx (cutTo x k) k, .int .i64 0], ?_, ⟨k, HCK.out, rfl⟩, hb⟩
    simp [results, Try.f81, go_sem, c0, c1]

set_option maxRecDepth 100000 in
set_option maxHeartbeats 1600000 in
theorem common_no (x n y m : Int) (x0 : 0 ≤ x) (x1 : x < 4294967296) (y0 : 0 ≤ y) (y1 : y < 4294967296) (h : ¬ (right x n ∧ right y m)) (w : World) :
    Calls Try.prog 81 #[pfx x n, pfx y m] w fun e w' => e = .returned (.tuple #[pfx 0 0, .int .i64 2]) ∧ Below w.heap.size w w' := by
  have HO : Hid (Cm3 w x n y m (0, 0) (((w.alloc (.cells #[.int .u32 x, .int .i64 n] 34)).alloc (.cells #[.int .u32 y, .int .i64 m] 34)).alloc (.cells #[.int .u32 0, .int .i64 0] 34))) := by
    obtain ⟨h1, h2, h3, h4⟩ := own3_new w x n y m
    exact ⟨h1, h2, h3, h4⟩
  have hfin : ∀ w2 : World, Cm3 w x n y m (0, 0) w2 → Cm3 w x n y m (0, 0) ((w2.setCell ⟨w.heap.size + 1 + 1, 0, none⟩ (.int .u32 0)).setCell ⟨w.heap.size + 1 + 1, 1, none⟩ (.int .i64 0)) := fun w2 hC => hC.put (0, 0)
  have HFIN := Lib.hid hfin
  clear hfin
  by_cases hx : right x n
  · have hy : ¬ right y m := fun e => h ⟨hx, e⟩
    have hc : chk x n = 0 := if_pos hx
    have HC := Lib.hid hc
    have hc2 : chk y m = 2 := if_neg hy
    have HC2 := Lib.hid hc2
    clear hc hc2 h hx hy
    go_enter Try.func81, Try.ntmps81
    go_wp2_with fail
    refine wp_scope_fwd 0 rfl ?_
    go_wp2_with fail
    refine (check_any x n x0 x1 _).mono ?_
    rw [HC.out]
    rintro e w1 ⟨rfl, hb⟩
    have HO1 := Lib.hid (HO.out.below hb)
    have d0 := HO1.out.b.cell 0
    have d1 := HO1.out.b.cell 1
    simp only [List.getElem?_toArray, List.getElem?_cons_zero, List.getElem?_cons_succ] at d0 d1
    clear hb HO
    go_wp2_with fail
    refine (check_any y m y0 y1 _).mono ?_
    rw [HC2.out]
    rintro e w2 ⟨rfl, hb⟩
    have HO2 := Lib.hid (HO1.out.below hb)
    have r0 := HO2.out.r.cell 0
    have r1 := HO2.out.r.cell 1
    have f0 := HO2.out.r.frozen 0
    have f1 := HO2.out.r.frozen 1
    simp only [List.getElem?_toArray, List.getElem?_cons_zero, List.getElem?_cons_succ] at r0 r1
    clear hb d0 d1 HO1
    go_wp2_with fail
    go_step3
    refine ⟨rfl, ?_⟩
    go_wp2_with fail
    rw [Exit.noGoto_ret]
    have hC5 := HFIN.out w2 HO2.out
    have c0 := hC5.r.cell 0
    have c1 := hC5.r.cell 1
    simp only [List.getElem?_toArray, List.getElem?_cons_zero, List.getElem?_cons_succ] at c0 c1
    exact bodyPost_ret (v := .tuple #[pfx 0 0, .int .i64 2]) (by simp [results, Try.results81, go_sem, c0, c1, pfx]) rfl ⟨rfl, hC5.bl⟩
  · have hc : chk x n = 2 := if_neg hx
    have HC := Lib.hid hc
    clear hc h hx
    go_enter Try.func81, Try.ntmps81
    go_wp2_with fail
    refine wp_scope_fwd 0 rfl ?_
    go_wp2_with fail
    refine (check_any x n x0 x1 _).mono ?_
    rw [HC.out]
    rintro e w1 ⟨rfl, hb⟩
    have HO2 := Lib.hid (HO.out.below hb)
    have r0 := HO2.out.r.cell 0
    have r1 := HO2.out.r.cell 1
    have f0 := HO2.out.r.frozen 0
    have f1 := HO2.out.r.frozen 1
    simp only [List.getElem?_toArray, List.getElem?_cons_zero, List.getElem?_cons_succ] at r0 r1
    clear hb HO
    go_wp2_with fail
    go_step3
    refine ⟨rfl, ?_⟩
    go_wp2_with fail
    rw [Exit.noGoto_ret]
    have hC5 := HFIN.out w1 HO2.out
    have c0 := hC5.r.cell 0
    have c1 := hC5.r.cell 1
    simp only [List.getElem?_toArray, List.getElem?_cons_zero, List.getElem?_cons_succ] at c0 c1
    exact bodyPost_ret (v := .tuple #[pfx 0 0, .int .i64 2]) (by simp [results, Try.results81, go_sem, c0, c1, pfx]) rfl ⟨rfl, hC5.bl⟩
end Go.Proofs.Ytghkacciihocdaa
