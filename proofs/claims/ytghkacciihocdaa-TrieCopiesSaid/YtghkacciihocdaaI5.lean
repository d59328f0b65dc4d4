/- Layer 6's program: the iterator over the places on the way to a prefix. -/
import Derived.RangeFuncFrom
import Derived.RangeFuncNested
import Derived.RangeFuncBound
import Derived.RangeFuncCalls
import Derived.RangeFuncLeaves
import Derived.OwnWalkIn
import Derived.TacticsInMore
import Derived.LoopNIn
import Derived.LoopIn
import Derived.RegionIn
import Derived.BigRegionIn
import Derived.Sort.LoopGhostIn
import Derived.Test.YtghkacciihocdaaR2
import Derived.Test.YtghkacciihocdaaI4
namespace Go.Proofs.Ytghkacciihocdaa
open Go Go.RowKit Go.Shelf Go.Sort
attribute [local go_sem] Oper.semAt_some
namespace T6

/-- What the iterator holds: the trie, the prefix. -/
def Boxes (bt bp g : Nat) (p : Key) (W : World) : Prop := W.cell? ⟨bt, 0, none⟩ = some (.pointer (some ⟨g, 0, none⟩)) ∧ W.cell? ⟨bp, 0, none⟩ = some (.int .u32 (kx p)) ∧ W.cell? ⟨bp, 1, none⟩ = some (.int .i64 (kn p))
theorem Boxes.below {bt bp g : Nat} {p : Key} {W W' : World} (h : Boxes bt bp g p W) (hb : Below W.heap.size W W') : Boxes bt bp g p W' :=
  ⟨(hb.cell (p := ⟨bt, 0, none⟩) (World.block_lt_of_cell? _ _ h.1)).trans h.1, (hb.cell (p := ⟨bp, 0, none⟩) (World.block_lt_of_cell? _ _ h.2.1)).trans h.2.1, (hb.cell (p := ⟨bp, 1, none⟩) (World.block_lt_of_cell? _ _ h.2.2)).trans h.2.2⟩
/-- What stands at a place: nothing; or a node, with p beneath it on some side, or not. -/
def Step (p : Key) (a : Addr) (m : Nat) (J : Nat → Addr → World → Prop) (Fin : World → Prop) (W : World) : Prop :=
  (W.cell? a = some (.pointer none) ∧ Fin W) ∨
  ∃ b k h v l r, W.cell? a = some (.pointer (some ⟨b, 0, none⟩)) ∧ Blk W b 81 (cellsN k h v l r) ∧ k.length ≤ 32 ∧
    ((standK k p = 3 ∧ ∃ x m', k ++ [x] <+: p ∧ m' < m ∧ J m' ⟨b, side x, none⟩ W) ∨ (standK k p ≠ 3 ∧ Fin W))

theorem wpIn_region_noPanic {F : Fence} {n : Nat} {P : Program} {id : Nat} {ops : Array Oper} {b : Bool} {Q : Exit → Act → World → Prop} {a : Act} {w : World} (h : (Code.region id ops b).wpIn F n P (NoPanic Q) a w) : (Code.region id ops b).wpIn F n P Q a w :=
  wpIn_mono h fun e _ _ h => by cases e <;> first | exact h | exact h.elim
theorem readyIn_one {F : Fence} {n : Nat} {P : Program} {md : Region.Mode} {ops : Array Oper} {Q : Exit → Act → World → Prop} {fuel : Nat} {listed : Array Bool} {a : Act} {w : World} {i : Nat} {o : Oper} (hr : Region.ready md ops listed = [i]) (ho : ops[i]? = some o)
    (hw : Region.wanted o (yielded ops a.tmps) = true) (h : ∀ K' : Act → World → Prop, Hid (∀ a w, wpAnyIn F n P md ops Q fuel (listed.setIfInBounds i true) a w → K' a w) → Oper.wpIn F n P o a w K' Q) : wpAnyIn F n P md ops Q (fuel + 1) listed a w :=
  wpAnyIn_ready hr (by simp) (AllReadyIn.cons ho (fun K' hK => by rw [if_pos hw]; exact h K' hK) (fun j hj => by simp at hj))
theorem readyIn_two {F : Fence} {n : Nat} {P : Program} {md : Region.Mode} {ops : Array Oper} {Q : Exit → Act → World → Prop} {fuel : Nat} {listed : Array Bool} {a : Act} {w : World} {i j : Nat} {o p : Oper} (hr : Region.ready md ops listed = [i, j]) (ho : ops[i]? = some o) (hp : ops[j]? = some p)
    (hw : Region.wanted o (yielded ops a.tmps) = true) (hv : Region.wanted p (yielded ops a.tmps) = true)
    (h : ∀ K' : Act → World → Prop, Hid (∀ a w, wpAnyIn F n P md ops Q fuel (listed.setIfInBounds i true) a w → K' a w) → Oper.wpIn F n P o a w K' Q)
    (k : ∀ K' : Act → World → Prop, Hid (∀ a w, wpAnyIn F n P md ops Q fuel (listed.setIfInBounds j true) a w → K' a w) → Oper.wpIn F n P p a w K' Q) : wpAnyIn F n P md ops Q (fuel + 1) listed a w :=
  wpAnyIn_ready hr (by simp) (AllReadyIn.cons ho (fun K' hK => by rw [if_pos hw]; exact h K' hK) (AllReadyIn.cons hp (fun K' hK => by rw [if_pos hv]; exact k K' hK) (fun j hj => by simp at hj)))
theorem skipIn_one {F : Fence} {n : Nat} {P : Program} {md : Region.Mode} {ops : Array Oper} {Q : Exit → Act → World → Prop} {fuel : Nat} {listed : Array Bool} {a : Act} {w : World} {i : Nat} {o : Oper} (hr : Region.ready md ops listed = [i]) (ho : ops[i]? = some o)
    (hw : Region.wanted o (yielded ops a.tmps) = false) (hab : ∀ f, F.fn f) (h : wpAnyIn F n P md ops Q fuel (listed.setIfInBounds i true) (a.put o.dst undef) w) : wpAnyIn F n P md ops Q (fuel + 1) listed a w :=
  wpAnyIn_ready hr (by simp) (AllReadyIn.cons ho (fun K' hK => by rw [if_neg (by rw [hw]; decide)]; exact ⟨fun f _ => hab f, hK _ _ h⟩) (fun j hj => by simp at hj))

set_option maxRecDepth 100000 in
set_option maxHeartbeats 3200000 in
theorem down1_in (n : Nat) (hn : 1 ≤ n) (l bt bp g : Nat) (p : Key) (hp : p.length ≤ 32) (J J' : Nat → Addr → World → Prop) (Jx Fin : World → Prop)
    (hJ : ∀ m a W W', J m a W → Below W.heap.size W W' → J m a W') (hF : ∀ W W', Fin W → Below W.heap.size W W' → Fin W')
    (hY : ∀ m a W, J m a W → YieldAt Fence.wide (n - 1) Try.prog l #[.pointer (some a)] W fun e W' => (e = .returned (.bool true) ∧ Boxes bt bp g p W' ∧ J' m a W') ∨ (e = .returned (.bool false) ∧ Jx W'))
    (hS : ∀ m a W, J' m a W → Step p a m J Fin W)
    (m0 : Nat) (W : World) (hB0 : Boxes bt bp g p W) (ht : ∃ v1 v2, Blk W g 73 #[.bool true, v1, v2]) (h0 : J m0 ⟨g, 1, none⟩ W) :
    CallsIn Fence.wide n Try.prog 77 #[.func (.yield l) #[] #[], .pointer (some ⟨bt, 0, none⟩), .pointer (some ⟨bp, 0, none⟩)] W fun e W' => (∃ v, e = .returned v) ∧ (Fin W' ∨ Jx W') := by
  have rp := kx_range hp
  have hc : chk (kx p) (kn p) = 0 := if_pos (kp_right hp)
  have HC := Lib.hid hc
  obtain ⟨v1, v2, ht⟩ := ht
  have HT := Lib.hid ht
  have HS := Lib.hid hS
  have HY := Lib.hid hY
  have HJ := Lib.hid hJ
  have HF := Lib.hid hF
  have HB := Lib.hid hB0
  have HJ0 := Lib.hid h0
  have HST := Lib.hid (fun k hk h v l r b w hb => stands6_any k p hk hp h v l r b w hb)
  have HBN := Lib.hid (fun k x hkp h v l r b w hb => beneath6_any k p x hp hkp h v l r b w hb)
  have HM := Lib.hid (fun (W : World) (h : Blk W g 73 #[.bool true, v1, v2]) => may_any (kx p) (kn p) rp.1 rp.2 W g v1 v2 h)
  obtain ⟨c0, d0, d1⟩ := hB0
  clear hc ht hS hY hJ hF h0
  refine callsIn_of_wp Try.func77 rfl trivial ?_ rfl
  simp only [Try.ntmps77, List.size_toArray, List.length_cons, List.length_nil, Nat.reduceAdd, Nat.reduceSub, Array.replicate_succ, Array.replicate_zero, List.push_toArray, List.append_toArray, List.nil_append, List.cons_append]
  gi_wp2_with fail
  refine ⟨trivial, ?_⟩
  refine (callsIn_wide.2 (HM.out _ HT.out)).mono ?_
  rw [HC.out]
  rintro e w1 ⟨rfl, hb⟩
  have hB1 := HB.out.below hb
  obtain ⟨c0', _, _⟩ := hB1
  have HJ1 := Lib.hid (HJ.out _ _ _ _ HJ0.out hb)
  clear hb c0 d0 d1 HJ0 HB HT HM
  gi_wp2_with fail
  gi_loopg [4] m0 (fun m at_ wr => ∃ a, at_ = .pointer (some a) ∧ Hid (J m a wr))
  case atStart => exact ⟨_, rfl, HJ1⟩
  case round =>
    clear HJ1 c0'
    obtain ⟨a, rfl, HJ2⟩ := hrel
    have hd := below_drew wr
    obtain ⟨fn, tmps, assign, body, hy, hR⟩ := HY.out _ _ _ (HJ.out _ _ _ _ HJ2.out hd)
    have HR := Lib.hid hR
    clear hR hd
    gi_wp2_with fail
    refine wpIn_region_noPanic ?_
    refine wpIn_region_any (by kernel_rfl) ?_
    -- THE ROUND
    refine wpAnyIn_take (i := 0) (v := ?v13) (by rfl) (by rw [List.getElem?_toArray]; exact rfl) (by kernel_rfl) (by kernel_rfl) (by kernel_rfl) (fun _ _ _ h => h) ?hy13 ?rest13
    case hy13 => exact ⟨Or.inl ⟨by rfl, fun w => by go_simp; (try with_reducible rfl)⟩, fun w => by rfl⟩
    try simp only [Act.put, List.setIfInBounds_toArray, List.set_cons_zero, List.set_cons_succ]
    refine wpAnyIn_take (i := 1) (v := ?v14) (by rfl) (by rw [List.getElem?_toArray]; exact rfl) (by kernel_rfl) (by kernel_rfl) (by kernel_rfl) (fun _ _ _ h => h) ?hy14 ?rest14
    case hy14 => exact ⟨Or.inl ⟨by rfl, fun w => by go_simp; (try with_reducible rfl)⟩, fun w => by rfl⟩
    try simp only [Act.put, List.setIfInBounds_toArray, List.set_cons_zero, List.set_cons_succ]
    refine readyIn_one (i := 2) (by kernel_rfl) (by rw [List.getElem?_toArray]; exact rfl) (by kernel_rfl) (fun K1 hK1 => ?_)
    change Oper.wpIn _ _ _ _ _ wr.drew _ _
    go_simp
    refine HR.out.mono ?_
    clear HR hy
    rintro e w3 (⟨rfl, hB3, hJ3⟩ | ⟨rfl, hJx3⟩)
    · have hstep := HS.out _ _ _ hJ3
      obtain ⟨_, d0, d1⟩ := hB3
      clear hJ3 HJ2
      go_simp
      rcases hstep with ⟨ca, hfi⟩ | ⟨b, k, h, v, l', r, ca, hb4, hk, ⟨hst, x, m', hxp, hm', hjn⟩ | ⟨hst, hfi⟩⟩
      · have HFI := Lib.hid hfi
        clear hfi
        refine hK1.out _ _ ?_
        clear hK1 K1
        try simp only [Act.put, List.setIfInBounds_toArray, List.set_cons_zero, List.set_cons_succ]
        refine wpAnyIn_take (i := 3) (v := ?v1) (by rfl) (by rw [List.getElem?_toArray]; exact rfl) (by kernel_rfl) (by kernel_rfl) (by kernel_rfl) (fun _ _ _ h => h) ?hy1 ?rest1
        case hy1 => exact ⟨Or.inl ⟨by rfl, fun w => by go_simp; (try with_reducible rfl)⟩, fun w => by rfl⟩
        try simp only [Act.put, List.setIfInBounds_toArray, List.set_cons_zero, List.set_cons_succ]
        refine wpAnyIn_take (i := 4) (v := ?v2) (by rfl) (by rw [List.getElem?_toArray]; exact rfl) (by kernel_rfl) (by kernel_rfl) (by kernel_rfl) (fun _ _ _ h => h) ?hy2 ?rest2
        case hy2 => exact ⟨Or.inl ⟨by rfl, fun w => by go_simp; (try with_reducible rfl)⟩, fun w => by rfl⟩
        try simp only [Act.put, List.setIfInBounds_toArray, List.set_cons_zero, List.set_cons_succ]
        refine wpAnyIn_take (i := 5) (v := ?v3) (by rfl) (by rw [List.getElem?_toArray]; exact rfl) (by kernel_rfl) (by kernel_rfl) (by kernel_rfl) (fun _ _ _ h => h) ?hy3 ?rest3
        case hy3 => exact ⟨Or.inl ⟨by rfl, fun w => by go_simp; (try with_reducible rfl)⟩, fun w => by rfl⟩
        try simp only [Act.put, List.setIfInBounds_toArray, List.set_cons_zero, List.set_cons_succ]
        refine readyIn_one (i := 6) (by kernel_rfl) (by rw [List.getElem?_toArray]; exact rfl) (by kernel_rfl) (fun K1 hK1 => ?_)
        go_simp
        refine hK1.out _ _ ?_
        clear hK1 K1
        try simp only [Act.put, List.setIfInBounds_toArray, List.set_cons_zero, List.set_cons_succ]
        refine wpAnyIn_take (i := 7) (v := ?v4) (by rfl) (by rw [List.getElem?_toArray]; exact rfl) (by kernel_rfl) (by kernel_rfl) (by kernel_rfl) (fun _ _ _ h => h) ?hy4 ?rest4
        case hy4 => exact ⟨Or.inl ⟨by rfl, fun w => by go_simp; (try with_reducible rfl)⟩, fun w => by rfl⟩
        try simp only [Act.put, List.setIfInBounds_toArray, List.set_cons_zero, List.set_cons_succ]
        refine wpAnyIn_take (i := 8) (v := ?v5) (by rfl) (by rw [List.getElem?_toArray]; exact rfl) (by kernel_rfl) (by kernel_rfl) (by kernel_rfl) (fun _ _ _ h => h) ?hy5 ?rest5
        case hy5 => exact ⟨Or.inl ⟨by rfl, fun w => by go_simp; (try with_reducible rfl)⟩, fun w => by rfl⟩
        try simp only [Act.put, List.setIfInBounds_toArray, List.set_cons_zero, List.set_cons_succ]
        refine wpAnyIn_take (i := 9) (v := ?v6) (by rfl) (by rw [List.getElem?_toArray]; exact rfl) (by kernel_rfl) (by kernel_rfl) (by kernel_rfl) (fun _ _ _ h => h) ?hy6 ?rest6
        case hy6 => exact ⟨Or.inl ⟨by rfl, fun w => by go_simp; (try with_reducible rfl)⟩, fun w => by rfl⟩
        try simp only [Act.put, List.setIfInBounds_toArray, List.set_cons_zero, List.set_cons_succ]
        refine wpAnyIn_take (i := 10) (v := undef) (by rfl) (by rw [List.getElem?_toArray]; exact rfl) (by kernel_rfl) (by kernel_rfl) (by kernel_rfl) (fun _ _ _ h => h) ⟨Or.inr ⟨by rfl, rfl⟩, fun w => by rfl⟩ ?rest7
        try simp only [Act.put, List.setIfInBounds_toArray, List.set_cons_zero, List.set_cons_succ]
        refine wpAnyIn_take (i := 11) (v := undef) (by rfl) (by rw [List.getElem?_toArray]; exact rfl) (by kernel_rfl) (by kernel_rfl) (by kernel_rfl) (fun _ _ _ h => h) ⟨Or.inr ⟨by rfl, rfl⟩, fun w => by rfl⟩ ?rest8
        try simp only [Act.put, List.setIfInBounds_toArray, List.set_cons_zero, List.set_cons_succ]
        refine wpAnyIn_take (i := 12) (v := undef) (by rfl) (by rw [List.getElem?_toArray]; exact rfl) (by kernel_rfl) (by kernel_rfl) (by kernel_rfl) (fun _ _ _ h => h) ⟨Or.inr ⟨by rfl, rfl⟩, fun w => by rfl⟩ ?rest9
        try simp only [Act.put, List.setIfInBounds_toArray, List.set_cons_zero, List.set_cons_succ]
        refine wpAnyIn_take (i := 13) (v := undef) (by rfl) (by rw [List.getElem?_toArray]; exact rfl) (by kernel_rfl) (by kernel_rfl) (by kernel_rfl) (fun _ _ _ h => h) ⟨Or.inr ⟨by rfl, rfl⟩, fun w => by rfl⟩ ?rest10
        try simp only [Act.put, List.setIfInBounds_toArray, List.set_cons_zero, List.set_cons_succ]
        refine skipIn_one (i := 14) (by kernel_rfl) (by rw [List.getElem?_toArray]; exact rfl) (by kernel_rfl) (fun _ => trivial) ?_
        try simp only [Act.put, List.setIfInBounds_toArray, List.set_cons_zero, List.set_cons_succ]
        refine wpAnyIn_take (i := 15) (v := undef) (by rfl) (by rw [List.getElem?_toArray]; exact rfl) (by kernel_rfl) (by kernel_rfl) (by kernel_rfl) (fun _ _ _ h => h) ⟨Or.inr ⟨by rfl, rfl⟩, fun w => by rfl⟩ ?rest11
        try simp only [Act.put, List.setIfInBounds_toArray, List.set_cons_zero, List.set_cons_succ]
        refine wpAnyIn_take (i := 16) (v := ?v12) (by rfl) (by rw [List.getElem?_toArray]; exact rfl) (by kernel_rfl) (by kernel_rfl) (by kernel_rfl) (fun _ _ _ h => h) ?hy12 ?rest12
        case hy12 => exact ⟨Or.inl ⟨by rfl, fun w => by go_simp; (try with_reducible rfl)⟩, fun w => by rfl⟩
        try simp only [Act.put, List.setIfInBounds_toArray, List.set_cons_zero, List.set_cons_succ]
        refine wpAnyIn_done (by kernel_rfl) ?_ _
        refine NoPanic.normal ?_
        gi_wp2
        go_end0
        exact ⟨⟨_, rfl⟩, .inl HFI.out⟩
      · have HJN := Lib.hid hjn
        have HBQ := Lib.hid (HBN.out k x hxp h v l' r b)
        clear hjn
        rw [show (3 : Int) = 3 from rfl] at hst
        have HST := Lib.hid (fun k' hk' h v l r b w hb => stands6_any k' p hk' hp h v l r b w hb)
        refine hK1.out _ _ ?_
        clear hK1 K1
        try simp only [Act.put, List.setIfInBounds_toArray, List.set_cons_zero, List.set_cons_succ]
        refine wpAnyIn_take (i := 3) (v := ?v15) (by rfl) (by rw [List.getElem?_toArray]; exact rfl) (by kernel_rfl) (by kernel_rfl) (by kernel_rfl) (fun _ _ _ h => h) ?hy15 ?rest15
        case hy15 => exact ⟨Or.inl ⟨by rfl, fun w => by go_simp; (try with_reducible rfl)⟩, fun w => by rfl⟩
        try simp only [Act.put, List.setIfInBounds_toArray, List.set_cons_zero, List.set_cons_succ]
        refine wpAnyIn_take (i := 4) (v := ?v16) (by rfl) (by rw [List.getElem?_toArray]; exact rfl) (by kernel_rfl) (by kernel_rfl) (by kernel_rfl) (fun _ _ _ h => h) ?hy16 ?rest16
        case hy16 => exact ⟨Or.inl ⟨by rfl, fun w => by go_simp; (try with_reducible rfl)⟩, fun w => by rfl⟩
        try simp only [Act.put, List.setIfInBounds_toArray, List.set_cons_zero, List.set_cons_succ]
        refine wpAnyIn_take (i := 5) (v := ?v17) (by rfl) (by rw [List.getElem?_toArray]; exact rfl) (by kernel_rfl) (by kernel_rfl) (by kernel_rfl) (fun _ _ _ h => h) ?hy17 ?rest17
        case hy17 => exact ⟨Or.inl ⟨by rfl, fun w => by go_simp; (try with_reducible rfl)⟩, fun w => by rfl⟩
        try simp only [Act.put, List.setIfInBounds_toArray, List.set_cons_zero, List.set_cons_succ]
        refine readyIn_one (i := 6) (by kernel_rfl) (by rw [List.getElem?_toArray]; exact rfl) (by kernel_rfl) (fun K1 hK1 => ?_)
        go_simp
        refine hK1.out _ _ ?_
        clear hK1 K1
        try simp only [Act.put, List.setIfInBounds_toArray, List.set_cons_zero, List.set_cons_succ]
        refine wpAnyIn_take (i := 7) (v := ?v18) (by rfl) (by rw [List.getElem?_toArray]; exact rfl) (by kernel_rfl) (by kernel_rfl) (by kernel_rfl) (fun _ _ _ h => h) ?hy18 ?rest18
        case hy18 => exact ⟨Or.inl ⟨by rfl, fun w => by go_simp; (try with_reducible rfl)⟩, fun w => by rfl⟩
        try simp only [Act.put, List.setIfInBounds_toArray, List.set_cons_zero, List.set_cons_succ]
        refine wpAnyIn_take (i := 8) (v := ?v19) (by rfl) (by rw [List.getElem?_toArray]; exact rfl) (by kernel_rfl) (by kernel_rfl) (by kernel_rfl) (fun _ _ _ h => h) ?hy19 ?rest19
        case hy19 => exact ⟨Or.inl ⟨by rfl, fun w => by go_simp; (try with_reducible rfl)⟩, fun w => by rfl⟩
        try simp only [Act.put, List.setIfInBounds_toArray, List.set_cons_zero, List.set_cons_succ]
        refine wpAnyIn_take (i := 9) (v := ?v20) (by rfl) (by rw [List.getElem?_toArray]; exact rfl) (by kernel_rfl) (by kernel_rfl) (by kernel_rfl) (fun _ _ _ h => h) ?hy20 ?rest20
        case hy20 => exact ⟨Or.inl ⟨by rfl, fun w => by go_simp; (try with_reducible rfl)⟩, fun w => by rfl⟩
        try simp only [Act.put, List.setIfInBounds_toArray, List.set_cons_zero, List.set_cons_succ]
        refine wpAnyIn_take (i := 10) (v := ?v21) (by rfl) (by rw [List.getElem?_toArray]; exact rfl) (by kernel_rfl) (by kernel_rfl) (by kernel_rfl) (fun _ _ _ h => h) ?hy21 ?rest21
        case hy21 => exact ⟨Or.inl ⟨by rfl, fun w => by go_simp; (try with_reducible rfl)⟩, fun w => by rfl⟩
        try simp only [Act.put, List.setIfInBounds_toArray, List.set_cons_zero, List.set_cons_succ]
        refine wpAnyIn_take (i := 11) (v := ?v22) (by rfl) (by rw [List.getElem?_toArray]; exact rfl) (by kernel_rfl) (by kernel_rfl) (by kernel_rfl) (fun _ _ _ h => h) ?hy22 ?rest22
        case hy22 => exact ⟨Or.inl ⟨by rfl, fun w => by go_simp; (try with_reducible rfl)⟩, fun w => by rfl⟩
        try simp only [Act.put, List.setIfInBounds_toArray, List.set_cons_zero, List.set_cons_succ]
        refine readyIn_two (i := 12) (j := 13) (by kernel_rfl) (by rw [List.getElem?_toArray]; exact rfl) (by rw [List.getElem?_toArray]; exact rfl) (by kernel_rfl) (by kernel_rfl) (fun K1 hK1 => ?_) (fun K1 hK1 => ?_)
        · go_simp
          refine hK1.out _ _ ?_
          clear hK1 K1
          try simp only [Act.put, List.setIfInBounds_toArray, List.set_cons_zero, List.set_cons_succ]
          refine readyIn_one (i := 13) (by kernel_rfl) (by rw [List.getElem?_toArray]; exact rfl) (by kernel_rfl) (fun K1 hK1 => ?_)
          go_simp
          refine hK1.out _ _ ?_
          clear hK1 K1
          try simp only [Act.put, List.setIfInBounds_toArray, List.set_cons_zero, List.set_cons_succ]
          refine readyIn_one (i := 14) (by kernel_rfl) (by rw [List.getElem?_toArray]; exact rfl) (by kernel_rfl) (fun K1 hK1 => ?_)
          go_simp
          refine ⟨trivial, ?_⟩
          refine (callsIn_wide.2 (HST.out k hk h v l' r b _ hb4)).mono ?_
          rintro e w4 ⟨rfl, hb5⟩
          go_simp
          refine hK1.out _ _ ?_
          clear hK1 K1
          try simp only [Act.put, List.setIfInBounds_toArray, List.set_cons_zero, List.set_cons_succ]
          refine wpAnyIn_take (i := 15) (v := ?v23) (by rfl) (by rw [List.getElem?_toArray]; exact rfl) (by kernel_rfl) (by kernel_rfl) (by kernel_rfl) (fun _ _ _ h => h) ?hy23 ?rest23
          case hy23 => exact ⟨Or.inl ⟨by rfl, fun w => by go_simp; (try with_reducible rfl)⟩, fun w => by rfl⟩
          try simp only [Act.put, List.setIfInBounds_toArray, List.set_cons_zero, List.set_cons_succ]
          refine wpAnyIn_take (i := 16) (v := ?v24) (by rfl) (by rw [List.getElem?_toArray]; exact rfl) (by kernel_rfl) (by kernel_rfl) (by kernel_rfl) (fun _ _ _ h => h) ?hy24 ?rest24
          case hy24 => exact ⟨Or.inl ⟨by rfl, fun w => by go_simp; (try with_reducible rfl)⟩, fun w => by rfl⟩
          try simp only [Act.put, List.setIfInBounds_toArray, List.set_cons_zero, List.set_cons_succ]
          refine wpAnyIn_done (by kernel_rfl) ?_ _
          refine NoPanic.normal ?_
          have hb6 := hb4.below hb5 hb4.lt
          have HJ6 := Lib.hid (HJ.out _ _ _ _ HJN.out hb5)
          have c6 := (hb5.cell (p := a) (World.block_lt_of_cell? _ _ ca)).trans ca
          have d60 := (hb5.cell (p := ⟨bp, 0, none⟩) (World.block_lt_of_cell? _ _ d0)).trans d0
          have d61 := (hb5.cell (p := ⟨bp, 1, none⟩) (World.block_lt_of_cell? _ _ d1)).trans d1
          have HB6 := Lib.hid hb6
          clear ca d0 d1 hb4 hb5 hb6 HJN
          gi_wp2_with fail
          have k60 := cell_regrown c6
          have k61 := cell_regrown d60
          have k62 := cell_regrown d61
          have cS : ∀ d os, Calls Try.prog 79 #[.pointer (some ⟨b, 0, none⟩), pfx (kx p) (kn p)] (grow (redrawn w4 d) os) fun e w'' => e = .returned (.pointer (some ⟨b, side x, none⟩)) ∧ ∃ p : Regrown, w'' = grow (redrawn w4 p.d) p.os := fun d os => Calls.regrown_of (HBQ.out _ (HB6.out.below (below_regrown w4 d os) HB6.out.lt))
          clear c6 d60 d61
          refine wpIn_wide.2 ?_
          refine wp_region_quiet_below (by kernel_rfl) (by kernel_rfl) ?_
          repeat (quiet_step (with_reducible exact cS _ _))
          refine wpQuiet_nil ?_
          intro w5 hw5
          obtain ⟨⟨dq, osq⟩, rfl⟩ := hw5
          have HJ7 := Lib.hid (HJ.out _ _ _ _ HJ6.out (below_regrown w4 dq osq))
          clear cS k60 k61 k62 HB6 HJ6
          generalize grow (redrawn w4 dq) osq = w5 at *
          gi_wp2
          gi_roundg m'
          case rel => exact ⟨_, rfl, HJ7⟩
          case measure => exact hm'
        · go_simp
          refine hK1.out _ _ ?_
          clear hK1 K1
          try simp only [Act.put, List.setIfInBounds_toArray, List.set_cons_zero, List.set_cons_succ]
          refine readyIn_one (i := 12) (by kernel_rfl) (by rw [List.getElem?_toArray]; exact rfl) (by kernel_rfl) (fun K1 hK1 => ?_)
          go_simp
          refine hK1.out _ _ ?_
          clear hK1 K1
          try simp only [Act.put, List.setIfInBounds_toArray, List.set_cons_zero, List.set_cons_succ]
          refine readyIn_one (i := 14) (by kernel_rfl) (by rw [List.getElem?_toArray]; exact rfl) (by kernel_rfl) (fun K1 hK1 => ?_)
          go_simp
          refine ⟨trivial, ?_⟩
          refine (callsIn_wide.2 (HST.out k hk h v l' r b _ hb4)).mono ?_
          rintro e w4 ⟨rfl, hb5⟩
          go_simp
          refine hK1.out _ _ ?_
          clear hK1 K1
          try simp only [Act.put, List.setIfInBounds_toArray, List.set_cons_zero, List.set_cons_succ]
          refine wpAnyIn_take (i := 15) (v := ?v25) (by rfl) (by rw [List.getElem?_toArray]; exact rfl) (by kernel_rfl) (by kernel_rfl) (by kernel_rfl) (fun _ _ _ h => h) ?hy25 ?rest25
          case hy25 => exact ⟨Or.inl ⟨by rfl, fun w => by go_simp; (try with_reducible rfl)⟩, fun w => by rfl⟩
          try simp only [Act.put, List.setIfInBounds_toArray, List.set_cons_zero, List.set_cons_succ]
          refine wpAnyIn_take (i := 16) (v := ?v26) (by rfl) (by rw [List.getElem?_toArray]; exact rfl) (by kernel_rfl) (by kernel_rfl) (by kernel_rfl) (fun _ _ _ h => h) ?hy26 ?rest26
          case hy26 => exact ⟨Or.inl ⟨by rfl, fun w => by go_simp; (try with_reducible rfl)⟩, fun w => by rfl⟩
          try simp only [Act.put, List.setIfInBounds_toArray, List.set_cons_zero, List.set_cons_succ]
          refine wpAnyIn_done (by kernel_rfl) ?_ _
          refine NoPanic.normal ?_
          have hb6 := hb4.below hb5 hb4.lt
          have HJ6 := Lib.hid (HJ.out _ _ _ _ HJN.out hb5)
          have c6 := (hb5.cell (p := a) (World.block_lt_of_cell? _ _ ca)).trans ca
          have d60 := (hb5.cell (p := ⟨bp, 0, none⟩) (World.block_lt_of_cell? _ _ d0)).trans d0
          have d61 := (hb5.cell (p := ⟨bp, 1, none⟩) (World.block_lt_of_cell? _ _ d1)).trans d1
          have HB6 := Lib.hid hb6
          clear ca d0 d1 hb4 hb5 hb6 HJN
          gi_wp2_with fail
          have k60 := cell_regrown c6
          have k61 := cell_regrown d60
          have k62 := cell_regrown d61
          have cS : ∀ d os, Calls Try.prog 79 #[.pointer (some ⟨b, 0, none⟩), pfx (kx p) (kn p)] (grow (redrawn w4 d) os) fun e w'' => e = .returned (.pointer (some ⟨b, side x, none⟩)) ∧ ∃ p : Regrown, w'' = grow (redrawn w4 p.d) p.os := fun d os => Calls.regrown_of (HBQ.out _ (HB6.out.below (below_regrown w4 d os) HB6.out.lt))
          clear c6 d60 d61
          refine wpIn_wide.2 ?_
          refine wp_region_quiet_below (by kernel_rfl) (by kernel_rfl) ?_
          repeat (quiet_step (with_reducible exact cS _ _))
          refine wpQuiet_nil ?_
          intro w5 hw5
          obtain ⟨⟨dq, osq⟩, rfl⟩ := hw5
          have HJ7 := Lib.hid (HJ.out _ _ _ _ HJ6.out (below_regrown w4 dq osq))
          clear cS k60 k61 k62 HB6 HJ6
          generalize grow (redrawn w4 dq) osq = w5 at *
          gi_wp2
          gi_roundg m'
          case rel => exact ⟨_, rfl, HJ7⟩
          case measure => exact hm'
      · have HFI := Lib.hid hfi
        have hst' : (standK k p == 3) = false := by simpa using hst
        clear hfi hst
        refine hK1.out _ _ ?_
        clear hK1 K1
        try simp only [Act.put, List.setIfInBounds_toArray, List.set_cons_zero, List.set_cons_succ]
        refine wpAnyIn_take (i := 3) (v := ?v27) (by rfl) (by rw [List.getElem?_toArray]; exact rfl) (by kernel_rfl) (by kernel_rfl) (by kernel_rfl) (fun _ _ _ h => h) ?hy27 ?rest27
        case hy27 => exact ⟨Or.inl ⟨by rfl, fun w => by go_simp; (try with_reducible rfl)⟩, fun w => by rfl⟩
        try simp only [Act.put, List.setIfInBounds_toArray, List.set_cons_zero, List.set_cons_succ]
        refine wpAnyIn_take (i := 4) (v := ?v28) (by rfl) (by rw [List.getElem?_toArray]; exact rfl) (by kernel_rfl) (by kernel_rfl) (by kernel_rfl) (fun _ _ _ h => h) ?hy28 ?rest28
        case hy28 => exact ⟨Or.inl ⟨by rfl, fun w => by go_simp; (try with_reducible rfl)⟩, fun w => by rfl⟩
        try simp only [Act.put, List.setIfInBounds_toArray, List.set_cons_zero, List.set_cons_succ]
        refine wpAnyIn_take (i := 5) (v := ?v29) (by rfl) (by rw [List.getElem?_toArray]; exact rfl) (by kernel_rfl) (by kernel_rfl) (by kernel_rfl) (fun _ _ _ h => h) ?hy29 ?rest29
        case hy29 => exact ⟨Or.inl ⟨by rfl, fun w => by go_simp; (try with_reducible rfl)⟩, fun w => by rfl⟩
        try simp only [Act.put, List.setIfInBounds_toArray, List.set_cons_zero, List.set_cons_succ]
        refine readyIn_one (i := 6) (by kernel_rfl) (by rw [List.getElem?_toArray]; exact rfl) (by kernel_rfl) (fun K1 hK1 => ?_)
        go_simp
        refine hK1.out _ _ ?_
        clear hK1 K1
        try simp only [Act.put, List.setIfInBounds_toArray, List.set_cons_zero, List.set_cons_succ]
        refine wpAnyIn_take (i := 7) (v := ?v30) (by rfl) (by rw [List.getElem?_toArray]; exact rfl) (by kernel_rfl) (by kernel_rfl) (by kernel_rfl) (fun _ _ _ h => h) ?hy30 ?rest30
        case hy30 => exact ⟨Or.inl ⟨by rfl, fun w => by go_simp; (try with_reducible rfl)⟩, fun w => by rfl⟩
        try simp only [Act.put, List.setIfInBounds_toArray, List.set_cons_zero, List.set_cons_succ]
        refine wpAnyIn_take (i := 8) (v := ?v31) (by rfl) (by rw [List.getElem?_toArray]; exact rfl) (by kernel_rfl) (by kernel_rfl) (by kernel_rfl) (fun _ _ _ h => h) ?hy31 ?rest31
        case hy31 => exact ⟨Or.inl ⟨by rfl, fun w => by go_simp; (try with_reducible rfl)⟩, fun w => by rfl⟩
        try simp only [Act.put, List.setIfInBounds_toArray, List.set_cons_zero, List.set_cons_succ]
        refine wpAnyIn_take (i := 9) (v := ?v32) (by rfl) (by rw [List.getElem?_toArray]; exact rfl) (by kernel_rfl) (by kernel_rfl) (by kernel_rfl) (fun _ _ _ h => h) ?hy32 ?rest32
        case hy32 => exact ⟨Or.inl ⟨by rfl, fun w => by go_simp; (try with_reducible rfl)⟩, fun w => by rfl⟩
        try simp only [Act.put, List.setIfInBounds_toArray, List.set_cons_zero, List.set_cons_succ]
        refine wpAnyIn_take (i := 10) (v := ?v33) (by rfl) (by rw [List.getElem?_toArray]; exact rfl) (by kernel_rfl) (by kernel_rfl) (by kernel_rfl) (fun _ _ _ h => h) ?hy33 ?rest33
        case hy33 => exact ⟨Or.inl ⟨by rfl, fun w => by go_simp; (try with_reducible rfl)⟩, fun w => by rfl⟩
        try simp only [Act.put, List.setIfInBounds_toArray, List.set_cons_zero, List.set_cons_succ]
        refine wpAnyIn_take (i := 11) (v := ?v34) (by rfl) (by rw [List.getElem?_toArray]; exact rfl) (by kernel_rfl) (by kernel_rfl) (by kernel_rfl) (fun _ _ _ h => h) ?hy34 ?rest34
        case hy34 => exact ⟨Or.inl ⟨by rfl, fun w => by go_simp; (try with_reducible rfl)⟩, fun w => by rfl⟩
        try simp only [Act.put, List.setIfInBounds_toArray, List.set_cons_zero, List.set_cons_succ]
        refine readyIn_two (i := 12) (j := 13) (by kernel_rfl) (by rw [List.getElem?_toArray]; exact rfl) (by rw [List.getElem?_toArray]; exact rfl) (by kernel_rfl) (by kernel_rfl) (fun K1 hK1 => ?_) (fun K1 hK1 => ?_)
        · go_simp
          refine hK1.out _ _ ?_
          clear hK1 K1
          try simp only [Act.put, List.setIfInBounds_toArray, List.set_cons_zero, List.set_cons_succ]
          refine readyIn_one (i := 13) (by kernel_rfl) (by rw [List.getElem?_toArray]; exact rfl) (by kernel_rfl) (fun K1 hK1 => ?_)
          go_simp
          refine hK1.out _ _ ?_
          clear hK1 K1
          try simp only [Act.put, List.setIfInBounds_toArray, List.set_cons_zero, List.set_cons_succ]
          refine readyIn_one (i := 14) (by kernel_rfl) (by rw [List.getElem?_toArray]; exact rfl) (by kernel_rfl) (fun K1 hK1 => ?_)
          go_simp
          refine ⟨trivial, ?_⟩
          refine (callsIn_wide.2 (HST.out k hk h v l' r b _ hb4)).mono ?_
          rintro e w4 ⟨rfl, hb5⟩
          go_simp
          refine hK1.out _ _ ?_
          clear hK1 K1
          try simp only [Act.put, List.setIfInBounds_toArray, List.set_cons_zero, List.set_cons_succ]
          refine wpAnyIn_take (i := 15) (v := ?v35) (by rfl) (by rw [List.getElem?_toArray]; exact rfl) (by kernel_rfl) (by kernel_rfl) (by kernel_rfl) (fun _ _ _ h => h) ?hy35 ?rest35
          case hy35 => exact ⟨Or.inl ⟨by rfl, fun w => by go_simp; (try with_reducible rfl)⟩, fun w => by rfl⟩
          try simp only [Act.put, List.setIfInBounds_toArray, List.set_cons_zero, List.set_cons_succ]
          refine wpAnyIn_take (i := 16) (v := ?v36) (by rfl) (by rw [List.getElem?_toArray]; exact rfl) (by kernel_rfl) (by kernel_rfl) (by kernel_rfl) (fun _ _ _ h => h) ?hy36 ?rest36
          case hy36 => exact ⟨Or.inl ⟨by rfl, fun w => by go_simp; (try with_reducible rfl)⟩, fun w => by rfl⟩
          try simp only [Act.put, List.setIfInBounds_toArray, List.set_cons_zero, List.set_cons_succ]
          refine wpAnyIn_done (by kernel_rfl) ?_ _
          refine NoPanic.normal ?_
          have HF5 := Lib.hid (HF.out _ _ HFI.out hb5)
          gi_wp2
          go_end0
          exact ⟨⟨_, rfl⟩, .inl HF5.out⟩
        · go_simp
          refine hK1.out _ _ ?_
          clear hK1 K1
          try simp only [Act.put, List.setIfInBounds_toArray, List.set_cons_zero, List.set_cons_succ]
          refine readyIn_one (i := 12) (by kernel_rfl) (by rw [List.getElem?_toArray]; exact rfl) (by kernel_rfl) (fun K1 hK1 => ?_)
          go_simp
          refine hK1.out _ _ ?_
          clear hK1 K1
          try simp only [Act.put, List.setIfInBounds_toArray, List.set_cons_zero, List.set_cons_succ]
          refine readyIn_one (i := 14) (by kernel_rfl) (by rw [List.getElem?_toArray]; exact rfl) (by kernel_rfl) (fun K1 hK1 => ?_)
          go_simp
          refine ⟨trivial, ?_⟩
          refine (callsIn_wide.2 (HST.out k hk h v l' r b _ hb4)).mono ?_
          rintro e w4 ⟨rfl, hb5⟩
          go_simp
          refine hK1.out _ _ ?_
          clear hK1 K1
          try simp only [Act.put, List.setIfInBounds_toArray, List.set_cons_zero, List.set_cons_succ]
          refine wpAnyIn_take (i := 15) (v := ?v37) (by rfl) (by rw [List.getElem?_toArray]; exact rfl) (by kernel_rfl) (by kernel_rfl) (by kernel_rfl) (fun _ _ _ h => h) ?hy37 ?rest37
          case hy37 => exact ⟨Or.inl ⟨by rfl, fun w => by go_simp; (try with_reducible rfl)⟩, fun w => by rfl⟩
          try simp only [Act.put, List.setIfInBounds_toArray, List.set_cons_zero, List.set_cons_succ]
          refine wpAnyIn_take (i := 16) (v := ?v38) (by rfl) (by rw [List.getElem?_toArray]; exact rfl) (by kernel_rfl) (by kernel_rfl) (by kernel_rfl) (fun _ _ _ h => h) ?hy38 ?rest38
          case hy38 => exact ⟨Or.inl ⟨by rfl, fun w => by go_simp; (try with_reducible rfl)⟩, fun w => by rfl⟩
          try simp only [Act.put, List.setIfInBounds_toArray, List.set_cons_zero, List.set_cons_succ]
          refine wpAnyIn_done (by kernel_rfl) ?_ _
          refine NoPanic.normal ?_
          have HF5 := Lib.hid (HF.out _ _ HFI.out hb5)
          gi_wp2
          go_end0
          exact ⟨⟨_, rfl⟩, .inl HF5.out⟩
    · have HJX := Lib.hid hJx3
      clear hJx3
      go_simp
      refine hK1.out _ _ ?_
      clear hK1 K1
      try simp only [Act.put, List.setIfInBounds_toArray, List.set_cons_zero, List.set_cons_succ]
      refine wpAnyIn_take (i := 3) (v := ?v39) (by rfl) (by rw [List.getElem?_toArray]; exact rfl) (by kernel_rfl) (by kernel_rfl) (by kernel_rfl) (fun _ _ _ h => h) ?hy39 ?rest39
      case hy39 => exact ⟨Or.inl ⟨by rfl, fun w => by go_simp; (try with_reducible rfl)⟩, fun w => by rfl⟩
      try simp only [Act.put, List.setIfInBounds_toArray, List.set_cons_zero, List.set_cons_succ]
      refine wpAnyIn_take (i := 4) (v := undef) (by rfl) (by rw [List.getElem?_toArray]; exact rfl) (by kernel_rfl) (by kernel_rfl) (by kernel_rfl) (fun _ _ _ h => h) ⟨Or.inr ⟨by rfl, rfl⟩, fun w => by rfl⟩ ?rest40
      try simp only [Act.put, List.setIfInBounds_toArray, List.set_cons_zero, List.set_cons_succ]
      refine wpAnyIn_take (i := 5) (v := undef) (by rfl) (by rw [List.getElem?_toArray]; exact rfl) (by kernel_rfl) (by kernel_rfl) (by kernel_rfl) (fun _ _ _ h => h) ⟨Or.inr ⟨by rfl, rfl⟩, fun w => by rfl⟩ ?rest41
      try simp only [Act.put, List.setIfInBounds_toArray, List.set_cons_zero, List.set_cons_succ]
      refine wpAnyIn_take (i := 6) (v := undef) (by rfl) (by rw [List.getElem?_toArray]; exact rfl) (by kernel_rfl) (by kernel_rfl) (by kernel_rfl) (fun _ _ _ h => h) ⟨Or.inr ⟨by rfl, rfl⟩, fun w => by rfl⟩ ?rest42
      try simp only [Act.put, List.setIfInBounds_toArray, List.set_cons_zero, List.set_cons_succ]
      refine wpAnyIn_take (i := 7) (v := undef) (by rfl) (by rw [List.getElem?_toArray]; exact rfl) (by kernel_rfl) (by kernel_rfl) (by kernel_rfl) (fun _ _ _ h => h) ⟨Or.inr ⟨by rfl, rfl⟩, fun w => by rfl⟩ ?rest43
      try simp only [Act.put, List.setIfInBounds_toArray, List.set_cons_zero, List.set_cons_succ]
      refine wpAnyIn_take (i := 8) (v := ?v44) (by rfl) (by rw [List.getElem?_toArray]; exact rfl) (by kernel_rfl) (by kernel_rfl) (by kernel_rfl) (fun _ _ _ h => h) ?hy44 ?rest44
      case hy44 => exact ⟨Or.inl ⟨by rfl, fun w => by go_simp; (try with_reducible rfl)⟩, fun w => by rfl⟩
      try simp only [Act.put, List.setIfInBounds_toArray, List.set_cons_zero, List.set_cons_succ]
      refine wpAnyIn_take (i := 9) (v := ?v45) (by rfl) (by rw [List.getElem?_toArray]; exact rfl) (by kernel_rfl) (by kernel_rfl) (by kernel_rfl) (fun _ _ _ h => h) ?hy45 ?rest45
      case hy45 => exact ⟨Or.inl ⟨by rfl, fun w => by go_simp; (try with_reducible rfl)⟩, fun w => by rfl⟩
      try simp only [Act.put, List.setIfInBounds_toArray, List.set_cons_zero, List.set_cons_succ]
      refine wpAnyIn_take (i := 10) (v := undef) (by rfl) (by rw [List.getElem?_toArray]; exact rfl) (by kernel_rfl) (by kernel_rfl) (by kernel_rfl) (fun _ _ _ h => h) ⟨Or.inr ⟨by rfl, rfl⟩, fun w => by rfl⟩ ?rest46
      try simp only [Act.put, List.setIfInBounds_toArray, List.set_cons_zero, List.set_cons_succ]
      refine wpAnyIn_take (i := 11) (v := undef) (by rfl) (by rw [List.getElem?_toArray]; exact rfl) (by kernel_rfl) (by kernel_rfl) (by kernel_rfl) (fun _ _ _ h => h) ⟨Or.inr ⟨by rfl, rfl⟩, fun w => by rfl⟩ ?rest47
      try simp only [Act.put, List.setIfInBounds_toArray, List.set_cons_zero, List.set_cons_succ]
      refine wpAnyIn_take (i := 12) (v := undef) (by rfl) (by rw [List.getElem?_toArray]; exact rfl) (by kernel_rfl) (by kernel_rfl) (by kernel_rfl) (fun _ _ _ h => h) ⟨Or.inr ⟨by rfl, rfl⟩, fun w => by rfl⟩ ?rest48
      try simp only [Act.put, List.setIfInBounds_toArray, List.set_cons_zero, List.set_cons_succ]
      refine wpAnyIn_take (i := 13) (v := undef) (by rfl) (by rw [List.getElem?_toArray]; exact rfl) (by kernel_rfl) (by kernel_rfl) (by kernel_rfl) (fun _ _ _ h => h) ⟨Or.inr ⟨by rfl, rfl⟩, fun w => by rfl⟩ ?rest49
      try simp only [Act.put, List.setIfInBounds_toArray, List.set_cons_zero, List.set_cons_succ]
      refine skipIn_one (i := 14) (by kernel_rfl) (by rw [List.getElem?_toArray]; exact rfl) (by kernel_rfl) (fun _ => trivial) ?_
      try simp only [Act.put, List.setIfInBounds_toArray, List.set_cons_zero, List.set_cons_succ]
      refine wpAnyIn_take (i := 15) (v := undef) (by rfl) (by rw [List.getElem?_toArray]; exact rfl) (by kernel_rfl) (by kernel_rfl) (by kernel_rfl) (fun _ _ _ h => h) ⟨Or.inr ⟨by rfl, rfl⟩, fun w => by rfl⟩ ?rest50
      try simp only [Act.put, List.setIfInBounds_toArray, List.set_cons_zero, List.set_cons_succ]
      refine wpAnyIn_take (i := 16) (v := ?v51) (by rfl) (by rw [List.getElem?_toArray]; exact rfl) (by kernel_rfl) (by kernel_rfl) (by kernel_rfl) (fun _ _ _ h => h) ?hy51 ?rest51
      case hy51 => exact ⟨Or.inl ⟨by rfl, fun w => by go_simp; (try with_reducible rfl)⟩, fun w => by rfl⟩
      try simp only [Act.put, List.setIfInBounds_toArray, List.set_cons_zero, List.set_cons_succ]
      refine wpAnyIn_done (by kernel_rfl) ?_ _
      refine NoPanic.normal ?_
      gi_wp2
      go_end0
      exact ⟨⟨_, rfl⟩, .inr HJX.out⟩
end T6
end Go.Proofs.Ytghkacciihocdaa
