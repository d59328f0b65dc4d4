/- Contract of layer 3's pieces: bytes, so many each, the last piece with what is left. -/
import Derived.RangeFuncFrom
import Derived.RangeFuncNested
import Derived.RangeFuncBound
import Derived.RangeFuncCalls
import Derived.RangeFuncLeaves
import Derived.Shelf.Abstract
import Derived.Shelf.RegionOpen
import Derived.WalkKit
import Derived.OwnWalkIn
import Derived.TacticsInMore
import Derived.LoopNIn
import Derived.LoopIn
import Derived.RegionIn
import Derived.BigRegionIn
import Derived.Test.YthpmfeijnphdbaaDoorN1
import Derived.Test.YthpmfeijnphdbaaDoorR2
namespace Go.Proofs.YthpmfeijnphdbaaDoor
open Go Go.RowKit Go.Shelf Go.Sort
attribute [local go_sem] Oper.semAt_some

/-- The pieces, from a place on: each with its place and its length. -/
def pcs (k n : Nat) : Nat → Nat → List (Nat × Nat)
  | 0, _ => []
  | f + 1, at_ => if at_ < n then (at_, min k (n - at_)) :: pcs k n f (at_ + k) else []

set_option maxRecDepth 100000 in
set_option maxHeartbeats 3200000 in
theorem pieces1_in (n : Nat) (hn : 1 ≤ n) (l Bo Bk E g cap N k : Nat) (K₀ : Nat → Prop) (hk : 1 ≤ k) (hk4 : k ≤ 4) (hN : N ≤ 1000000) (hcap : N ≤ cap) (q : Option Addr) (hq : 0 < N → q = some ⟨g, 0, none⟩) (ho : K₀ Bo) (hb : K₀ Bk) (J Jx : List (Nat × Nat) → World → Prop) {F : Fence} (hF : F = Fence.wide)
    (hY : ∀ pre x W, x ∈ pcs k N (N + 1) 0 → J pre W → pre.length < (pcs k N (N + 1) 0).length → YieldAt F (n - 1) Tryd.prog l #[.int .i64 x.1, .slice (some ⟨g, x.1, none⟩) x.2 x.2] W fun e W' =>
      Kept2 K₀ E W W' ∧ ((e = .returned (.bool true) ∧ J (pre ++ [x]) W') ∨ (e = .returned (.bool false) ∧ Jx (pre ++ [x]) W')))
    (W : World) (co : W.cell? ⟨Bo, 0, none⟩ = some (.slice q N cap)) (ck : W.cell? ⟨Bk, 0, none⟩ = some (.int .i64 k)) (h0 : J [] W) :
    CallsIn F n Tryd.prog 31 #[.func (.yield l) #[] #[], .pointer (some ⟨Bo, 0, none⟩), .pointer (some ⟨Bk, 0, none⟩)] W fun e W' => (∃ v, e = .returned v) ∧
      ((∃ ys, ys = pcs k N (N + 1) 0 ∧ J ys W') ∨ (∃ pre, pre <+: pcs k N (N + 1) 0 ∧ Jx pre W')) := by
  subst hF
  generalize hLdef : pcs k N (N + 1) 0 = L at *
  have HLd := Lib.hid hLdef
  clear hLdef
  have HY := Lib.hid hY
  clear hY
  refine callsIn_of_wp Tryd.func31 rfl trivial ?_ rfl
  simp only [Tryd.ntmps31, List.size_toArray, List.length_cons, List.length_nil, Nat.reduceAdd, Nat.reduceSub, Array.replicate_succ, Array.replicate_zero, List.push_toArray, List.append_toArray, List.nil_append, List.cons_append]
  gi_wp2
  have HJ0 := Lib.hid h0
  gi_loopw [4] (fun a wr => ∃ (f at_ : Nat) (pre : List (Nat × Nat)), a = .int .i64 at_ ∧ at_ ≤ N + 4 ∧ N < at_ + f ∧ Hid (L = pre ++ pcs k N f at_) ∧ Hid (J pre wr) ∧ wr.cell? ⟨Bo, 0, none⟩ = some (.slice q N cap) ∧ wr.cell? ⟨Bk, 0, none⟩ = some (.int .i64 k))
    (fun a _ => N + 5 - (intOf a).toNat)
  case atStart => exact ⟨N + 1, 0, [], rfl, by omega, by omega, by rw [← HLd.out]; simp [Hid], HJ0, co, ck⟩
  case round =>
    clear HJ0 co ck h0
    obtain ⟨f, at_, pre, rfl, hat, hf, HL, HJ, c0, c1⟩ := hrel
    by_cases hlt : at_ < N
    · obtain rfl := hq (by omega)
      obtain ⟨f, rfl⟩ : ∃ j, f = j + 1 := ⟨f - 1, by omega⟩
      have hL := HL.out
      rw [pcs, if_pos hlt] at hL
      have HL2 := Lib.hid hL
      clear hL HL
      have jz : (at_ : Int) < (N : Int) := by omega
      have hy0 := HY.out pre (at_, min k (N - at_)) wr (by rw [HL2.out]; simp) HJ.out (by rw [HL2.out]; simp)
      obtain ⟨fn, tmps, assign, body, hy, hR⟩ := hy0
      dsimp only at hy
      have HR := Lib.hid hR
      clear hR
      have hlen : (min ((at_ : Int) + (k : Int)) (N : Int)).toNat - at_ = min k (N - at_) := by omega
      rw [← hlen] at hy
      clear hlen
      gi_wp2_with fail
      refine HR.out.mono ?_
      rintro e W3 ⟨hk3, ⟨rfl, hJ3⟩ | ⟨rfl, hJx3⟩⟩
      · have d0 := (hk3.cell (World.block_lt_of_cell? _ _ c0) (.inl ho)).trans c0
        have d1 := (hk3.cell (World.block_lt_of_cell? _ _ c1) (.inl hb)).trans c1
        have hL3 : L = (pre ++ [(at_, min k (N - at_))]) ++ pcs k N f (at_ + k) := by rw [HL2.out]; simp
        have HL3 := Lib.hid hL3
        have HJ3 := Lib.hid hJ3
        clear hk3 hL3 hJ3 hy
        gi_wp2
        go_roundw
        case rel => exact ⟨f, at_ + k, pre ++ [(at_, min k (N - at_))], by congr 1, by omega, by omega, HL3, HJ3, d0, d1⟩
        case measure => simp only [intOf]; omega
      · gi_wp2
        (try simp only [Exit.inBlock, Exit.then])
        refine bodyPost_ret (results_none rfl _ _ _) rfl ?_
        exact ⟨⟨_, rfl⟩, .inr ⟨pre ++ [(at_, min k (N - at_))], ⟨_, by rw [HL2.out, List.append_assoc]; rfl⟩, hJx3⟩⟩
    · have jz : ¬ (at_ : Int) < (N : Int) := by omega
      have hL := HL.out
      have hnil : pcs k N f at_ = [] := by cases f <;> simp [pcs, hlt]
      rw [hnil, List.append_nil] at hL
      have HL2 := Lib.hid hL
      clear hL HL hnil
      gi_wp2
      go_end0
      exact ⟨⟨_, rfl⟩, .inl (by rw [HL2.out]; exact HJ.out)⟩

theorem pieces_any (p : Option Addr) (m c : Nat) (k : Int) (w : World) :
    Calls Tryd.prog 29 #[.slice p m c, .int .i64 k] w fun e w' => e = .returned (.func (.func 31) #[] #[.pointer (some ⟨w.heap.size, 0, none⟩), .pointer (some ⟨w.heap.size + 1, 0, none⟩)]) ∧ w' = (w.alloc (.cells #[.slice p m c] 59)).alloc (.cells #[.int .i64 k] 3) := by
  have hmf : ∀ (fn : Fn) (first cap : Array Value) (w : World), (Instr.makeFunc fn first cap).run Tryd.prog w = .ok (.func fn first cap) w := fun _ _ _ _ => rfl
  go_enter Tryd.func29, Tryd.ntmps29
  go_wp2
  go_ret
  exact ⟨rfl, rfl⟩

/-- A piece, as it is told. -/
abbrev Pc (k N : Nat) := { x : Nat × Nat // x ∈ pcs k N (N + 1) 0 }
theorem pieces_stops (n : Nat) (hn : 1 ≤ n) (Bo Bk g cap N k : Nat) (K₀ : Nat → Prop) (hk : 1 ≤ k) (hk4 : k ≤ 4) (hN : N ≤ 1000000) (hcap : N ≤ cap) (q : Option Addr) (hq : 0 < N → q = some ⟨g, 0, none⟩) (ho : K₀ Bo) (hb : K₀ Bk) (w : World) (lo : Bo < w.heap.size) (lk : Bk < w.heap.size)
    (co : w.cell? ⟨Bo, 0, none⟩ = some (.slice q N cap)) (ck : w.cell? ⟨Bk, 0, none⟩ = some (.int .i64 k)) :
    SeqStopsT Fence.wide n Tryd.prog 31 #[.pointer (some ⟨Bo, 0, none⟩), .pointer (some ⟨Bk, 0, none⟩)] (fun x : Pc k N => #[.int .i64 x.1.1, .slice (some ⟨g, x.1.1, none⟩) x.1.2 x.1.2]) K₀
      (fun ys => ys.map (·.1) = pcs k N (N + 1) 0) (fun pre => pre.map (·.1) <+: pcs k N (N + 1) 0) (pcs k N (N + 1) 0).length w := fun l J Jx W hW _ _ hY h0 => by
  have h := pieces1_in n hn l Bo Bk W.heap.size g cap N k K₀ hk hk4 hN hcap q hq ho hb (fun pre W => ∃ q' : List (Pc k N), q'.map (·.1) = pre ∧ J q' W) (fun pre W => ∃ q' : List (Pc k N), q'.map (·.1) = pre ∧ Jx q' W) rfl
    (fun pre x W1 hx ⟨q, hq, hj⟩ hlen => by
      obtain ⟨fn, tmps, assign, body, hy, hR⟩ := hY q ⟨x, hx⟩ W1 hj (by rw [← hq] at hlen; simpa using hlen)
      refine ⟨fn, tmps, assign, body, hy, hR.mono fun e W' h => ?_⟩
      rcases h with ⟨hk', ⟨he, hj'⟩ | ⟨he, hj'⟩⟩
      · exact ⟨hk', .inl ⟨he, ⟨q ++ [⟨x, hx⟩], by simp [hq], hj'⟩⟩⟩
      · exact ⟨hk', .inr ⟨he, ⟨q ++ [⟨x, hx⟩], by simp [hq], hj'⟩⟩⟩)
    W ((hW.cell (p := ⟨Bo, 0, none⟩) lo).trans co) ((hW.cell (p := ⟨Bk, 0, none⟩) lk).trans ck) ⟨[], rfl, h0⟩
  refine h.mono fun e W' ⟨hv, h⟩ => ⟨hv, ?_⟩
  rcases h with ⟨ys, rfl, q, hq, hj⟩ | ⟨pre, hp, q, hq, hj⟩
  · exact .inl ⟨q, hq, hj⟩
  · exact .inr ⟨q, by show q.map _ <+: _; rw [hq]; exact hp, hj⟩
end Go.Proofs.YthpmfeijnphdbaaDoor
