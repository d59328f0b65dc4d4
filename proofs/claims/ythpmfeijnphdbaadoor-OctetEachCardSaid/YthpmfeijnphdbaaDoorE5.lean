/- Each of layer 3, for a range over it; what it tells, number by number. -/
import Derived.Test.YthpmfeijnphdbaaDoorE4
import Derived.Test.YthpmfeijnphdbaaDoorN4
namespace Go.Proofs.YthpmfeijnphdbaaDoor
open Go Go.RowKit Go.Shelf Go.Sort
attribute [local go_sem] Oper.semAt_some

/-- The numbers from a place on. -/
def numR (k : Nat) (xs : List Int) : Nat → Nat → List (Int × Int)
  | 0, _ => []
  | f + 1, at_ => if at_ + k ≤ xs.length then ((at_ : Int), readN xs at_ k) :: numR k xs f (at_ + k) else []

theorem readN_at {k : Nat} (hk : k = 1 ∨ k = 2 ∨ k = 4) {xs : List Int} {at_ : Nat} (h : at_ + k ≤ xs.length) : readN xs at_ k = valB ((xs.drop at_).take k) := by
  have hw : W3 (k : Int) := by rcases hk with rfl | rfl | rfl <;> simp [W3]
  have hz : readNo xs at_ k = 0 := by
    unfold readNo
    rw [if_neg (not_not_intro hw), if_neg (by omega), if_neg (by omega)]
  unfold readN
  rw [if_pos hz]
  simp

theorem pcs_numR {k : Nat} (hk : k = 1 ∨ k = 2 ∨ k = 4) (xs : List Int) : ∀ f at_ : Nat, ((pcs k xs.length f at_).takeWhile (fun x => x.2 == k)).map (tellP xs) = numR k xs f at_
  | 0, _ => rfl
  | f + 1, at_ => by
    unfold pcs numR
    by_cases h : at_ + k ≤ xs.length
    · rw [if_pos (by omega), if_pos h, List.takeWhile_cons, if_pos (by simp; omega), List.map_cons, pcs_numR hk xs f (at_ + k)]
      congr 1
      unfold tellP
      rw [readN_at hk h]
      simp only []
      rw [show min k (xs.length - at_) = k by omega]
    · rw [if_neg h]
      split
      · rw [List.takeWhile_cons, if_neg (by simp; omega)]; rfl
      · rfl

/-- What Each tells. -/
def eachN (k : Int) (xs : List Int) : List (Int × Int) := if W3 k then numR k.toNat xs (xs.length + 1) 0 else []
theorem eachN_eq (k : Int) (xs : List Int) : (if W3 k then numsF k.toNat xs else []) = eachN k xs := by
  unfold eachN numsF
  split
  · rename_i h
    obtain ⟨m, rfl, hm⟩ := h.nat
    rw [Int.toNat_natCast, pcs_numR hm]
  · rfl
theorem numR_at (k : Nat) (xs : List Int) : ∀ (f at_ i : Nat) (h : i < (numR k xs f at_).length), (numR k xs f at_)[i].1 = at_ + i * k
  | 0, _, _, h => by simp [numR] at h
  | f + 1, at_, i, h => by
    unfold numR at h ⊢
    split
    · rename_i hc
      rw [if_pos hc] at h
      cases i with
      | zero => simp
      | succ i =>
        have := numR_at k xs f (at_ + k) i (by simpa using h)
        simp only [List.getElem_cons_succ]
        rw [this]
        simp only [Int.natCast_add, Int.natCast_one, Int.add_mul]
        omega
    · rename_i hc
      rw [if_neg hc] at h
      simp at h
theorem numR_len (k : Nat) (xs : List Int) : ∀ f at_ : Nat, (numR k xs f at_).length ≤ f
  | 0, _ => by simp [numR]
  | f + 1, at_ => by
    unfold numR
    split
    · have := numR_len k xs f (at_ + k); simp; omega
    · simp
theorem eachN_at {k : Int} {xs : List Int} {i : Nat} (h : i < (eachN k xs).length) : (eachN k xs)[i].1 = i * k := by
  unfold eachN at h ⊢
  split
  · rename_i hc
    obtain ⟨m, rfl, _⟩ := hc.nat
    rw [if_pos hc] at h
    have := numR_at m xs (xs.length + 1) 0 i (by simpa using h)
    simpa using this
  · rename_i hc
    rw [if_neg hc] at h
    simp at h
theorem eachN_len (k : Int) (xs : List Int) : (eachN k xs).length ≤ xs.length + 1 := by
  unfold eachN
  split
  · exact numR_len _ _ _ _
  · simp

set_option maxHeartbeats 800000 in
theorem each3_any (p : Option Addr) (c : Nat) (xs : List Int) (k : Int) (w : World) (hn : xs.length ≤ 1000000) (hx : ByS w p xs) :
    Calls Tryd.prog 22 #[.slice p xs.length c, .int .i64 k] w fun e w' => ∃ Bw Bo g cap q, e = .returned (.func (.func 28) #[] #[.pointer (some ⟨Bw, 0, none⟩), .pointer (some ⟨Bo, 0, none⟩)]) ∧
      xs.length ≤ cap ∧ (0 < xs.length → q = some ⟨g, 0, none⟩) ∧ Bw < w'.heap.size ∧ g < w'.heap.size ∧ w'.cell? ⟨Bw, 0, none⟩ = some (.int .i64 k) ∧ w'.cell? ⟨Bo, 0, none⟩ = some (.slice q xs.length cap) ∧ ByS w' (some ⟨g, 0, none⟩) xs ∧ Below w.heap.size w w' := by
  have hmf : ∀ (fn : Fn) (first cap : Array Value) (w : World), (Instr.makeFunc fn first cap).run Tryd.prog w = .ok (.func fn first cap) w := fun _ _ _ _ => rfl
  have hb0 : Below w.heap.size w (w.alloc (.cells #[.int .i64 k] 3)) := (Below.refl _ _).alloc (Nat.le_refl _) _
  have HX := Lib.hid (hx.below hb0)
  have HO : Hid (OwnB (w.heap.size + 1) (w.alloc (.cells #[.int .i64 k] 3)) (.slice none 0 0) []) := World.ownsRow_nil _ _ _ _
  have K1 : ([] : List Int).length + xs.length ≤ 1000000 := by simpa using hn
  clear hx
  go_enter Tryd.func22, Tryd.ntmps22
  go_wp2_with (first | (at_builtin; refine wpList_app_bytes2 59 23 undO Tryd.underlying23 (v := .slice none 0 0) (xs := []) (p := p) (ys := xs) (c := c) rfl _ _ rfl (w.heap.size + 1) rfl HO.out rfl HX.out K1 (by simp) ?_))
  intro v2 w2 o2 g2 n2
  have hb2 : Below w.heap.size w w2 := (hb0.grown g2 (by simp) (fun k h => by cases h))
  have hcw : w2.cell? ⟨w.heap.size, 0, none⟩ = some (.int .i64 k) := by
    rw [g2.cell_far _ (by simp) (fun h => by cases h)]
    exact (Blk.new w 3 #[.int .i64 k]).cell 0
  have hown : ∃ g cap q, v2 = .slice q xs.length cap ∧ xs.length ≤ cap ∧ (0 < xs.length → q = some ⟨g, 0, none⟩) ∧ g < w2.heap.size ∧ ByS w2 (some ⟨g, 0, none⟩) xs := by
    have hs := World.block_lt_of_cell? _ _ hcw
    obtain ⟨p', c', e, hc, hy, _⟩ := o2.byS
    by_cases h0 : 0 < xs.length
    · obtain ⟨g, cur, e2, hg, _⟩ := SpB.ofOwn (by rw [e] at o2; exact o2) h0
      subst e2
      exact ⟨g, c', _, e, hc, fun _ => rfl, hg.lt, hy⟩
    · exact ⟨w.heap.size, c', p', e, hc, fun h => absurd h h0, hs, fun h => absurd h h0⟩
  obtain ⟨g, cap, q, rfl, hcap, hq, hg, hy⟩ := hown
  have HW := Lib.hid hb2
  have HCW := Lib.hid hcw
  have HY := Lib.hid hy
  clear o2 g2 n2 hb2 hcw hy HX HO K1 hb0
  go_wp2_with fail
  go_ret
  have hs := World.block_lt_of_cell? _ _ HCW.out
  refine ⟨w.heap.size, w2.heap.size, g, cap, q, rfl, hcap, hq, by simp at hs ⊢; omega, by simp; omega, ?_, ?_, HY.out.below ((Below.refl _ _).alloc (Nat.le_refl _) _), HW.out.alloc HW.out.size _⟩
  · exact ((Below.refl w2.heap.size w2).alloc (Nat.le_refl _) (.cells #[.slice q xs.length cap] 59)).cell (p := ⟨w.heap.size, 0, none⟩) hs |>.trans HCW.out
  · exact (Blk.new w2 59 #[.slice q xs.length cap]).cell 0

/-- Each, for a range over it. -/
theorem each3_stops (n : Nat) (hn : 6 ≤ n) (Bw Bo g cap n₀ : Nat) (q : Option Addr) (k : Int) (xs : List Int) (hb : IsBytes xs) (hN : xs.length ≤ 1000000) (hcap : xs.length ≤ cap) (hq : 0 < xs.length → q = some ⟨g, 0, none⟩) (w : World)
    (hn₀ : n₀ ≤ w.heap.size) (lw : Bw < n₀) (lg : g < n₀) (cw : w.cell? ⟨Bw, 0, none⟩ = some (.int .i64 k)) (co : w.cell? ⟨Bo, 0, none⟩ = some (.slice q xs.length cap)) (hx : ByS w (some ⟨g, 0, none⟩) xs) (hf : Fit3 w) :
    SeqStopsT Fence.wide n Tryd.prog 28 #[.pointer (some ⟨Bw, 0, none⟩), .pointer (some ⟨Bo, 0, none⟩)] (fun x : Int × Int => #[.int .i64 x.1, .int .u32 x.2]) (fun i => i < n₀)
      (fun ys => ys = eachN k xs) (fun pre => pre <+: eachN k xs) (pcs k.toNat xs.length (xs.length + 1) 0).length w := fun l J Jx W hW hJ hJx hY h0 => by
  have h := each3_in n hn l Bw Bo g cap (fun i => i < n₀) k xs hb hN hcap q hq J Jx W hJ hJx hY (fun i hi => Nat.lt_of_lt_of_le hi (Nat.le_trans hn₀ hW.size)) lw lg
    ((hW.cell (p := ⟨Bw, 0, none⟩) (World.block_lt_of_cell? _ _ cw)).trans cw) ((hW.cell (p := ⟨Bo, 0, none⟩) (World.block_lt_of_cell? _ _ co)).trans co) (hx.below hW) (hf.below hW) h0
  rw [eachN_eq] at h
  exact h
end Go.Proofs.YthpmfeijnphdbaaDoor
