/- Merged by tools/merge.py: Y1, Y2, Y3, Y4, Y5, Y6. -/
import Derived.Test.YtehhablobfaplaaDoorE6
import Derived.Test.YtehhablobfaplaaDoorW15
import Derived.Test.YtehhablobfaplaaDoorV3
import Derived.Test.YtehhablobfaplaaDoorW16
import Derived.Test.YtehhablobfaplaaDoorU3
namespace Go.Proofs.YtehhablobfaplaaDoor
open Go Go.RowKit Go.Shelf Go.Sort
attribute [local go_sem] Oper.semAt_some

set_option maxRecDepth 100000 in
set_option maxHeartbeats 3200000 in
theorem pieces4_in (n : Nat) (hn : 1 ≤ n) (l Bb E g cap N : Nat) (K₀ : Nat → Prop) (hN : N ≤ 1000000) (hcap : N ≤ cap) (q : Option Addr) (hq : 0 < N → q = some ⟨g, 0, none⟩) (hb : K₀ Bb) (J Jx : List (Nat × Nat) → World → Prop) {F : Fence} (hF : F = Fence.wide)
    (hY : ∀ pre x W, x ∈ pcs 20 N (N + 1) 0 → J pre W → pre.length < (pcs 20 N (N + 1) 0).length → YieldAt F (n - 1) Tryd.prog l #[.int .i64 ((x.1 / 20 : Nat) : Int), .slice (some ⟨g, x.1, none⟩) x.2 (cap - x.1)] W fun e W' =>
      Kept2 K₀ E W W' ∧ ((e = .returned (.bool true) ∧ J (pre ++ [x]) W') ∨ (e = .returned (.bool false) ∧ Jx (pre ++ [x]) W')))
    (W : World) (co : W.cell? ⟨Bb, 0, none⟩ = some (.slice q N cap)) (h0 : J [] W) :
    CallsIn F n Tryd.prog 66 #[.func (.yield l) #[] #[], .pointer (some ⟨Bb, 0, none⟩)] W fun e W' => (∃ v, e = .returned v) ∧
      ((∃ ys, ys = pcs 20 N (N + 1) 0 ∧ J ys W') ∨ (∃ pre, pre <+: pcs 20 N (N + 1) 0 ∧ Jx pre W')) := by
  subst hF
  generalize hLdef : pcs 20 N (N + 1) 0 = L at *
  have HLd := Lib.hid hLdef
  clear hLdef
  have HY := Lib.hid hY
  clear hY
  refine callsIn_of_wp Tryd.func66 rfl trivial ?_ rfl
  simp only [Tryd.ntmps66, List.size_toArray, List.length_cons, List.length_nil, Nat.reduceAdd, Nat.reduceSub, Array.replicate_succ, Array.replicate_zero, List.push_toArray, List.append_toArray, List.nil_append, List.cons_append]
  gi_wp2
  have HJ0 := Lib.hid h0
  gi_loopw [3] (fun a wr => ∃ (f i : Nat) (pre : List (Nat × Nat)), a = .int .i64 i ∧ 20 * i ≤ N + 20 ∧ N < 20 * i + f ∧ Hid (L = pre ++ pcs 20 N f (20 * i)) ∧ Hid (J pre wr) ∧ wr.cell? ⟨Bb, 0, none⟩ = some (.slice q N cap))
    (fun a _ => N + 5 - (intOf a).toNat)
  case atStart => exact ⟨N + 1, 0, [], rfl, by omega, by omega, by rw [← HLd.out]; simp [Hid], HJ0, co⟩
  case round =>
    clear HJ0 co h0
    obtain ⟨f, i, pre, rfl, hat, hf, HL, HJ, c0⟩ := hrel
    by_cases hlt : 20 * i < N
    · obtain rfl := hq (by omega)
      obtain ⟨f, rfl⟩ : ∃ j, f = j + 1 := ⟨f - 1, by omega⟩
      have hL := HL.out
      rw [pcs, if_pos hlt] at hL
      have HL2 := Lib.hid hL
      clear hL HL
      have jz : (i : Int) * 20 < (N : Int) := by omega
      have hy0 := HY.out pre (20 * i, min 20 (N - 20 * i)) wr (by rw [HL2.out]; simp) HJ.out (by rw [HL2.out]; simp)
      dsimp only at hy0
      rw [Nat.mul_div_cancel_left i (by decide : 0 < 20)] at hy0
      have e1 : ((i : Int) * 20).toNat = 20 * i := by omega
      have e2 : (min (((i : Int) + 1) * 20) (N : Int)).toNat - 20 * i = min 20 (N - 20 * i) := by omega
      have e3 : (i : Int) * 20 ≤ min (((i : Int) + 1) * 20) (N : Int) := by omega
      have e4 : min (((i : Int) + 1) * 20) (N : Int) ≤ (cap : Int) := by omega
      obtain ⟨fn, tmps, assign, body, hy, hR⟩ := hy0
      have HR := Lib.hid hR
      clear hR
      gi_wp2_with fail
      refine HR.out.mono ?_
      rintro e W3 ⟨hk3, ⟨rfl, hJ3⟩ | ⟨rfl, hJx3⟩⟩
      · have d0 := (hk3.cell (World.block_lt_of_cell? _ _ c0) (.inl hb)).trans c0
        have hL3 : L = (pre ++ [(20 * i, min 20 (N - 20 * i))]) ++ pcs 20 N f (20 * (i + 1)) := by rw [HL2.out]; simp [Nat.mul_add]
        have HL3 := Lib.hid hL3
        have HJ3 := Lib.hid hJ3
        clear hk3 hL3 hJ3 hy e1 e2 e3 e4
        gi_wp2
        go_roundw
        case rel => exact ⟨f, i + 1, pre ++ [(20 * i, min 20 (N - 20 * i))], by congr 1, by omega, by omega, HL3, HJ3, d0⟩
        case measure => simp only [intOf]; omega
      · gi_wp2
        (try simp only [Exit.inBlock, Exit.then])
        refine bodyPost_ret (results_none rfl _ _ _) rfl ?_
        exact ⟨⟨_, rfl⟩, .inr ⟨pre ++ [(20 * i, min 20 (N - 20 * i))], ⟨_, by rw [HL2.out, List.append_assoc]; rfl⟩, hJx3⟩⟩
    · have jz : ¬ (i : Int) * 20 < (N : Int) := by omega
      have hL := HL.out
      have hnil : pcs 20 N f (20 * i) = [] := by cases f <;> simp [pcs, hlt]
      rw [hnil, List.append_nil] at hL
      have HL2 := Lib.hid hL
      clear hL HL hnil
      gi_wp2
      go_end0
      exact ⟨⟨_, rfl⟩, .inl (by rw [HL2.out]; exact HJ.out)⟩

theorem pieces4_any (p : Option Addr) (m c : Nat) (w : World) :
    Calls Tryd.prog 54 #[.slice p m c] w fun e w' => e = .returned (.func (.func 66) #[] #[.pointer (some ⟨w.heap.size, 0, none⟩)]) ∧ w' = w.alloc (.cells #[.slice p m c] 27) := by
  have hmf : ∀ (fn : Fn) (first cap : Array Value) (w : World), (Instr.makeFunc fn first cap).run Tryd.prog w = .ok (.func fn first cap) w := fun _ _ _ _ => rfl
  go_enter Tryd.func54, Tryd.ntmps54
  go_wp2
  go_ret
  exact ⟨rfl, rfl⟩

theorem pieces4_stops (n : Nat) (hn : 1 ≤ n) (Bb g cap N : Nat) (K₀ : Nat → Prop) (hN : N ≤ 1000000) (hcap : N ≤ cap) (q : Option Addr) (hq : 0 < N → q = some ⟨g, 0, none⟩) (hb : K₀ Bb) (w : World) (lo : Bb < w.heap.size)
    (co : w.cell? ⟨Bb, 0, none⟩ = some (.slice q N cap)) :
    SeqStopsT Fence.wide n Tryd.prog 66 #[.pointer (some ⟨Bb, 0, none⟩)] (fun x : Pc 20 N => #[.int .i64 ((x.1.1 / 20 : Nat) : Int), .slice (some ⟨g, x.1.1, none⟩) x.1.2 (cap - x.1.1)]) K₀
      (fun ys => ys.map (·.1) = pcs 20 N (N + 1) 0) (fun pre => pre.map (·.1) <+: pcs 20 N (N + 1) 0) (pcs 20 N (N + 1) 0).length w := fun l J Jx W hW _ _ hY h0 => by
  have h := pieces4_in n hn l Bb W.heap.size g cap N K₀ hN hcap q hq hb (fun pre W => ∃ q' : List (Pc 20 N), q'.map (·.1) = pre ∧ J q' W) (fun pre W => ∃ q' : List (Pc 20 N), q'.map (·.1) = pre ∧ Jx q' W) rfl
    (fun pre x W1 hx ⟨q, hq, hj⟩ hlen => by
      obtain ⟨fn, tmps, assign, body, hy, hR⟩ := hY q ⟨x, hx⟩ W1 hj (by rw [← hq] at hlen; simpa using hlen)
      refine ⟨fn, tmps, assign, body, hy, hR.mono fun e W' h => ?_⟩
      rcases h with ⟨hk', ⟨he, hj'⟩ | ⟨he, hj'⟩⟩
      · exact ⟨hk', .inl ⟨he, ⟨q ++ [⟨x, hx⟩], by simp [hq], hj'⟩⟩⟩
      · exact ⟨hk', .inr ⟨he, ⟨q ++ [⟨x, hx⟩], by simp [hq], hj'⟩⟩⟩)
    W ((hW.cell (p := ⟨Bb, 0, none⟩) lo).trans co) ⟨[], rfl, h0⟩
  refine h.mono fun e W' ⟨hv, h⟩ => ⟨hv, ?_⟩
  rcases h with ⟨ys, rfl, q, hq, hj⟩ | ⟨pre, hp, q, hq, hj⟩
  · exact .inl ⟨q, hq, hj⟩
  · exact .inr ⟨q, by show q.map _ <+: _; rw [hq]; exact hp, hj⟩
end Go.Proofs.YtehhablobfaplaaDoor

namespace Go.Proofs.YtehhablobfaplaaDoor
open Go Go.RowKit Go.Shelf Go.Sort
attribute [local go_sem] Oper.semAt_some

theorem Fit3.asIn {K : Nat → Prop} {A B : World} (h : Fit3 A) (ha : AsIn K A B) (hk : K 0) : Fit3 B := by
  have hl := World.block_lt_of_cell? _ _ (h.tab.cell gWid 0 (by decide))
  refine ⟨?_⟩
  have h1 := h.tab
  unfold Lib.TabIs World.var? at h1 ⊢
  simp only [gWid, Option.bind_some] at h1 ⊢
  rw [ha.2 _ hl hk]
  exact h1

/-- The entry of a piece, with its number. -/
def tellE (xs : List Int) (x : Nat × Nat) : Int × Ent := (((x.1 / 20 : Nat) : Int), readE (xs.drop x.1))
/-- What Each tells: the pieces that are whole. -/
def eachE (xs : List Int) : List (Int × Ent) := ((pcs 20 xs.length (xs.length + 1) 0).takeWhile (fun x => x.2 == 20)).map (tellE xs)

/-- How a round leaves: at a piece that is not whole, or as the caller wants no more. -/
def EachY (xs : List Int) (J Jx : List (Int × Ent) → World → Prop) (q : List (Pc 20 xs.length)) (W : World) : Prop := ∃ (pre : List (Pc 20 xs.length)) (x : Pc 20 xs.length), q = pre ++ [x] ∧ (∀ y ∈ pre, y.1.2 = 20) ∧ ((x.1.2 ≠ 20 ∧ J (pre.map fun y => tellE xs y.1) W) ∨ (x.1.2 = 20 ∧ Jx ((pre ++ [x]).map fun y => tellE xs y.1) W))

set_option maxRecDepth 100000 in
set_option maxHeartbeats 3200000 in
theorem each4_in (n : Nat) (hn : 6 ≤ n) (l Bo g cap : Nat) (K₀ : Nat → Prop) (xs : List Int) (hb : IsBytes xs) (hN : xs.length ≤ 1000000) (hcap : xs.length ≤ cap) (q : Option Addr) (hq : 0 < xs.length → q = some ⟨g, 0, none⟩) (J Jx : List (Int × Ent) → World → Prop)
    (W : World) (hJ : AbidesM (fun _ => true) W.heap.size J) (hJx : AbidesM (fun _ => true) W.heap.size Jx)
    (hY : ∀ pre x W', J pre W' → pre.length < (pcs 20 xs.length (xs.length + 1) 0).length → YieldAt Fence.wide (n - 1) Tryd.prog l #[.int .i64 x.1, entV x.2] W' fun e W'' =>
      Kept2 K₀ W.heap.size W' W'' ∧ ((e = .returned (.bool true) ∧ J (pre ++ [x]) W'') ∨ (e = .returned (.bool false) ∧ Jx (pre ++ [x]) W'')))
    (hlt : ∀ i, K₀ i → i < W.heap.size) (hgb : K₀ g) (hgw : K₀ 0) (co : W.cell? ⟨Bo, 0, none⟩ = some (.slice q xs.length cap)) (hx : ByS W (some ⟨g, 0, none⟩) xs) (hf : Fit3 W) (h0 : J [] W) :
    CallsIn Fence.wide n Tryd.prog 53 #[.func (.yield l) #[] #[], .pointer (some ⟨Bo, 0, none⟩)] W fun e W' => (∃ v, e = .returned v) ∧
      ((∃ ys, ys = eachE xs ∧ J ys W') ∨ (∃ pre, pre <+: eachE xs ∧ Jx pre W')) := by
  generalize hT : eachE xs = T at *
  have hn1 : 1 ≤ n := by omega
  have hn3 : 1 ≤ n - 1 - 1 := by omega
  have hb1 : Below W.heap.size W (W.alloc (.cells #[.func (.yield l) #[] #[]] 77)) := (Below.refl _ _).alloc (Nat.le_refl _) _
  have cy : Blk (W.alloc (.cells #[.func (.yield l) #[] #[]] 77)) W.heap.size 77 #[.func (.yield l) #[] #[]] := Blk.new _ _ _
  have hs1 : (W.alloc (.cells #[.func (.yield l) #[] #[]] 77)).heap.size = W.heap.size + 1 := by simp
  have hJ1 : J [] (W.alloc (.cells #[.func (.yield l) #[] #[]] 77)) := hJ [] W _ h0 (.calls hb1)
  have HY := Lib.hid hY
  have HAJ := Lib.hid hJ
  have HAX := Lib.hid hJx
  have HB := Lib.hid hb
  have HT := Lib.hid hT
  clear hY hJ hJx hb hT
  refine callsIn_of_wp_marks Tryd.func53 rfl trivial ?_ rfl
  simp only [Tryd.ntmps53, List.size_toArray, List.length_cons, List.length_nil, Nat.reduceAdd, Nat.reduceSub, Array.replicate_succ, Array.replicate_zero, List.push_toArray, List.append_toArray, List.nil_append, List.cons_append]
  gi_wp2_with fail
  generalize hW1 : W.alloc (.cells #[.func (.yield l) #[] #[]] 77) = W1 at *
  replace co := (hb1.cell (p := ⟨Bo, 0, none⟩) (World.block_lt_of_cell? _ _ co)).trans co
  replace hx := hx.below hb1
  replace hf := hf.below hb1
  generalize hB : W.heap.size = B at *
  have HX := Lib.hid hx
  have HF := Lib.hid hf
  have HJ1 := Lib.hid hJ1
  have HCY := Lib.hid cy
  clear hx hf h0 hJ1 hb1 hW1 hB cy
  refine wpInWide_scope ?_
  gi_wp2_with fail
  refine wpIn_label ?_
  gi_wp2_with fail
  refine ⟨trivial, ?_⟩
  refine (callsIn_wide.2 (pieces4_any q xs.length cap W1)).mono ?_
  rintro e w2 ⟨rfl, hw2⟩
  have hb2 : Below W1.heap.size W1 w2 := by rw [hw2]; exact (Below.refl _ _).alloc (Nat.le_refl _) _
  have hs2 : w2.heap.size = W1.heap.size + 1 := by rw [hw2]; simp
  have c2o : w2.cell? ⟨W1.heap.size, 0, none⟩ = some (.slice q xs.length cap) := by
    rw [hw2]; exact (Blk.new W1 27 #[.slice q xs.length cap]).cell 0
  have hx2 := HX.out.below hb2
  have hf2 := HF.out.below hb2
  have hJ2 := HAJ.out [] W1 w2 HJ1.out (.calls hb2)
  have hy2 := HCY.out.below hb2 (by omega)
  have HX2 := Lib.hid hx2
  have HF2 := Lib.hid hf2
  have HJ2 := Lib.hid hJ2
  have HY2 := Lib.hid hy2
  have hb2s := hb2.size
  rw [hs1] at c2o hs2 hb2s
  clear hw2 hx2 hf2 hJ2 hy2 HJ1 HCY HX HF co hb2
  gi_wp2_with fail
  have kB : ∀ i, B ≤ i → i < w2.heap.size → (K₀ i ∨ (B ≤ i ∧ i < w2.heap.size)) := fun i h1 h2 => .inr ⟨h1, h2⟩
  have hst := pieces4_stops (n - 1) (by omega) (B + 1) g cap xs.length (fun i => K₀ i ∨ (B ≤ i ∧ i < w2.heap.size)) hN hcap q hq (kB _ (by omega) (by omega)) w2 (by omega) c2o
  refine wpIn_rangeFunc_T1 (α := Pc 20 xs.length) (K₀ := fun i => K₀ i ∨ (B ≤ i ∧ i < w2.heap.size)) (S := fun ys => ys.map (·.1) = pcs 20 xs.length (xs.length + 1) 0) (Sp := fun pre => pre.map (·.1) <+: pcs 20 xs.length (xs.length + 1) 0) (N := (pcs 20 xs.length (xs.length + 1) 0).length) rfl hn1 (gf := 66) (lb := #[.pointer (some ⟨B + 1, 0, none⟩)]) rfl trivial (enters_of Tryd.func66 (by kernel_rfl) rfl)
    hst (fun h => by rcases h with h | h; (have := hlt _ h; omega); omega) (Below.refl _ _) (fun _ => rfl)
    (fun pre W' => (∀ y ∈ pre, y.1.2 = 20) ∧ J (pre.map fun y => tellE xs y.1) W' ∧ AsIn (fun i => K₀ i ∨ (B ≤ i ∧ i < w2.heap.size)) w2 W')
    (fun c pre' W' => c = .exit 0 ∧ EachY xs J Jx pre' W')
    ?hI ?hIx ⟨fun y h => by simp at h, HJ2.out, Nat.le_refl _, fun _ _ _ => rfl⟩ ?a₁ ?assign ?body ?done ?stop
  case hI => exact fun pre A C hs ht => ⟨hs.1, HAJ.out _ A C hs.2.1 (Turns.mono ht (by omega)), asIn_own (β := Unit) () A C hs.2.2 ht⟩
  case hIx =>
    rintro c pre' A C ⟨hc, pre, x, e, hp, h⟩ ht
    exact ⟨hc, ⟨pre, x, e, hp, h.imp (fun h => ⟨h.1, HAJ.out _ A C h.2 (Turns.mono ht (by omega))⟩) (fun h => ⟨h.1, HAX.out _ A C h.2 (Turns.mono ht (by omega))⟩)⟩⟩
  case assign =>
    intro l2 x W' K' hK'
    gi_wp2
    exact hK'
  case body =>
    rintro l2 pre x W' ⟨hp, hj, ha⟩ hlen
    obtain ⟨m1, m2, m3, m4⟩ := pcs_mem (by omega) _ _ _ (show x.1 ∈ pcs 20 xs.length (xs.length + 1) 0 from x.2)
    have c_y := ha.cell (kB B (Nat.le_refl _) (by omega)) (show w2.cell? ⟨B, 0, none⟩ = some (.func (.yield l) #[] #[]) from by have := HY2.out.cell 0; simpa using this)
    have hwin : ByS W' (some ⟨g, x.1.1, none⟩) ((xs.drop x.1.1).take x.1.2) := by simpa using (ha.byS (.inl hgb) HX2.out).window x.1.1 x.1.2 m2
    have hlen2 : ((xs.drop x.1.1).take x.1.2).length = x.1.2 := by simp; omega
    have hread := read4_any (some ⟨g, x.1.1, none⟩) (cap - x.1.1) ((xs.drop x.1.1).take x.1.2) ((HB.out.drop _).take _) (by omega) (by omega) W' hwin (HF2.out.asIn ha (.inl hgw))
    rw [hlen2] at hread
    have HHA := Lib.hid ha
    by_cases hfull : x.1.2 = 20
    · have e1 : rdV ((xs.drop x.1.1).take x.1.2) = readE (xs.drop x.1.1) := by
        unfold rdV
        rw [if_pos (by omega), hfull, readE_take]
      have e2 : rdNo ((xs.drop x.1.1).take x.1.2) = 0 := if_pos (by omega)
      rw [e1, e2] at hread
      have htl : tellE xs x.1 = (((x.1.1 / 20 : Nat) : Int), readE (xs.drop x.1.1)) := rfl
      obtain ⟨o, ho⟩ : ∃ o, readE (xs.drop x.1.1) = o := ⟨_, rfl⟩
      rw [ho] at hread htl
      obtain ⟨f, t, a, m, nx, k⟩ := o
      have e5 : ((x.1.1 / 20 : Nat) : Int) = (x.1.1 : Int) / 20 := by omega
      rw [e5] at htl
      rw [hfull] at hread
      have HREAD := Lib.hid hread
      have HTL := Lib.hid htl
      clear hread htl ho e1 e2 e5 hwin ha
      gi_wp2_with fail
      refine ⟨trivial, (CallsIn.inRound l2 (callsIn_wide.2 HREAD.out)).mono ?_⟩
      rintro e wR ⟨rfl, hbR⟩
      have hbV : Below W'.heap.size W' (wR.alloc (.cells #[.int .i64 f, .int .i64 t, .int .u32 a, .int .u32 m, .int .u32 nx, .int .u32 k] 55)) := hbR.alloc hbR.size _
      have c_yR := (hbR.cell (p := ⟨B, 0, none⟩) (World.block_lt_of_cell? _ _ c_y)).trans c_y
      have hlB := World.block_lt_of_cell? _ _ c_yR
      have hJV := HAJ.out _ W' _ hj (.calls hbV)
      have hyy := yield_wide (HY.out (pre.map fun y => tellE xs y.1) (tellE xs x.1) _ hJV (by simpa using hlen)) (n - 1 - 1 - 1) l2
      rw [HTL.out] at hyy
      have hfin : ∀ W3, Kept2 K₀ B (wR.alloc (.cells #[.int .i64 f, .int .i64 t, .int .u32 a, .int .u32 m, .int .u32 nx, .int .u32 k] 55)) W3 → KeepsFrom w2.heap.size W' W3 ∧ Kept2 (fun i => K₀ i ∨ (B ≤ i ∧ i < w2.heap.size)) (w2.heap.size + 2) W' W3 ∧ (∀ y ∈ pre ++ [x], y.1.2 = 20) ∧ AsIn (fun i => K₀ i ∨ (B ≤ i ∧ i < w2.heap.size)) w2 W3 := fun W3 h3 => by
        have h4 : Kept2 K₀ B W' W3 := (Kept2.calls hbV).trans h3
        have h5 := h4.sub (K₁ := fun i => K₀ i ∨ (B ≤ i ∧ i < w2.heap.size)) (E' := w2.heap.size + 2) (fun i hi => by rcases hi with (hi | hi) | hi; exact .inl hi; exact .inr hi.1; exact .inr (by omega))
        refine ⟨⟨h4.size, fun i o hi ho _ => (h4.block i (Array.getElem?_eq_some_iff.1 ho).1 (.inr (by omega))).trans ho⟩, h5, fun y hy => ?_, HHA.out.kept h5⟩
        rcases List.mem_append.1 hy with hy | hy
        · exact hp y hy
        · rw [List.mem_singleton.1 hy]; exact hfull
      have FIN := Lib.hid hfin
      obtain ⟨fn, tmps, assign, body, hy, hR⟩ := hyy
      have HR := Lib.hid hR
      dsimp only at hy
      clear hfin hR hbV hJV hbR c_y
      gi_wp2_with fail
      refine HR.out.mono ?_
      rintro e W3 ⟨hk3, ⟨rfl, hJ3⟩ | ⟨rfl, hJ3⟩⟩
      · have hfin := FIN.out W3 hk3
        gi_wp2
        exact ⟨hfin.1, hfin.2.1, hfin.2.2.1, by rw [List.map_append, List.map_singleton, HTL.out]; exact hJ3, hfin.2.2.2⟩
      · have hfin := FIN.out W3 hk3
        gi_wp2
        exact ⟨hfin.1, hfin.2.1, rfl, ⟨pre, x, rfl, hp, .inr ⟨hfull, by rw [List.map_append, List.map_singleton, HTL.out]; exact hJ3⟩⟩⟩
    · have e1 : rdV ((xs.drop x.1.1).take x.1.2) = ⟨0, 0, 0, 0, 0, 0⟩ := if_neg (by omega)
      have e2 : rdNo ((xs.drop x.1.1).take x.1.2) = 130 := if_neg (by omega)
      rw [e1, e2] at hread
      have HREAD := Lib.hid hread
      clear hread e1 e2 hwin ha
      gi_wp2_with fail
      refine ⟨trivial, (CallsIn.inRound l2 (callsIn_wide.2 HREAD.out)).mono ?_⟩
      rintro e wR ⟨rfl, hbR⟩
      have hbV : Below W'.heap.size W' (wR.alloc (.cells #[.int .i64 0, .int .i64 0, .int .u32 0, .int .u32 0, .int .u32 0, .int .u32 0] 55)) := hbR.alloc hbR.size _
      have hJV := HAJ.out _ W' _ hj (.calls hbV)
      have h4 : Kept2 K₀ B W' (wR.alloc (.cells #[.int .i64 0, .int .i64 0, .int .u32 0, .int .u32 0, .int .u32 0, .int .u32 0] 55)) := Kept2.calls hbV
      have h5 := h4.sub (K₁ := fun i => K₀ i ∨ (B ≤ i ∧ i < w2.heap.size)) (E' := w2.heap.size + 2) (fun i hi => by rcases hi with (hi | hi) | hi; exact .inl hi; exact .inr hi.1; exact .inr (by omega))
      have h6 : KeepsFrom w2.heap.size W' (wR.alloc (.cells #[.int .i64 0, .int .i64 0, .int .u32 0, .int .u32 0, .int .u32 0, .int .u32 0] 55)) := ⟨h4.size, fun i o hi ho _ => (h4.block i (Array.getElem?_eq_some_iff.1 ho).1 (.inr (by omega))).trans ho⟩
      have HFI := Lib.hid (And.intro h6 (And.intro h5 hJV))
      clear hbV hJV h4 h5 h6 hbR c_y
      gi_wp2
      exact ⟨HFI.out.1, HFI.out.2.1, rfl, ⟨pre, x, rfl, hp, .inl ⟨hfull, HFI.out.2.2⟩⟩⟩
  case done =>
    rintro D ys W' hD hS ⟨hp, hj, _⟩ hK'
    gi_wp2
    refine ⟨by simp, .inl ⟨_, _, rfl, run_takeDeferred hK', ?_⟩⟩
    refine ⟨_, by first | exact results_none rfl _ _ _ | rfl, ⟨_, rfl⟩, .inl ⟨ys.map fun y => tellE xs y.1, ?_, ?_⟩⟩
    · rw [← HT.out]
      exact nums_done 20 (tellE xs) (fun y : Pc 20 xs.length => y.1) ys _ hS hp
    · exact HAJ.out _ W' _ hj (TurnsAny.of (grownBy_putObj' W' D _) (fun r e => by cases e; exact ⟨by omega, (Array.getElem?_eq_some_iff.1 hK').1⟩))
  case stop =>
    rintro D c pre' W' hD hSp ⟨rfl, pre, x, rfl, hp, h⟩ hK'
    gi_wp2
    refine ⟨by simp, .inl ⟨_, _, rfl, run_takeDeferred hK', ?_⟩⟩
    have hturn : TurnsAny B W' (W'.putObj D (.deferred none)) := TurnsAny.of (grownBy_putObj' W' D _) (fun r e => by cases e; exact ⟨by omega, (Array.getElem?_eq_some_iff.1 hK').1⟩)
    rcases h with ⟨hsh, hj⟩ | ⟨hfu, hj⟩
    · refine ⟨_, by first | exact results_none rfl _ _ _ | rfl, ⟨_, rfl⟩, .inl ⟨pre.map fun y => tellE xs y.1, ?_, HAJ.out _ W' _ hj hturn⟩⟩
      rw [← HT.out]
      exact nums_stop 20 (tellE xs) (fun y : Pc 20 xs.length => y.1) pre x _ hSp hp hsh
    · refine ⟨_, by first | exact results_none rfl _ _ _ | rfl, ⟨_, rfl⟩, .inr ⟨(pre ++ [x]).map fun y => tellE xs y.1, ?_, HAX.out _ W' _ hj hturn⟩⟩
      rw [← HT.out]
      refine nums_left 20 (tellE xs) (fun y : Pc 20 xs.length => y.1) _ _ hSp (fun z hz => ?_)
      rcases List.mem_append.1 hz with hz | hz
      · exact hp z hz
      · rw [List.mem_singleton.1 hz]; exact hfu
end Go.Proofs.YtehhablobfaplaaDoor

namespace Go.Proofs.YtehhablobfaplaaDoor
open Go Go.RowKit Go.Shelf Go.Sort
attribute [local go_sem] Oper.semAt_some

theorem eqSome (a : Addr) (n c : Nat) (w : World) : (binOp .eql 27 (.slice (some a) n c) (.slice none 0 0)).run Tryd.prog w = .ok (.bool false) w := by kernel_rfl
theorem eqNone (n c : Nat) (w : World) : (binOp .eql 27 (.slice none n c) (.slice none 0 0)).run Tryd.prog w = .ok (.bool true) w := by kernel_rfl
set_option maxHeartbeats 800000 in
theorem clone_any (p : Option Addr) (c : Nat) (xs : List Int) (w : World) (hn : xs.length ≤ 1000000) (hx : ByS w p xs) :
    Calls Tryd.prog 40 #[.slice p xs.length c] w fun e w' => ∃ v, e = .returned v ∧ OwnB w.heap.size w' v xs ∧ Below w.heap.size w w' := by
  cases p with
  | none =>
    have h0 : xs = [] := by
      cases xs with
      | nil => rfl
      | cons a l =>
        obtain ⟨b, o, e, _⟩ := hx (by simp)
        cases e
    subst h0
    have he := eqNone 0 c
    clear hx
    go_enter Tryd.func40, Tryd.ntmps40
    go_wp2_with fail
    go_ret
    exact ⟨_, rfl, World.ownsRow_nil _ _ _ _, Below.refl _ _⟩
  | some a =>
    have he := eqSome a xs.length c
    have HE : Hid (OwnB w.heap.size (w.alloc (.cells #[] 5)) (.slice (some ⟨w.heap.size, 0, none⟩) 0 0) []) := World.ownsRow_made w #[] 0 (Nat.le_refl _) (Nat.zero_le _) (by simp)
    have HW0 : Hid (Below w.heap.size w (w.alloc (.cells #[] 5))) := (Below.refl _ _).alloc (Nat.le_refl _) _
    have K1 : ([] : List Int).length + xs.length ≤ 1000000 := by simpa using hn
    have HY := Lib.hid (hx.below HW0.out)
    clear hx
    go_enter Tryd.func40, Tryd.ntmps40
    go_wp2_with (first | (at_builtin; refine wpList_app_bytes (v := .slice (some ⟨w.heap.size, 0, none⟩) 0 0) (xs := []) (p := some a) (ys := xs) (c := c) rfl _ _ rfl w.heap.size rfl HE.out rfl HY.out K1 (by simp) ?_))
    intro v2 w2 o2 g2 _
    have HB2 := Lib.hid (own_below (by simp) HW0.out HE.out g2)
    have HO2 := Lib.hid o2
    clear o2 g2 HE HW0 HY
    go_wp2_with fail
    go_ret
    exact ⟨_, rfl, HO2.out, HB2.out⟩

set_option maxHeartbeats 800000 in
theorem each4_any (p : Option Addr) (c : Nat) (xs : List Int) (w : World) (hn : xs.length ≤ 1000000) (hx : ByS w p xs) :
    Calls Tryd.prog 42 #[.slice p xs.length c] w fun e w' => ∃ Bo g cap q, e = .returned (.func (.func 53) #[] #[.pointer (some ⟨Bo, 0, none⟩)]) ∧
      xs.length ≤ cap ∧ (0 < xs.length → q = some ⟨g, 0, none⟩) ∧ g < w'.heap.size ∧ w.heap.size ≤ g ∧ w'.cell? ⟨Bo, 0, none⟩ = some (.slice q xs.length cap) ∧ ByS w' (some ⟨g, 0, none⟩) xs ∧ Below w.heap.size w w' := by
  have hmf : ∀ (fn : Fn) (first cap : Array Value) (w : World), (Instr.makeFunc fn first cap).run Tryd.prog w = .ok (.func fn first cap) w := fun _ _ _ _ => rfl
  have HC := Lib.hid (clone_any p c xs w hn hx)
  clear hx
  go_enter Tryd.func42, Tryd.ntmps42
  go_wp2_with fail
  refine HC.out.mono ?_
  rintro e w2 ⟨v, rfl, ho, hb⟩
  obtain ⟨q, cap, rfl, hcap, hy, hbase⟩ := OwnB.byS ho
  have hg : ∃ g, (0 < xs.length → q = some ⟨g, 0, none⟩) ∧ w.heap.size ≤ g ∧ g ≤ w2.heap.size ∧ (0 < xs.length → g < w2.heap.size) := by
    by_cases h0 : 0 < xs.length
    · rcases ho.2 with ⟨_, hn0⟩ | ⟨g, cap', cur, hv, hbg, hgg, _⟩
      · omega
      · cases hv
        have hl : g < w2.heap.size := (Array.getElem?_eq_some_iff.1 hgg).1
        exact ⟨g, fun _ => rfl, hbg, by omega, fun _ => hl⟩
    · exact ⟨w2.heap.size, fun h => absurd h h0, hb.size, by omega, fun h => absurd h h0⟩
  obtain ⟨g, hq, hg1, hg2, hg3⟩ := hg
  have hyy : ByS (w2.alloc (.cells #[.slice q xs.length cap] 27)) (some ⟨g, 0, none⟩) xs := fun h0 => by
    obtain ⟨b, o, e, hl, hcc⟩ := (hy.below ((Below.refl w2.heap.size w2).alloc (Nat.le_refl _) (.cells #[.slice q xs.length cap] 27))) h0
    have e2 := (hq h0).symm.trans e
    cases e2
    exact ⟨g, 0, rfl, hl, hcc⟩
  have HYY := Lib.hid hyy
  have HB := Lib.hid (hb.alloc hb.size (.cells #[.slice q xs.length cap] 27))
  have HQ := Lib.hid hq
  clear ho hy hyy hq hg3 hbase HC hb
  go_wp2_with fail
  go_ret
  exact ⟨w2.heap.size, g, cap, q, rfl, hcap, HQ.out, by simp; omega, hg1, (Blk.new w2 27 #[.slice q xs.length cap]).cell 0, HYY.out, HB.out⟩

/-- Each, for a range over it: a round keeps K₀. -/
theorem each4_stopsK (n : Nat) (hn : 6 ≤ n) (Bo g cap : Nat) (K₀ : Nat → Prop) (q : Option Addr) (xs : List Int) (hb : IsBytes xs) (hN : xs.length ≤ 1000000) (hcap : xs.length ≤ cap) (hq : 0 < xs.length → q = some ⟨g, 0, none⟩) (w : World)
    (hn₀ : ∀ i, K₀ i → i < w.heap.size) (lg : K₀ g) (lw : K₀ 0) (co : w.cell? ⟨Bo, 0, none⟩ = some (.slice q xs.length cap)) (hx : ByS w (some ⟨g, 0, none⟩) xs) (hf : Fit3 w) :
    SeqStopsT Fence.wide n Tryd.prog 53 #[.pointer (some ⟨Bo, 0, none⟩)] (fun x : Int × Ent => #[.int .i64 x.1, entV x.2]) K₀
      (fun ys => ys = eachE xs) (fun pre => pre <+: eachE xs) (pcs 20 xs.length (xs.length + 1) 0).length w := fun l J Jx W hW hJ hJx hY h0 =>
  each4_in n hn l Bo g cap K₀ xs hb hN hcap q hq J Jx W hJ hJx hY (fun i hi => Nat.lt_of_lt_of_le (hn₀ i hi) hW.size) lg lw
    ((hW.cell (p := ⟨Bo, 0, none⟩) (World.block_lt_of_cell? _ _ co)).trans co) (hx.below hW) (hf.below hW) h0

/-- What Each tells is what the reference lists, each with its number. -/
theorem pcs_ents (xs : List Int) : ∀ f i : Nat, 20 * i ≤ xs.length + 20 → xs.length < 20 * i + f → ((pcs 20 xs.length f (20 * i)).takeWhile (fun x => x.2 == 20)).map (tellE xs) = (List.range (xs.length / 20 - i)).map (fun j => (((i + j : Nat) : Int), readE (xs.drop (20 * (i + j)))))
  | 0, i, h1, h2 => by
    have : xs.length / 20 - i = 0 := by omega
    rw [this]
    rfl
  | f + 1, i, h1, h2 => by
    unfold pcs
    by_cases h : 20 * i + 20 ≤ xs.length
    · rw [if_pos (by omega), List.takeWhile_cons, if_pos (by simp; omega), List.map_cons]
      have ih := pcs_ents xs f (i + 1) (by omega) (by omega)
      rw [show 20 * (i + 1) = 20 * i + 20 by omega] at ih
      rw [ih, show xs.length / 20 - i = (xs.length / 20 - (i + 1)) + 1 by omega, List.range_succ_eq_map, List.map_cons, List.map_map]
      congr 1
      · unfold tellE
        simp
      · apply List.map_congr_left
        intro j _
        simp only [Function.comp, Nat.succ_eq_add_one]
        rw [show i + 1 + j = i + (j + 1) by omega]
    · have e0 : xs.length / 20 - i = 0 := by omega
      rw [e0]
      by_cases h3 : 20 * i < xs.length
      · rw [if_pos h3, List.takeWhile_cons, if_neg (by simp; omega)]
        rfl
      · rw [if_neg h3]
        rfl
theorem eachE_is (xs : List Int) : eachE xs = (List.range (xs.length / 20)).map (fun j : Nat => ((j : Int), readE (xs.drop (20 * j)))) := by
  have := pcs_ents xs (xs.length + 1) 0 (by omega) (by omega)
  simpa [eachE] using this
theorem eachE_len (xs : List Int) : (eachE xs).length = (ents xs).length := by rw [eachE_is, ents_len]; simp
theorem eachE_at {xs : List Int} {i : Nat} (h : i < (eachE xs).length) (h2 : i < (ents xs).length) : (eachE xs)[i] = ((i : Int), (ents xs)[i]) := by
  have e := (ents_at h2).1
  rw [e]
  simp [eachE_is]

/-- Entries, as they lie one behind the other. -/
def entCs (l : List Ent) : List Value := l.flatMap (fun e => [.int .i64 e.f, .int .i64 e.t, .int .u32 e.a, .int .u32 e.m, .int .u32 e.n, .int .u32 e.k])
theorem entCs_snoc (l : List Ent) (x : Ent) : entCs (l ++ [x]) = entCs l ++ [.int .i64 x.f, .int .i64 x.t, .int .u32 x.a, .int .u32 x.m, .int .u32 x.n, .int .u32 x.k] := by simp [entCs]
theorem entCs_app (a b : List Ent) : entCs (a ++ b) = entCs a ++ entCs b := by simp [entCs]
theorem entCs_len (l : List Ent) : (entCs l).length = l.length * 6 := by
  induction l with
  | nil => rfl
  | cons a l ih => simp only [entCs, List.flatMap_cons, List.length_append, List.length_cons, List.length_nil] at ih ⊢; omega
theorem entCs_at (l : List Ent) (i : Nat) (h : i < l.length) (r : Nat) (hr : r < 6) : (entCs l)[6 * i + r]? = [Value.int .i64 (l[i]'h).f, .int .i64 (l[i]'h).t, .int .u32 (l[i]'h).a, .int .u32 (l[i]'h).m, .int .u32 (l[i]'h).n, .int .u32 (l[i]'h).k][r]? := by
  have hs : l = l.take i ++ (l[i]'h :: l.drop (i + 1)) := by rw [← List.drop_eq_getElem_cons h, List.take_append_drop]
  have e1 : entCs l = entCs (l.take i) ++ ([.int .i64 (l[i]'h).f, .int .i64 (l[i]'h).t, .int .u32 (l[i]'h).a, .int .u32 (l[i]'h).m, .int .u32 (l[i]'h).n, .int .u32 (l[i]'h).k] ++ entCs (l.drop (i + 1))) := by
    conv => lhs; rw [hs, entCs_app]
    rfl
  have e2 : (entCs (l.take i)).length = 6 * i := by rw [entCs_len, List.length_take]; omega
  rw [e1, List.getElem?_append_right (by omega), e2, Nat.add_sub_cancel_left, List.getElem?_append_left (by simpa using hr)]
theorem infoEnt : (Tryd.prog.info? 55).map (fun i => (i.zero, i.size, i.bytes)) = some (some (.agg #[.int .i64 0, .int .i64 0, .int .u32 0, .int .u32 0, .int .u32 0, .int .u32 0]), 6, 32) := by kernel_rfl

theorem ents_take {xs : List Int} {j : Nat} (h : j < (ents xs).length) : (ents xs).take (j + 1) = (ents xs).take j ++ [readE (xs.drop (20 * j))] := by
  rw [List.take_add_one, List.getElem?_eq_getElem h, (ents_at h).1]
  rfl
end Go.Proofs.YtehhablobfaplaaDoor

namespace Go.Proofs.YtehhablobfaplaaDoor
open Go Go.RowKit Go.Shelf Go.Sort
attribute [local go_sem] Oper.semAt_some

def sliceLen : Value → Nat
  | .slice _ n _ => n
  | _ => 0

set_option maxRecDepth 100000 in
set_option maxHeartbeats 3200000 in
theorem refEach4_any (p : Option Addr) (c : Nat) (xs : List Int) (hb : IsBytes xs) (hn : xs.length ≤ 1000000) (hc : xs.length ≤ c) (w : World) (hx : ByS w p xs) :
    Calls Tryd.prog 35 #[.slice p xs.length c] w fun e w' => ∃ v, e = .returned v ∧ w'.ownsRow w.heap.size 55 6 v (ents xs).length (entCs (ents xs)) ∧ Below w.heap.size w w' := by
  obtain ⟨i0, hi, hz0, hz1, hz2⟩ := info_parts infoEnt
  have HI := Lib.hid (And.intro hi (And.intro hz0 (And.intro hz1 hz2)))
  have HX := Lib.hid hx
  have HB := Lib.hid hb
  have hel := ents_len xs
  have HEL := Lib.hid hel
  clear hx hb hi hz0 hz1 hz2 hel
  go_enter Tryd.func35, Tryd.ntmps35
  go_wp2_with fail
  go_loopw [0, 3] (fun b v wr => ∃ (j m c' : Nat) (p' : Option Addr), j ≤ xs.length / 20 ∧ m + 20 * j = xs.length ∧ m ≤ c' ∧ b = .slice p' m c' ∧ Hid (ByS w p' (xs.drop (20 * j))) ∧ Hid (wr.ownsRow w.heap.size 55 6 v j (entCs ((ents xs).take j))) ∧ Hid (Below w.heap.size w wr)) (fun b _ _ => sliceLen b)
  case atStart => exact ⟨0, xs.length, c, p, by omega, by omega, hc, rfl, by simpa using HX, World.ownsRow_nil _ _ _ _, Below.refl _ _⟩
  case round =>
    clear HX hc
    obtain ⟨j, m, c', p', hj, hm, hmc, rfl, HX, HO, HBL⟩ := hrel
    by_cases hlt : 20 ≤ m
    · have jz : (20 : Int) ≤ (m : Int) := by omega
      have hlen : (xs.drop (20 * j)).length = m := by rw [List.length_drop]; omega
      obtain ⟨b, o, rfl, hbl, _⟩ := HX.out (by omega)
      have hr := fun W (hW : ByS W (some ⟨b, o, none⟩) (xs.drop (20 * j))) => refRead4_any (some ⟨b, o, none⟩) c' (xs.drop (20 * j)) (HB.out.drop _) (by omega) W hW
      have e1 : rdV (xs.drop (20 * j)) = readE (xs.drop (20 * j)) := if_pos (by omega)
      have e2 : rdNo (xs.drop (20 * j)) = 0 := if_pos (by omega)
      rw [e1, e2, hlen] at hr
      have htk := ents_take (xs := xs) (j := j) (by rw [HEL.out]; omega)
      have hnx : ByS w (some ⟨b, o + 20, none⟩) (xs.drop (20 * (j + 1))) := by
        have := HX.out.window 20 (m - 20) (by omega)
        rw [List.drop_drop, List.take_of_length_le (by rw [List.length_drop]; omega)] at this
        simpa [Addr.add_lit, Nat.mul_add] using this
      generalize readE (xs.drop (20 * j)) = ee at *
      obtain ⟨f, t, a, mk, nx, k⟩ := ee
      have HR := Lib.hid hr
      have HTK := Lib.hid htk
      have HNX := Lib.hid hnx
      clear hr htk hnx e1 e2
      go_wp2_with fail
      refine (HR.out _ (HX.out.below HBL.out)).mono ?_
      rintro e w1 ⟨rfl, hb1⟩
      have HO1 := Lib.hid (row_past HO.out hb1)
      have HB1 := Lib.hid (HBL.out.trans (hb1.mono HBL.out.size))
      clear hb1 HR HO HBL HX hbl
      go_wp2_with (at_builtin; refine wpList_append_own _ rfl _ _ 23 rfl w.heap.size 55 i0 (.agg #[.int .i64 0, .int .i64 0, .int .u32 0, .int .u32 0, .int .u32 0, .int .u32 0]) 6 32 Tryd.underlying23 HI.out.1 HI.out.2.1 HI.out.2.2.1 HI.out.2.2.2 rfl (by decide) _ _ _ rfl ((HO1.out.alloc _).alloc _) ⟨w1.heap.size + 1, 0, none⟩ 1 1 [.int .i64 f, .int .i64 t, .int .u32 a, .int .u32 mk, .int .u32 nx, .int .u32 k] rfl rfl ?c1 ?c2 ?c3 ?c4 ?c5 ?_)
      case c1 =>
        intro q u hq
        match q, hq with
        | 0, hq => simp at hq; subst hq; simp [Addr.add]
        | 1, hq => simp at hq; subst hq; simp [Addr.add]
        | 2, hq => simp at hq; subst hq; simp [Addr.add]
        | 3, hq => simp at hq; subst hq; simp [Addr.add]
        | 4, hq => simp at hq; subst hq; simp [Addr.add]
        | 5, hq => simp at hq; subst hq; simp [Addr.add]
        | q + 6, hq => simp at hq
      case c2 =>
        intro u hu
        simp at hu
        rcases hu with rfl | rfl | rfl | rfl | rfl | rfl <;> rfl
      case c3 => unfold maxLen; omega
      case c4 => omega
      case c5 => have := HB1.out.size; simp; omega
      intro v2 w2 hown hgrow _
      have hs1 := HB1.out.size
      have hb2 : Below w.heap.size w w2 := ((HB1.out.alloc hs1 _).alloc (by simp; omega) _).grown hgrow (by simp; omega) (fun g hg => (HO1.out.lt g hg).1)
      have hown2 : w2.ownsRow w.heap.size 55 6 v2 (j + 1) (entCs ((ents xs).take (j + 1))) := by
        rw [HTK.out, entCs_snoc]
        exact hown
      have HO2 := Lib.hid hown2
      have HB2 := Lib.hid hb2
      have j20 : (20 : Int) ≤ (c' : Int) := by omega
      clear hown hown2 hgrow hb2 HO1 HB1 hs1 HTK
      go_wp2_with fail
      refine ⟨⟨j + 1, m - 20, c' - 20, _, by omega, by omega, by omega, rfl, ?_, HO2, HB2⟩, by simp only [sliceLen]; omega⟩
      show ByS w _ _
      split
      · intro h0
        rw [List.length_drop] at h0
        exact absurd h0 (by omega)
      · exact HNX.out
    · have jz : ¬ (20 : Int) ≤ (m : Int) := by omega
      have hj2 : j = (ents xs).length := by rw [HEL.out]; omega
      have ho := HO.out
      rw [hj2, List.take_length] at ho
      have HO2 := Lib.hid ho
      clear ho HO HX
      go_wp2_with fail
      go_ret
      exact ⟨_, rfl, HO2.out, HBL.out⟩
end Go.Proofs.YtehhablobfaplaaDoor

namespace Go.Proofs.YtehhablobfaplaaDoor
open Go Go.RowKit Go.Shelf Go.Sort
attribute [local go_sem] Oper.semAt_some
section
variable {F : Fence} {n : Nat} {P : Program}

/-- wpIn_rangeFunc_T, where what a round lays of its own minds a turn of cells. -/
theorem wpIn_rangeFunc_T0 {α : Type}
    {g : Operand} {ps : Array Tmp} {assign body : Code} {Q : Exit → Act → World → Prop} {a : Act} {w : World}
    (hro : F.round = none) (h1 : 1 ≤ n) {gf : Nat} {lb : Array Value} (hg : a.eval g = .func (.func gf) #[] lb) (hFg : F.fn gf) (eg : ∀ args w, (callFunc gf args).run P w = .ok (.enter gf args) w)
    {encs : α → Array Value} {K₀ : Nat → Prop} {S Sp : List α → Prop} {N : Nat} {w0 : World} (hseq : SeqStopsT F (n - 1) P gf lb encs K₀ S Sp N w0)
    (hK₀ : ¬ K₀ (w.heap.size + 1)) (hb0 : Below w0.heap.size w0 w) (hps : ∀ x, (encs x).size = ps.size)
    (I : List α → World → Prop) (Ix : Code → List α → World → Prop) (hI : OwnM (fun _ => true) w.heap.size I) (hIx : ∀ c, OwnM (fun _ => true) w.heap.size (Ix c)) (h0 : I [] w) (Ax : α → Act → World → Prop) (hAx : ∀ x a', OwnM (fun _ => false) w.heap.size (fun (_ : Unit) W => Ax x a' W))
    (hassign : ∀ (l : Nat) (pre : List α) (x : α) (W : World) (K : Act → World → Prop), I pre W → (∀ a' W', KeepsFrom w.heap.size W W' → Kept2 K₀ (w.heap.size + 2) W W' → I pre W' → Ax x a' W' → K a' W') →
      assign.wpIn (F.inRound l) (n - 1 - 1) P (Exit.then K (fun _ _ _ => False)) { tmps := (ps.zip (encs x)).foldl (fun t (p, v) => t.setIfInBounds p v) a.tmps, defers := [] } W)
    (hbody : ∀ (l : Nat) (pre : List α) (x : α) (a' : Act) (W : World), I pre W → Ax x a' W → pre.length < N → body.wpIn (F.inRound l) (n - 1 - 1) P (ownPostT w.heap.size K₀ (w.heap.size + 2) I Ix (pre ++ [x]) W) a' W)
    (hdone : ∀ (D : Nat) (xs : List α) (W : World), w.heap.size ≤ D → S xs → I xs W → W.heap[D]? = some (.deferred (some [])) → Q .normal { a with defers := { target := .collected D, args := #[] } :: a.defers } W)
    (hstop : ∀ (D : Nat) (c : Code) (pre : List α) (W : World), w.heap.size ≤ D → Sp pre → Ix c pre W → W.heap[D]? = some (.deferred (some [])) → c.wpIn F n P Q { a with defers := { target := .collected D, args := #[] } :: a.defers } W) :
    (Code.rangeFunc g ps assign body).wpIn F n P Q a w := by
  refine wpIn_rangeFunc fun fn hfn => ?_
  rw [hro]
  generalize hrec : (fun (st : LoopState) (pe : Option Code) => ({ state := st, pending := pe, fn, tmps := a.tmps, params := ps, assign, body, defers := w.heap.size } : Loop)) = rec
  have hfld : ∀ st pe, (rec st pe).state = st ∧ (rec st pe).pending = pe ∧ (rec st pe).params = ps ∧ (rec st pe).body = body ∧ (rec st pe).assign = assign ∧ (rec st pe).fn = fn ∧ (rec st pe).tmps = a.tmps ∧ (rec st pe).defers = w.heap.size := fun st pe => by subst hrec; exact ⟨rfl, rfl, rfl, rfl, rfl, rfl, rfl, rfl⟩
  generalize hW1 : (w.alloc (.deferred (some []))).alloc (.loop (rec .ready none)) = W1
  have hbk : Books w (rec .ready none) W1 := by
    subst hW1
    exact ⟨by have := World.alloc_heap_new (w.alloc (.deferred (some []))) (.loop (rec .ready none)); rwa [World.size_alloc] at this, (Below.heap_alloc _ _ _ (by simp)).trans (World.alloc_heap_new w _)⟩
  have hs1 : W1.heap.size = w.heap.size + 2 := by subst hW1; simp
  have hI1 : I [] W1 := by subst hW1; exact hI.alloc _ (hI.alloc _ h0)
  have hb1 : Below w0.heap.size w0 W1 := by subst hW1; exact hb0.trans ((((Below.refl _ w).alloc (Nat.le_refl _) _).alloc (by simp) _).mono hb0.size)
  refine ⟨w.heap.size + 1, [{ target := .collected w.heap.size, args := #[] }], W1, { target := .fn (.func gf) lb, args := #[.func (.yield (w.heap.size + 1)) #[] #[]] }, W1, gf,
    #[.func (.yield (w.heap.size + 1)) #[] #[]] ++ lb, W1, ?enter, ?who, fun f' hf' => ?led, ?call, fun _ => h1, ?run⟩
  case enter => subst hW1 hrec; exact run_enterLoop_outer _ _ _ _ _
  case who => simp only [resolve, hg]; simp [go_sem]
  case led => simp [Target.leads] at hf'; subst hf'; exact hFg
  case call => simp [invoke, go_sem, eg]
  have wide : ∀ {A B : World}, Turns (fun _ => true) W1.heap.size A B → Turns (fun o => true || !o.isCells) w.heap.size A B := fun h => (h.mono (by omega)).wide
  refine (hseq (w.heap.size + 1) (fun pre W => I pre W ∧ Books w (rec .ready none) W) (fun pre W => ∃ c, Ix c pre W ∧ Books w (rec .done (some c)) W) W1 hb1
    (fun s A B hs ht => ⟨hI s A B hs.1 (wide ht), hs.2.aside ht (by omega)⟩)
    (fun s A B ⟨c, hc, hk⟩ ht => ⟨c, hIx c s A B hc (wide ht), hk.aside ht (by omega)⟩) ?round ⟨hI1, hbk⟩).mono ?after
  case after =>
    rintro e W2 ⟨⟨v, rfl⟩, ⟨xs, hS, hi, hk⟩ | ⟨pre, hSp, c, hi, hk⟩⟩
    · have hend := run_endLoop (P := P) hk.1 (by rw [(hfld .ready none).1]; simp)
      subst hrec
      exact ⟨none, _, hend, hdone _ xs _ (Nat.le_refl _) hS (hI.put _ hi (by omega) hk.1 rfl) (hk.put _).2⟩
    · have hend := run_endLoop (P := P) hk.1 (by rw [(hfld .done (some c)).1]; simp)
      subst hrec
      exact ⟨some c, _, hend, hstop _ c pre _ (Nat.le_refl _) hSp ((hIx c).put _ hi (by omega) hk.1 rfl) (hk.put _).2⟩
  case round =>
    rintro pre x W ⟨hi, hk⟩ hlen
    have hy := run_yield (P := P) (args := encs x) hk.1 (by rw [(hfld .ready none).2.2.1]; exact hps x)
    have hbeg := fun (V : World) (hv : Books w (rec .ready none) V) => run_beginRound (P := P) hv.1 (by rw [(hfld .ready none).1])
    have hend := fun (V : World) (j : Option Code) (hv : Books w { rec .ready none with state := .busy } V) => run_endRound (P := P) j hv.1
    subst hrec
    refine ⟨fn, _, assign, body, hy, roundIn_of_wpIn hfn (hassign _ pre x W _ hi fun a' V hkf hkp hia hax => ?_)⟩
    have hkV := hk.kept hkf
    refine ⟨_, hbeg V hkV, ?_⟩
    have hkB := hkV.put { state := .busy, pending := none, fn := fn, tmps := a.tmps, params := ps, assign := assign, body := body, defers := w.heap.size }
    have kput : ∀ (A : World) (o : Loop), (∃ q, Books w q A) → Kept2 K₀ (w.heap.size + 2) A (A.putObj (w.heap.size + 1) (.loop o)) := fun A o _ => .grown (grownBy_putObj' A _ _) hK₀ (by omega)
    have hpB := kput V { state := .busy, pending := none, fn := fn, tmps := a.tmps, params := ps, assign := assign, body := body, defers := w.heap.size } ⟨_, hkV⟩
    refine wpIn_mono (hbody _ pre x a' _ (hI.put _ hia (by omega) hkV.1 rfl) ((hAx x a').put (s := ()) _ hax (by omega) hkV.1 rfl) hlen) ?_
    rintro e a3 W3 hp
    have fin : ∀ (c : Option Code) (A : World), Kept2 K₀ (w.heap.size + 2) (V.putObj (w.heap.size + 1) (.loop { state := .busy, pending := none, fn := fn, tmps := a.tmps, params := ps, assign := assign, body := body, defers := w.heap.size })) A → (∃ q, Books w q A) → ∀ o : Loop, Kept2 K₀ (w.heap.size + 2) W (A.putObj (w.heap.size + 1) (.loop o)) := fun c A hA hq o => hkp.trans (hpB.trans (hA.trans (kput A o hq)))
    cases e with
    | normal =>
      obtain ⟨hk3, hkp3, hi3⟩ := hp
      have hb3 := hkB.kept hk3
      exact ⟨_, _, hend W3 none hb3, (by rw [hs1]; exact fin none W3 hkp3 ⟨_, hb3⟩ _), .inl ⟨rfl, hI.put _ hi3 (by omega) hb3.1 rfl, hb3.put _⟩⟩
    | ret =>
      obtain ⟨hk3, hkp3, hi3⟩ := hp
      have hb3 := hkB.kept hk3
      exact ⟨_, _, hend W3 (some .ret) hb3, (by rw [hs1]; exact fin none W3 hkp3 ⟨_, hb3⟩ _), .inr ⟨rfl, .ret, (hIx _).put _ hi3 (by omega) hb3.1 rfl, hb3.put _⟩⟩
    | exit id =>
      obtain ⟨hk3, hkp3, hi3⟩ := hp
      have hb3 := hkB.kept hk3
      exact ⟨_, _, hend W3 (some (.exit id)) hb3, (by rw [hs1]; exact fin none W3 hkp3 ⟨_, hb3⟩ _), .inr ⟨rfl, .exit id, (hIx _).put _ hi3 (by omega) hb3.1 rfl, hb3.put _⟩⟩
    | goto t =>
      obtain ⟨hk3, hkp3, hi3⟩ := hp
      have hb3 := hkB.kept hk3
      exact ⟨_, _, hend W3 (some (.goto t)) hb3, (by rw [hs1]; exact fin none W3 hkp3 ⟨_, hb3⟩ _), .inr ⟨rfl, .goto t, (hIx _).put _ hi3 (by omega) hb3.1 rfl, hb3.put _⟩⟩
    | panic ch => exact hp.elim
    | outgrown => exact hp.elim

end

/-- The same, where the body may break, and each round has a block of its own for what has come. -/
theorem rangeFuncT_brkA {F : Fence} {n : Nat} {P : Program} {α : Type} {g : Operand} {ps : Array Tmp} {assign body : Code} {id : Nat} {Q : Exit → Act → World → Prop} {a : Act} {w : World}
    (hro : F.round = none) (h1 : 1 ≤ n) {gf : Nat} {lb : Array Value} (hg : a.eval g = .func (.func gf) #[] lb) (hFg : F.fn gf) (eg : ∀ args w, (callFunc gf args).run P w = .ok (.enter gf args) w)
    {encs : α → Array Value} {K₀ : Nat → Prop} {S Sp : List α → Prop} {N : Nat} {w0 : World} (hseq : SeqStopsT F (n - 1) P gf lb encs K₀ S Sp N w0)
    (hK₀ : ¬ K₀ (w.heap.size + 1)) (hb0 : Below w0.heap.size w0 w) (hps : ∀ x, (encs x).size = ps.size)
    (I : List α → World → Prop) (Iy : List α → World → Prop) (hI : OwnM (fun _ => true) w.heap.size I) (hIy : OwnM (fun _ => true) w.heap.size Iy) (h0 : I [] w)
    (Ab : α → Nat → World → Prop) (hAb : ∀ x b, OwnM (fun _ => false) w.heap.size (fun (_ : Unit) W => Ab x b W)) (a₁ : α → Nat → Act)
    (hassign : ∀ (l : Nat) (pre : List α) (x : α) (W : World) (K : Act → World → Prop), I pre W → (∀ b W', KeepsFrom w.heap.size W W' → Kept2 K₀ (w.heap.size + 2) W W' → I pre W' → Ab x b W' → K (a₁ x b) W') →
      assign.wpIn (F.inRound l) (n - 1 - 1) P (Exit.then K (fun _ _ _ => False)) { tmps := (ps.zip (encs x)).foldl (fun t (p, v) => t.setIfInBounds p v) a.tmps, defers := [] } W)
    (hbody : ∀ (l : Nat) (pre : List α) (x : α) (b : Nat) (W : World), I pre W → Ab x b W → pre.length < N → body.wpIn (F.inRound l) (n - 1 - 1) P (ownPostT w.heap.size K₀ (w.heap.size + 2) I (fun c pre W => (c = .ret ∧ ¬ Sp pre) ∨ (c = .exit id ∧ Iy pre W)) (pre ++ [x]) W) (a₁ x b) W)
    (hafter : ∀ (D : Nat) (xs : List α) (W : World), w.heap.size ≤ D → (S xs ∧ I xs W ∨ Sp xs ∧ Iy xs W) → W.heap[D]? = some (.deferred (some [])) → Q .normal { a with defers := { target := .collected D, args := #[] } :: a.defers } W) :
    (Code.rangeFunc g ps assign body).wpIn F n P (Exit.inBlock id Q) a w := by
  refine wpIn_rangeFunc_T0 hro h1 hg hFg eg hseq hK₀ hb0 hps I (fun c pre W => (c = .ret ∧ ¬ Sp pre) ∨ (c = .exit id ∧ Iy pre W)) hI (fun c s A B hs ht => hs.imp (fun h => h) (fun h => ⟨h.1, hIy s A B h.2 ht⟩)) h0
    (fun x a' W => ∃ b, a' = a₁ x b ∧ Ab x b W) (fun x a' s A B ⟨b, e, h⟩ ht => ⟨b, e, hAb x b s A B h ht⟩)
    (fun l pre x W K hi hK => hassign l pre x W K hi fun b W' h1 h2 h3 h4 => hK _ W' h1 h2 h3 ⟨b, rfl, h4⟩) (fun l pre x a' W hi ⟨b, e, h⟩ hl => by subst e; exact hbody l pre x b W hi h hl) ?_ ?_
  · intro D xs W hD hS hi hK
    simpa [Exit.inBlock] using hafter D xs W hD (.inl ⟨hS, hi⟩) hK
  · rintro D c pre W hD hS (⟨rfl, h⟩ | ⟨rfl, h⟩) hK
    · exact absurd hS h
    · have := hafter D pre W hD (.inr ⟨hS, h⟩) hK
      refine wpIn_exit ?_
      simpa [Exit.inBlock] using this

def goesK {α : Type} (many : Int) (pre : List α) : Prop := pre = [] ∨ (pre.length : Int) < many
def breaksK {α : Type} (many : Int) (pre : List α) : Prop := 0 < pre.length ∧ many ≤ pre.length ∧ (pre.length = 1 ∨ ((pre.length - 1 : Nat) : Int) < many)
theorem goesK.brk {α : Type} {many : Int} {pre : List α} (h : goesK many pre) : pre.length = 0 ∨ (pre.length : Int) < many := h.imp (fun e => by rw [e]; rfl) id
theorem not_preK {α : Type} {pre L : List α} {x : α} (hlt : pre.length < L.length) (hne : ¬ x = L[pre.length]'hlt) : ¬ (pre ++ [x]) <+: L := by
  rintro ⟨r, hr⟩
  apply hne
  subst hr
  simp
theorem long_preK {α : Type} {pre L : List α} {x : α} (hlt : ¬ pre.length < L.length) : ¬ (pre ++ [x]) <+: L := fun h => by
  have := h.length_le
  simp at this
  omega

/-- The six values of an entry. -/
def sixE (e : Ent) : Array Value := #[.int .i64 e.f, .int .i64 e.t, .int .u32 e.a, .int .u32 e.m, .int .u32 e.n, .int .u32 e.k]
theorem blk_ab (x : Int × Ent) (b B : Nat) : OwnM (fun _ => false) B (fun (_ : Unit) W => Blk W b 55 (sixE x.2)) := fun _ _ _ hs ht => ht.spares hs rfl

/-- A slice of entries of its own, as the walk wants it. -/
theorem ownE_open {w : World} {base : Nat} {v : Value} {l : List Ent} (h : w.ownsRow base 55 6 v l.length (entCs l)) :
    ∃ (A : Option Addr) (cap : Nat), v = .slice A l.length cap ∧ l.length ≤ cap ∧ (0 < l.length → ∃ g, A = some ⟨g, 0, none⟩ ∧ base ≤ g ∧ g < w.heap.size ∧ ∀ j (hj : j < l.length) r, r < 6 → w.cell? ⟨g, 6 * j + r, none⟩ = (sixE (l[j]'hj))[r]?) := by
  have hlt := h.lt
  have hcl := fun g hg => h.cells (g := g) hg
  obtain ⟨hlen, h⟩ := h
  rcases h with ⟨rfl, h0⟩ | ⟨g, cap, cur, rfl, hbg, hh, hcap, _⟩
  · exact ⟨none, 0, by rw [h0], by omega, fun x => absurd x (by omega)⟩
  · refine ⟨some ⟨g, 0, none⟩, cap, rfl, hcap, fun _ => ⟨g, rfl, hbg, (hlt g rfl).2, fun j hj r hr => ?_⟩⟩
    have e1 := hcl g rfl (6 * j + r) ((sixE (l[j]'hj))[r]'(by simpa [sixE] using hr)) (by
      rw [entCs_at l j hj r hr]
      match r, hr with
      | 0, _ => rfl
      | 1, _ => rfl
      | 2, _ => rfl
      | 3, _ => rfl
      | 4, _ => rfl
      | 5, _ => rfl)
    have ad : ∀ n, (⟨g, 0, none⟩ : Addr).add n = ⟨g, n, none⟩ := fun n => by unfold Addr.add; split <;> simp_all
    rw [ad] at e1
    rw [e1]
    simp

/-- What the walk holds behind the call. -/
structure CtxE (w w2 : World) (many : Int) (Bw : Nat) (A : Option Addr) (cap : Nat) (L : List Ent) (W : World) : Prop where
  b2 : Below w2.heap.size w2 W
  m : Blk W w.heap.size 3 #[.int .i64 many]
  r : Blk W (w.heap.size + 1) 4 #[.bool false]
  wn : Blk W Bw 23 #[.slice A L.length cap]
  el : 0 < L.length → ∃ g, A = some ⟨g, 0, none⟩ ∧ g < w2.heap.size ∧ ∀ j (hj : j < L.length) r, r < 6 → W.cell? ⟨g, 6 * j + r, none⟩ = (sixE (L[j]'hj))[r]?
  z : w.heap.size + 1 < Bw ∧ Bw < w2.heap.size
theorem CtxE.mono {w w2 : World} {many : Int} {Bw : Nat} {A : Option Addr} {cap : Nat} {L : List Ent} {W W' : World} (C : CtxE w w2 many Bw A cap L W) (hb : Below w2.heap.size W W') : CtxE w w2 many Bw A cap L W' := by
  have hz := C.z
  refine ⟨C.b2.trans hb, C.m.below hb (by omega), C.r.below hb (by omega), C.wn.below hb (by omega), fun h => ?_, C.z⟩
  obtain ⟨g, e, hg, hc⟩ := C.el h
  exact ⟨g, e, hg, fun j hj r hr => (hb.cell (p := ⟨g, 6 * j + r, none⟩) hg).trans (hc j hj r hr)⟩

theorem func4Nil (f : FuncId) (c : Array Value) (w : World) : (binOp BinOp.eql 50 (.func (.func f) #[] c) .nilFunc).run Tryd.prog w = .ok (.bool false) w := by kernel_rfl
theorem neEnt_run (e g : Ent) (w : World) : (binOp .neq 55 (entV e) (entV g)).run Tryd.prog w = .ok (.bool (!decide (e = g))) w := by
  obtain ⟨f, t, a, m, n, k⟩ := e
  obtain ⟨f', t', a', m', n', k'⟩ := g
  have hd : decide ((⟨f, t, a, m, n, k⟩ : Ent) = ⟨f', t', a', m', n', k'⟩) = (f == f' && t == t' && a == a' && m == m' && n == n' && k == k') := by
    rw [Bool.eq_iff_iff, decide_eq_true_iff]
    simp [Ent.mk.injEq, and_assoc]
  rw [hd]
  simp [go_sem]
  by_cases h1 : f = f' <;> by_cases h2 : t = t' <;> by_cases h3 : a = a' <;> by_cases h4 : m = m' <;> by_cases h5 : n = n' <;> by_cases h6 : k = k' <;> simp [h1, h2, h3, h4, h5, h6]
end Go.Proofs.YtehhablobfaplaaDoor

namespace Go.Proofs.YtehhablobfaplaaDoor
open Go Go.RowKit Go.Shelf Go.Sort
attribute [local go_sem] Oper.semAt_some

theorem Hold3.past {W₁ W W' : World} {h k : Nat} (hh : Hold3 W₁ h k W) (hb : Below W.heap.size W W') : Hold3 W₁ h k W' := ⟨hh.1.below hb hh.1.lt, hh.2.trans (hb.mono (Nat.le_of_lt hh.1.lt))⟩
theorem keepsFrom_below {B : Nat} {W W' : World} (hb : Below W.heap.size W W') : KeepsFrom B W W' := ⟨hb.size, fun i _ _ ho _ => (hb.block i (Array.getElem?_eq_some_iff.1 ho).1).trans ho⟩

theorem drew_set1 {B b : Nat} {W : World} {u : Value} : KeepsFrom B W (W.setCell ⟨b, 0, none⟩ u).drew :=
  have k1 := (KeepsOthers.setCell W ⟨b, 0, none⟩ u).from B
  ⟨k1.1, k1.2⟩
theorem drew_set2 {K₀ : Nat → Prop} {E b : Nat} {W : World} {u : Value} (h1 : ¬ K₀ b) (h2 : b < E) : Kept2 K₀ E W (W.setCell ⟨b, 0, none⟩ u).drew :=
  (Kept2.grown (grown_set W _ _ _) h1 h2).trans (Kept2.calls (below_drew _))
theorem not_pair {L : List Ent} {E : List (Int × Ent)} (hL : E.length = L.length) (hat : ∀ (i : Nat) (h : i < E.length) (h2 : i < L.length), E[i] = ((i : Int), L[i])) {pre : List (Int × Ent)} {n : Int} {e : Ent}
    (h : ¬ n = (pre.length : Int) ∨ ∀ hl : pre.length < L.length, L[pre.length]'hl ≠ e) : ¬ (pre ++ [(n, e)]) <+: E := by
  by_cases hl : pre.length < E.length
  · refine not_preK hl fun hx => ?_
    rw [hat _ hl (by omega)] at hx
    simp only [Prod.mk.injEq] at hx
    rcases h with h | h
    · exact h hx.1
    · exact h (by omega) hx.2.symm
  · exact long_preK hl

end Go.Proofs.YtehhablobfaplaaDoor
