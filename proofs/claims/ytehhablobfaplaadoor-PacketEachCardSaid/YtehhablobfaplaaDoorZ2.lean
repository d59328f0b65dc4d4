/- Layer 4's Each, for a range whose rounds keep slices of their own (Z1). -/
import Derived.Test.YtehhablobfaplaaDoorY9
import Derived.Test.YtehhablobfaplaaDoorZ1
namespace Go.Proofs.YtehhablobfaplaaDoor
open Go Go.RowKit Go.Shelf Go.Sort
attribute [local go_sem] Oper.semAt_some

set_option maxRecDepth 100000 in
set_option maxHeartbeats 3200000 in
theorem pieces4_inB (Mb : Obj → Bool) (n : Nat) (hn : 1 ≤ n) (l Bb E g cap N : Nat) (K₀ : Nat → Prop) (hN : N ≤ 1000000) (hcap : N ≤ cap) (q : Option Addr) (hq : 0 < N → q = some ⟨g, 0, none⟩) (hb : K₀ Bb) (J Jx : List (Nat × Nat) → World → Prop) {F : Fence} (hF : F = Fence.wide)
    (hY : ∀ pre x W, x ∈ pcs 20 N (N + 1) 0 → J pre W → pre.length < (pcs 20 N (N + 1) 0).length → YieldAt F (n - 1) Tryd.prog l #[.int .i64 ((x.1 / 20 : Nat) : Int), .slice (some ⟨g, x.1, none⟩) x.2 (cap - x.1)] W fun e W' =>
      KeptB Mb K₀ E W W' ∧ ((e = .returned (.bool true) ∧ J (pre ++ [x]) W') ∨ (e = .returned (.bool false) ∧ Jx (pre ++ [x]) W')))
    (W : World) (co : W.cell? ⟨Bb, 0, none⟩ = some (.slice q N cap)) (h0 : J [] W) :
    CallsIn F n Tryd.prog 66 #[.func (.yield l) #[] #[], .pointer (some ⟨Bb, 0, none⟩)] W fun e W' => (∃ v, e = .returned v) ∧
      ((∃ ys, ys = pcs 20 N (N + 1) 0 ∧ J ys W') ∨ (∃ pre, pre <+: pcs 20 N (N + 1) 0 ∧ Jx pre W')) := by
  subst hF
  generalize hLdef : pcs 20 N (N + 1) 0 = L at *
  have HLd := Lib.hid hLdef
  clear hLdef
  have HY := Lib.hid hY
  clear hY
  refine callsIn_of_wp Tryd.func66 rfl trivial ?_ rfl
  simp only [Tryd.ntmps66, List.size_toArray, List.length_cons, List.length_nil, Nat.reduceAdd, Nat.reduceSub, Array.replicate_succ, Array.replicate_zero, List.push_toArray, List.append_toArray, List.nil_append, List.cons_append]
  gi_wp2
  have HJ0 := Lib.hid h0
  gi_loopw [3] (fun a wr => ∃ (f i : Nat) (pre : List (Nat × Nat)), a = .int .i64 i ∧ 20 * i ≤ N + 20 ∧ N < 20 * i + f ∧ Hid (L = pre ++ pcs 20 N f (20 * i)) ∧ Hid (J pre wr) ∧ wr.cell? ⟨Bb, 0, none⟩ = some (.slice q N cap))
    (fun a _ => N + 5 - (intOf a).toNat)
  case atStart => exact ⟨N + 1, 0, [], rfl, by omega, by omega, by rw [← HLd.out]; simp [Hid], HJ0, co⟩
  case round =>
    clear HJ0 co h0
    obtain ⟨f, i, pre, rfl, hat, hf, HL, HJ, c0⟩ := hrel
    by_cases hlt : 20 * i < N
    · obtain rfl := hq (by omega)
      obtain ⟨f, rfl⟩ : ∃ j, f = j + 1 := ⟨f - 1, by omega⟩
      have hL := HL.out
      rw [pcs, if_pos hlt] at hL
      have HL2 := Lib.hid hL
      clear hL HL
      have jz : (i : Int) * 20 < (N : Int) := by omega
      have hy0 := HY.out pre (20 * i, min 20 (N - 20 * i)) wr (by rw [HL2.out]; simp) HJ.out (by rw [HL2.out]; simp)
      dsimp only at hy0
      rw [Nat.mul_div_cancel_left i (by decide : 0 < 20)] at hy0
      have e1 : ((i : Int) * 20).toNat = 20 * i := by omega
      have e2 : (min (((i : Int) + 1) * 20) (N : Int)).toNat - 20 * i = min 20 (N - 20 * i) := by omega
      have e3 : (i : Int) * 20 ≤ min (((i : Int) + 1) * 20) (N : Int) := by omega
      have e4 : min (((i : Int) + 1) * 20) (N : Int) ≤ (cap : Int) := by omega
      obtain ⟨fn, tmps, assign, body, hy, hR⟩ := hy0
      have HR := Lib.hid hR
      clear hR
      gi_wp2_with fail
      refine HR.out.mono ?_
      rintro e W3 ⟨hk3, ⟨rfl, hJ3⟩ | ⟨rfl, hJx3⟩⟩
      · have d0 := (hk3.cell (World.block_lt_of_cell? _ _ c0) hb).trans c0
        have hL3 : L = (pre ++ [(20 * i, min 20 (N - 20 * i))]) ++ pcs 20 N f (20 * (i + 1)) := by rw [HL2.out]; simp [Nat.mul_add]
        have HL3 := Lib.hid hL3
        have HJ3 := Lib.hid hJ3
        clear hk3 hL3 hJ3 hy e1 e2 e3 e4
        gi_wp2
        go_roundw
        case rel => exact ⟨f, i + 1, pre ++ [(20 * i, min 20 (N - 20 * i))], by congr 1, by omega, by omega, HL3, HJ3, d0⟩
        case measure => simp only [intOf]; omega
      · gi_wp2
        (try simp only [Exit.inBlock, Exit.then])
        refine bodyPost_ret (results_none rfl _ _ _) rfl ?_
        exact ⟨⟨_, rfl⟩, .inr ⟨pre ++ [(20 * i, min 20 (N - 20 * i))], ⟨_, by rw [HL2.out, List.append_assoc]; rfl⟩, hJx3⟩⟩
    · have jz : ¬ (i : Int) * 20 < (N : Int) := by omega
      have hL := HL.out
      have hnil : pcs 20 N f (20 * i) = [] := by cases f <;> simp [pcs, hlt]
      rw [hnil, List.append_nil] at hL
      have HL2 := Lib.hid hL
      clear hL HL hnil
      gi_wp2
      go_end0
      exact ⟨⟨_, rfl⟩, .inl (by rw [HL2.out]; exact HJ.out)⟩

theorem pieces4_stopsB (Mb : Obj → Bool) (n : Nat) (hn : 1 ≤ n) (Bb g cap N : Nat) (K₀ : Nat → Prop) (hN : N ≤ 1000000) (hcap : N ≤ cap) (q : Option Addr) (hq : 0 < N → q = some ⟨g, 0, none⟩) (hb : K₀ Bb) (w : World) (lo : Bb < w.heap.size)
    (co : w.cell? ⟨Bb, 0, none⟩ = some (.slice q N cap)) :
    SeqStopsB Mb Fence.wide n Tryd.prog 66 #[.pointer (some ⟨Bb, 0, none⟩)] (fun x : Pc 20 N => #[.int .i64 ((x.1.1 / 20 : Nat) : Int), .slice (some ⟨g, x.1.1, none⟩) x.1.2 (cap - x.1.1)]) K₀
      (fun ys => ys.map (·.1) = pcs 20 N (N + 1) 0) (fun pre => pre.map (·.1) <+: pcs 20 N (N + 1) 0) (pcs 20 N (N + 1) 0).length w := fun l J Jx W hW _ _ hY h0 => by
  have h := pieces4_inB Mb n hn l Bb W.heap.size g cap N K₀ hN hcap q hq hb (fun pre W => ∃ q' : List (Pc 20 N), q'.map (·.1) = pre ∧ J q' W) (fun pre W => ∃ q' : List (Pc 20 N), q'.map (·.1) = pre ∧ Jx q' W) rfl
    (fun pre x W1 hx ⟨q, hq, hj⟩ hlen => by
      obtain ⟨fn, tmps, assign, body, hy, hR⟩ := hY q ⟨x, hx⟩ W1 hj (by rw [← hq] at hlen; simpa using hlen)
      refine ⟨fn, tmps, assign, body, hy, hR.mono fun e W' h => ?_⟩
      rcases h with ⟨hk', ⟨he, hj'⟩ | ⟨he, hj'⟩⟩
      · exact ⟨hk', .inl ⟨he, ⟨q ++ [⟨x, hx⟩], by simp [hq], hj'⟩⟩⟩
      · exact ⟨hk', .inr ⟨he, ⟨q ++ [⟨x, hx⟩], by simp [hq], hj'⟩⟩⟩)
    W ((hW.cell (p := ⟨Bb, 0, none⟩) lo).trans co) ⟨[], rfl, h0⟩
  refine h.mono fun e W' ⟨hv, h⟩ => ⟨hv, ?_⟩
  rcases h with ⟨ys, rfl, q, hq, hj⟩ | ⟨pre, hp, q, hq, hj⟩
  · exact .inl ⟨q, hq, hj⟩
  · exact .inr ⟨q, by show q.map _ <+: _; rw [hq]; exact hp, hj⟩

set_option maxRecDepth 100000 in
set_option maxHeartbeats 3200000 in
theorem each4_inB (Mb : Obj → Bool) (hM0 : ∀ o, o.isCells = false → Mb o = false) (hM1 : ∀ cs, Mb (.cells cs 77 (0, 0)) = false) (hM2 : ∀ cs, Mb (.cells cs 27 (0, 0)) = false) (n : Nat) (hn : 6 ≤ n) (l Bo g cap : Nat) (K₀ : Nat → Prop) (xs : List Int) (hb : IsBytes xs) (hN : xs.length ≤ 1000000) (hcap : xs.length ≤ cap) (q : Option Addr) (hq : 0 < xs.length → q = some ⟨g, 0, none⟩) (J Jx : List (Int × Ent) → World → Prop)
    (W : World) (hJ : AbidesM (fun o => !Mb o) W.heap.size J) (hJx : AbidesM (fun o => !Mb o) W.heap.size Jx)
    (hY : ∀ pre x W', J pre W' → pre.length < (pcs 20 xs.length (xs.length + 1) 0).length → YieldAt Fence.wide (n - 1) Tryd.prog l #[.int .i64 x.1, entV x.2] W' fun e W'' =>
      KeptB Mb K₀ W.heap.size W' W'' ∧ ((e = .returned (.bool true) ∧ J (pre ++ [x]) W'') ∨ (e = .returned (.bool false) ∧ Jx (pre ++ [x]) W'')))
    (hlt : ∀ i, K₀ i → i < W.heap.size) (hgb : K₀ g) (hgw : K₀ 0) (co : W.cell? ⟨Bo, 0, none⟩ = some (.slice q xs.length cap)) (hx : ByS W (some ⟨g, 0, none⟩) xs) (hf : Fit3 W) (h0 : J [] W) :
    CallsIn Fence.wide n Tryd.prog 53 #[.func (.yield l) #[] #[], .pointer (some ⟨Bo, 0, none⟩)] W fun e W' => (∃ v, e = .returned v) ∧
      ((∃ ys, ys = eachE xs ∧ J ys W') ∨ (∃ pre, pre <+: eachE xs ∧ Jx pre W')) := by
  generalize hT : eachE xs = T at *
  have hn1 : 1 ≤ n := by omega
  have hn3 : 1 ≤ n - 1 - 1 := by omega
  have hb1 : Below W.heap.size W (W.alloc (.cells #[.func (.yield l) #[] #[]] 77)) := (Below.refl _ _).alloc (Nat.le_refl _) _
  have cy : Blk (W.alloc (.cells #[.func (.yield l) #[] #[]] 77)) W.heap.size 77 #[.func (.yield l) #[] #[]] := Blk.new _ _ _
  have hs1 : (W.alloc (.cells #[.func (.yield l) #[] #[]] 77)).heap.size = W.heap.size + 1 := by simp
  have hJ1 : J [] (W.alloc (.cells #[.func (.yield l) #[] #[]] 77)) := hJ [] W _ h0 (.calls hb1)
  have HY := Lib.hid hY
  have HAJ := Lib.hid hJ
  have HAX := Lib.hid hJx
  have HB := Lib.hid hb
  have HT := Lib.hid hT
  clear hY hJ hJx hb hT
  refine callsIn_of_wp_marks Tryd.func53 rfl trivial ?_ rfl
  simp only [Tryd.ntmps53, List.size_toArray, List.length_cons, List.length_nil, Nat.reduceAdd, Nat.reduceSub, Array.replicate_succ, Array.replicate_zero, List.push_toArray, List.append_toArray, List.nil_append, List.cons_append]
  gi_wp2_with fail
  generalize hW1 : W.alloc (.cells #[.func (.yield l) #[] #[]] 77) = W1 at *
  replace co := (hb1.cell (p := ⟨Bo, 0, none⟩) (World.block_lt_of_cell? _ _ co)).trans co
  replace hx := hx.below hb1
  replace hf := hf.below hb1
  generalize hB : W.heap.size = B at *
  have HX := Lib.hid hx
  have HF := Lib.hid hf
  have HJ1 := Lib.hid hJ1
  have HCY := Lib.hid cy
  clear hx hf h0 hJ1 hb1 hW1 hB cy
  refine wpInWide_scope ?_
  gi_wp2_with fail
  refine wpIn_label ?_
  gi_wp2_with fail
  refine ⟨trivial, ?_⟩
  refine (callsIn_wide.2 (pieces4_any q xs.length cap W1)).mono ?_
  rintro e w2 ⟨rfl, hw2⟩
  have hb2 : Below W1.heap.size W1 w2 := by rw [hw2]; exact (Below.refl _ _).alloc (Nat.le_refl _) _
  have hs2 : w2.heap.size = W1.heap.size + 1 := by rw [hw2]; simp
  have c2o : w2.cell? ⟨W1.heap.size, 0, none⟩ = some (.slice q xs.length cap) := by
    rw [hw2]; exact (Blk.new W1 27 #[.slice q xs.length cap]).cell 0
  have hk2o : Blk w2 W1.heap.size 27 #[.slice q xs.length cap] := by
    rw [hw2]; exact Blk.new W1 27 #[.slice q xs.length cap]
  have hx2 := HX.out.below hb2
  have hf2 := HF.out.below hb2
  have hJ2 := HAJ.out [] W1 w2 HJ1.out (.calls hb2)
  have hy2 := HCY.out.below hb2 (by omega)
  have HX2 := Lib.hid hx2
  have HF2 := Lib.hid hf2
  have HJ2 := Lib.hid hJ2
  have HY2 := Lib.hid hy2
  have hb2s := hb2.size
  rw [hs1] at c2o hs2 hb2s hk2o
  have HK2 := Lib.hid hk2o
  clear hk2o
  clear hw2 hx2 hf2 hJ2 hy2 HJ1 HCY HX HF co hb2
  gi_wp2_with fail
  have kB : ∀ i, B ≤ i → i < w2.heap.size → (K₀ i ∨ (B ≤ i ∧ i < w2.heap.size)) := fun i h1 h2 => .inr ⟨h1, h2⟩
  have hst := pieces4_stopsB Mb (n - 1) (by omega) (B + 1) g cap xs.length (fun i => K₀ i ∨ (B ≤ i ∧ i < w2.heap.size)) hN hcap q hq (kB _ (by omega) (by omega)) w2 (by omega) c2o
  refine wpIn_rangeFunc_B1 (α := Pc 20 xs.length) (K₀ := fun i => K₀ i ∨ (B ≤ i ∧ i < w2.heap.size)) (S := fun ys => ys.map (·.1) = pcs 20 xs.length (xs.length + 1) 0) (Sp := fun pre => pre.map (·.1) <+: pcs 20 xs.length (xs.length + 1) 0) (N := (pcs 20 xs.length (xs.length + 1) 0).length) rfl hn1 (gf := 66) (lb := #[.pointer (some ⟨B + 1, 0, none⟩)]) rfl trivial (enters_of Tryd.func66 (by kernel_rfl) rfl)
    hst (fun h => by rcases h with h | h; (have := hlt _ h; omega); omega) (Below.refl _ _) (fun _ => rfl)
    (fun pre W' => (∀ y ∈ pre, y.1.2 = 20) ∧ J (pre.map fun y => tellE xs y.1) W' ∧ AsIn (fun i => K₀ i ∨ (B ≤ i ∧ i < w2.heap.size)) w2 W')
    (fun c pre' W' => c = .exit 0 ∧ EachY xs J Jx pre' W')
    ?hI ?hIx ⟨fun y h => by simp at h, HJ2.out, Nat.le_refl _, fun _ _ _ => rfl⟩ ?a₁ ?assign ?body ?done ?stop
  case hI => exact fun pre A C hs ht => ⟨hs.1, HAJ.out _ A C hs.2.1 ((Turns.unkind hM0 ht).mono (by omega)), asIn_own (β := Unit) () A C hs.2.2 ht⟩
  case hIx =>
    rintro c pre' A C ⟨hc, pre, x, e, hp, h⟩ ht
    exact ⟨hc, ⟨pre, x, e, hp, h.imp (fun h => ⟨h.1, HAJ.out _ A C h.2 ((Turns.unkind hM0 ht).mono (by omega))⟩) (fun h => ⟨h.1, HAX.out _ A C h.2 ((Turns.unkind hM0 ht).mono (by omega))⟩)⟩⟩
  case assign =>
    intro l2 x W' K' hK'
    gi_wp2
    exact hK'
  case body =>
    rintro l2 pre x W' ⟨hp, hj, ha⟩ hlen
    obtain ⟨m1, m2, m3, m4⟩ := pcs_mem (by omega) _ _ _ (show x.1 ∈ pcs 20 xs.length (xs.length + 1) 0 from x.2)
    have c_y := ha.cell (kB B (Nat.le_refl _) (by omega)) (show w2.cell? ⟨B, 0, none⟩ = some (.func (.yield l) #[] #[]) from by have := HY2.out.cell 0; simpa using this)
    have hwin : ByS W' (some ⟨g, x.1.1, none⟩) ((xs.drop x.1.1).take x.1.2) := by simpa using (ha.byS (.inl hgb) HX2.out).window x.1.1 x.1.2 m2
    have hlen2 : ((xs.drop x.1.1).take x.1.2).length = x.1.2 := by simp; omega
    have hread := read4_any (some ⟨g, x.1.1, none⟩) (cap - x.1.1) ((xs.drop x.1.1).take x.1.2) ((HB.out.drop _).take _) (by omega) (by omega) W' hwin (HF2.out.asIn ha (.inl hgw))
    rw [hlen2] at hread
    have hw2s : w2.heap.size = B + 2 := by omega
    have hfour : ∀ W3, KeptB Mb K₀ B W' W3 → KeptB Mb (fun i => K₀ i ∨ (B ≤ i ∧ i < w2.heap.size)) (w2.heap.size + 2) W' W3 := fun W3 h4 => by
      refine ⟨h4.os, h4.tape, h4.output, h4.size, fun i hl hi => ?_, fun i o hi ho hM => h4.high i o (by omega) ho hM⟩
      rcases hi with hi | hi
      · exact h4.low i hl hi
      · have e1 := ha.2 i hi.2 (.inr hi)
        rcases (show i = B ∨ i = B + 1 by omega) with rfl | rfl
        · exact (h4.high _ _ (Nat.le_refl _) (e1.trans HY2.out) (hM1 _)).trans (e1.trans HY2.out).symm
        · exact (h4.high _ _ (by omega) (e1.trans HK2.out) (hM2 _)).trans (e1.trans HK2.out).symm
    have FOUR := Lib.hid hfour
    clear hfour
    have HHA := Lib.hid ha
    by_cases hfull : x.1.2 = 20
    · have e1 : rdV ((xs.drop x.1.1).take x.1.2) = readE (xs.drop x.1.1) := by
        unfold rdV
        rw [if_pos (by omega), hfull, readE_take]
      have e2 : rdNo ((xs.drop x.1.1).take x.1.2) = 0 := if_pos (by omega)
      rw [e1, e2] at hread
      have htl : tellE xs x.1 = (((x.1.1 / 20 : Nat) : Int), readE (xs.drop x.1.1)) := rfl
      obtain ⟨o, ho⟩ : ∃ o, readE (xs.drop x.1.1) = o := ⟨_, rfl⟩
      rw [ho] at hread htl
      obtain ⟨f, t, a, m, nx, k⟩ := o
      have e5 : ((x.1.1 / 20 : Nat) : Int) = (x.1.1 : Int) / 20 := by omega
      rw [e5] at htl
      rw [hfull] at hread
      have HREAD := Lib.hid hread
      have HTL := Lib.hid htl
      clear hread htl ho e1 e2 e5 hwin ha
      gi_wp2_with fail
      refine ⟨trivial, (CallsIn.inRound l2 (callsIn_wide.2 HREAD.out)).mono ?_⟩
      rintro e wR ⟨rfl, hbR⟩
      have hbV : Below W'.heap.size W' (wR.alloc (.cells #[.int .i64 f, .int .i64 t, .int .u32 a, .int .u32 m, .int .u32 nx, .int .u32 k] 55)) := hbR.alloc hbR.size _
      have c_yR := (hbR.cell (p := ⟨B, 0, none⟩) (World.block_lt_of_cell? _ _ c_y)).trans c_y
      have hlB := World.block_lt_of_cell? _ _ c_yR
      have hJV := HAJ.out _ W' _ hj (.calls hbV)
      have hyy := yield_wide (HY.out (pre.map fun y => tellE xs y.1) (tellE xs x.1) _ hJV (by simpa using hlen)) (n - 1 - 1 - 1) l2
      rw [HTL.out] at hyy
      have hfin : ∀ W3, KeptB Mb K₀ B (wR.alloc (.cells #[.int .i64 f, .int .i64 t, .int .u32 a, .int .u32 m, .int .u32 nx, .int .u32 k] 55)) W3 → KeepsFrom w2.heap.size W' W3 ∧ KeptB Mb (fun i => K₀ i ∨ (B ≤ i ∧ i < w2.heap.size)) (w2.heap.size + 2) W' W3 ∧ (∀ y ∈ pre ++ [x], y.1.2 = 20) ∧ AsIn (fun i => K₀ i ∨ (B ≤ i ∧ i < w2.heap.size)) w2 W3 := fun W3 h3 => by
        have h4 : KeptB Mb K₀ B W' W3 := (KeptB.calls hbV).trans h3
        have h5 := FOUR.out _ h4
        refine ⟨⟨h4.size, fun i o hi ho hnc => h4.high i o (by omega) ho (hM0 o hnc)⟩, h5, fun y hy => ?_, ⟨Nat.le_trans HHA.out.1 h4.size, fun k hk hK => (h5.low k (Nat.lt_of_lt_of_le hk HHA.out.1) hK).trans (HHA.out.2 k hk hK)⟩⟩
        rcases List.mem_append.1 hy with hy | hy
        · exact hp y hy
        · rw [List.mem_singleton.1 hy]; exact hfull
      have FIN := Lib.hid hfin
      obtain ⟨fn, tmps, assign, body, hy, hR⟩ := hyy
      have HR := Lib.hid hR
      dsimp only at hy
      clear hfin hR hbV hJV hbR c_y
      gi_wp2_with fail
      refine HR.out.mono ?_
      rintro e W3 ⟨hk3, ⟨rfl, hJ3⟩ | ⟨rfl, hJ3⟩⟩
      · have hfin := FIN.out W3 hk3
        gi_wp2
        exact ⟨hfin.1, hfin.2.1, hfin.2.2.1, by rw [List.map_append, List.map_singleton, HTL.out]; exact hJ3, hfin.2.2.2⟩
      · have hfin := FIN.out W3 hk3
        gi_wp2
        exact ⟨hfin.1, hfin.2.1, rfl, ⟨pre, x, rfl, hp, .inr ⟨hfull, by rw [List.map_append, List.map_singleton, HTL.out]; exact hJ3⟩⟩⟩
    · have e1 : rdV ((xs.drop x.1.1).take x.1.2) = ⟨0, 0, 0, 0, 0, 0⟩ := if_neg (by omega)
      have e2 : rdNo ((xs.drop x.1.1).take x.1.2) = 130 := if_neg (by omega)
      rw [e1, e2] at hread
      have HREAD := Lib.hid hread
      clear hread e1 e2 hwin ha
      gi_wp2_with fail
      refine ⟨trivial, (CallsIn.inRound l2 (callsIn_wide.2 HREAD.out)).mono ?_⟩
      rintro e wR ⟨rfl, hbR⟩
      have hbV : Below W'.heap.size W' (wR.alloc (.cells #[.int .i64 0, .int .i64 0, .int .u32 0, .int .u32 0, .int .u32 0, .int .u32 0] 55)) := hbR.alloc hbR.size _
      have hJV := HAJ.out _ W' _ hj (.calls hbV)
      have h4 : KeptB Mb K₀ B W' (wR.alloc (.cells #[.int .i64 0, .int .i64 0, .int .u32 0, .int .u32 0, .int .u32 0, .int .u32 0] 55)) := KeptB.calls hbV
      have h5 := FOUR.out _ h4
      have h6 : KeepsFrom w2.heap.size W' (wR.alloc (.cells #[.int .i64 0, .int .i64 0, .int .u32 0, .int .u32 0, .int .u32 0, .int .u32 0] 55)) := ⟨h4.size, fun i o hi ho hnc => h4.high i o (by omega) ho (hM0 o hnc)⟩
      have HFI := Lib.hid (And.intro h6 (And.intro h5 hJV))
      clear hbV hJV h4 h5 h6 hbR c_y
      gi_wp2
      exact ⟨HFI.out.1, HFI.out.2.1, rfl, ⟨pre, x, rfl, hp, .inl ⟨hfull, HFI.out.2.2⟩⟩⟩
  case done =>
    rintro D ys W' hD hS ⟨hp, hj, _⟩ hK'
    gi_wp2
    refine ⟨by simp, .inl ⟨_, _, rfl, run_takeDeferred hK', ?_⟩⟩
    refine ⟨_, by first | exact results_none rfl _ _ _ | rfl, ⟨_, rfl⟩, .inl ⟨ys.map fun y => tellE xs y.1, ?_, ?_⟩⟩
    · rw [← HT.out]
      exact nums_done 20 (tellE xs) (fun y : Pc 20 xs.length => y.1) ys _ hS hp
    · exact HAJ.out _ W' _ hj (Turns.record _ hK' (by simp [hM0 (.deferred (some [])) rfl]) (by omega))
  case stop =>
    rintro D c pre' W' hD hSp ⟨rfl, pre, x, rfl, hp, h⟩ hK'
    gi_wp2
    refine ⟨by simp, .inl ⟨_, _, rfl, run_takeDeferred hK', ?_⟩⟩
    have hturn : Turns (fun o => !Mb o) B W' (W'.putObj D (.deferred none)) := Turns.record _ hK' (by simp [hM0 (.deferred (some [])) rfl]) (by omega)
    rcases h with ⟨hsh, hj⟩ | ⟨hfu, hj⟩
    · refine ⟨_, by first | exact results_none rfl _ _ _ | rfl, ⟨_, rfl⟩, .inl ⟨pre.map fun y => tellE xs y.1, ?_, HAJ.out _ W' _ hj hturn⟩⟩
      rw [← HT.out]
      exact nums_stop 20 (tellE xs) (fun y : Pc 20 xs.length => y.1) pre x _ hSp hp hsh
    · refine ⟨_, by first | exact results_none rfl _ _ _ | rfl, ⟨_, rfl⟩, .inr ⟨(pre ++ [x]).map fun y => tellE xs y.1, ?_, HAX.out _ W' _ hj hturn⟩⟩
      rw [← HT.out]
      refine nums_left 20 (tellE xs) (fun y : Pc 20 xs.length => y.1) _ _ hSp (fun z hz => ?_)
      rcases List.mem_append.1 hz with hz | hz
      · exact hp z hz
      · rw [List.mem_singleton.1 hz]; exact hfu

/-- Each, for a range over it whose rounds keep slices of their own. -/
theorem each4_stopsB (Mb : Obj → Bool) (hM0 : ∀ o, o.isCells = false → Mb o = false) (hM1 : ∀ cs, Mb (.cells cs 77 (0, 0)) = false) (hM2 : ∀ cs, Mb (.cells cs 27 (0, 0)) = false) (n : Nat) (hn : 6 ≤ n) (Bo g cap : Nat) (K₀ : Nat → Prop) (q : Option Addr) (xs : List Int) (hb : IsBytes xs) (hN : xs.length ≤ 1000000) (hcap : xs.length ≤ cap) (hq : 0 < xs.length → q = some ⟨g, 0, none⟩) (w : World)
    (hn₀ : ∀ i, K₀ i → i < w.heap.size) (lg : K₀ g) (lw : K₀ 0) (co : w.cell? ⟨Bo, 0, none⟩ = some (.slice q xs.length cap)) (hx : ByS w (some ⟨g, 0, none⟩) xs) (hf : Fit3 w) :
    SeqStopsB Mb Fence.wide n Tryd.prog 53 #[.pointer (some ⟨Bo, 0, none⟩)] (fun x : Int × Ent => #[.int .i64 x.1, entV x.2]) K₀
      (fun ys => ys = eachE xs) (fun pre => pre <+: eachE xs) (pcs 20 xs.length (xs.length + 1) 0).length w := fun l J Jx W hW hJ hJx hY h0 =>
  each4_inB Mb hM0 hM1 hM2 n hn l Bo g cap K₀ xs hb hN hcap q hq J Jx W hJ hJx hY (fun i hi => Nat.lt_of_lt_of_le (hn₀ i hi) hW.size) lg lw
    ((hW.cell (p := ⟨Bo, 0, none⟩) (World.block_lt_of_cell? _ _ co)).trans co) (hx.below hW) (hf.below hW) h0


end Go.Proofs.YtehhablobfaplaaDoor
