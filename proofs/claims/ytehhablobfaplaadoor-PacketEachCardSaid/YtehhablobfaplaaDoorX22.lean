/- The walk of PacketEach (laid by tools/gen/x22.py). -/
import Derived.Test.YtehhablobfaplaaDoorX16
import Derived.Test.YtehhablobfaplaaDoorZ3
namespace Go.Proofs.YtehhablobfaplaaDoor
open Go Go.RowKit Go.Shelf Go.Sort
attribute [local go_sem] Oper.semAt_some

set_option maxRecDepth 100000 in
set_option maxHeartbeats 3200000 in
theorem law05_each_small (many : Int) (p : Option Addr) (c : Nat) (xs : List Int) (b1 : IsBytes xs) (hs : xs.length ≤ 600) (hcx : xs.length ≤ c) (w : World) (x1 : ByS w p xs) (hF : Fit3 w) :
    CallsIn Fence.wide 15 Tryd.prog 6 #[.slice p xs.length c, .int .i64 many] w fun e w' => e = .returned (.bool true) ∧ Below w.heap.size w w' := by
  have hbig : ¬ 600 < (xs.length : Int) := by omega
  have HCX : Hid (xs.length ≤ c) := hcx
  have HF := Lib.hid hF
  have B1 := Lib.hid b1
  have X1 := Lib.hid x1
  clear hF b1 x1 hcx
  refine callsIn_of_wp_marks Tryd.func6 rfl trivial ?_ rfl
  simp only [Tryd.ntmps6, List.size_toArray, List.length_cons, List.length_nil, Nat.reduceAdd, Nat.reduceSub, Array.replicate_succ, Array.replicate_zero, List.push_toArray, List.append_toArray, List.nil_append, List.cons_append]
  gi_wp2_with fail
  have c0 : Blk ((w.alloc (.cells #[.int .i64 many] 3)).alloc (.cells #[.bool false] 4)) w.heap.size 3 #[.int .i64 many] := (Blk.new w _ _).alloc _
  have c1 : Blk ((w.alloc (.cells #[.int .i64 many] 3)).alloc (.cells #[.bool false] 4)) (w.heap.size + 1) 4 #[.bool false] := by
    have := Blk.new (w.alloc (.cells #[.int .i64 many] 3)) 4 #[.bool false]
    simpa using this
  have hb0 : Below w.heap.size w ((w.alloc (.cells #[.int .i64 many] 3)).alloc (.cells #[.bool false] 4)) := ((Below.refl w.heap.size w).alloc (Nat.le_refl _) _).alloc (by simp) _
  have hs0 : ((w.alloc (.cells #[.int .i64 many] 3)).alloc (.cells #[.bool false] 4)).heap.size = w.heap.size + 2 := by simp
  generalize ((w.alloc (.cells #[.int .i64 many] 3)).alloc (.cells #[.bool false] 4)) = W0 at *
  have C0 := Lib.hid c0
  have C1 := Lib.hid c1
  have HB0 := Lib.hid hb0
  clear c0 c1 hb0
  refine ⟨trivial, ?_⟩
  have hrd := refDecode5_any p c xs B1.out (by omega) HCX.out W0 (X1.out.below HB0.out)
  unfold DecY at hrd
  have hds : (decD xs).l.length ≤ 30 := by
    unfold decD
    split
    · simp only [ents_len, List.length_drop]
      omega
    · simp
  have hL : (eachP xs).length = (decD xs).l.length := eachP_len xs
  have hat : ∀ (i : Nat) (h : i < (eachP xs).length) (h2 : i < (decD xs).l.length), (eachP xs)[i] = ((i : Int), ((decD xs).l)[i]) := fun i h h2 => eachP_at h h2
  generalize hdd : decD xs = dd at *
  clear hdd
  obtain ⟨dc, L⟩ := dd
  dsimp only at hrd hds hL hat
  have HRD := Lib.hid hrd
  clear hrd
  refine (callsIn_wide.2 HRD.out).mono ?_
  rintro e w1 ⟨⟨v, rfl, ho⟩, hb1⟩
  obtain ⟨A, cap2, rfl, hcap2, hel⟩ := ownE_open ho
  have hs1 := hb1.size
  have C01 := Lib.hid (C0.out.below hb1 (by omega))
  have C11 := Lib.hid (C1.out.below hb1 (by omega))
  have HB1 := Lib.hid (HB0.out.trans (hb1.mono (by omega)))
  have HEL := Lib.hid hel
  clear ho hel hb1 C0 C1 HB0 HRD
  have hdt : ∀ (x y : Value) (t : TypeId), (w1.alloc (.cells #[x, y] t)).cell? ⟨w1.heap.size, 1, none⟩ = some y := fun x y t => by simp
  gi_wp2_with fail
  have hba : Below w1.heap.size w1 ((w1.alloc (.cells #[.int .i64 dc, .slice A L.length cap2] 25)).alloc (.cells #[.slice A L.length cap2] 23)) := ((Below.refl _ _).alloc (Nat.le_refl _) _).alloc (by simp) _
  have cwn : Blk ((w1.alloc (.cells #[.int .i64 dc, .slice A L.length cap2] 25)).alloc (.cells #[.slice A L.length cap2] 23)) (w1.heap.size + 1) 23 #[.slice A L.length cap2] := by
    have := Blk.new (w1.alloc (.cells #[.int .i64 dc, .slice A L.length cap2] 25)) 23 #[.slice A L.length cap2]
    simpa using this
  have hsa : ((w1.alloc (.cells #[.int .i64 dc, .slice A L.length cap2] 25)).alloc (.cells #[.slice A L.length cap2] 23)).heap.size = w1.heap.size + 2 := by simp
  generalize ((w1.alloc (.cells #[.int .i64 dc, .slice A L.length cap2] 25)).alloc (.cells #[.slice A L.length cap2] 23)) = wa at *
  have CWN := Lib.hid cwn
  have HBA := Lib.hid hba
  clear hdt cwn hba
  refine ⟨trivial, ?_⟩
  refine (callsIn_wide.2 (each5_any p c xs B1.out HCX.out wa (by omega) (X1.out.below (HB1.out.trans (HBA.out.mono HB1.out.size))) (HF.out.below (HB1.out.trans (HBA.out.mono HB1.out.size))))).mono ?_
  rintro e w2 ⟨Br, Bn, g, cap, q, rfl, hcapq, hq, lbn, lbn2, co, cn, hx2, hb2⟩
  have hs2 := hb2.size
  have hfn := fun W => func4Nil 41 #[.pointer (some ⟨Br, 0, none⟩), .pointer (some ⟨Bn, 0, none⟩)] W
  have hB12 : Below w1.heap.size w1 w2 := HBA.out.trans (hb2.mono (by omega))
  have HC0 : Hid (CtxE w w2 many (w1.heap.size + 1) A cap2 L w2) := ⟨Below.refl _ _, C01.out.below hB12 (by omega), C11.out.below hB12 (by omega), CWN.out.below hb2 (by omega), fun h => by
    obtain ⟨g, e, hg, hg2, hc⟩ := HEL.out h
    exact ⟨g, e, by omega, fun j hj r hr => (hB12.cell (p := ⟨g, 6 * j + r, none⟩) hg2).trans (hc j hj r hr)⟩, by omega, by omega⟩
  have HBW2 := Lib.hid (HB1.out.trans (hB12.mono (by omega)))
  have hseq0 : SeqStopsT Fence.wide 14 Tryd.prog 41 #[.pointer (some ⟨Br, 0, none⟩), .pointer (some ⟨Bn, 0, none⟩)] (fun x : Int × Ent => #[.int .i64 x.1, entV x.2]) (fun i => i < w2.heap.size ∧ i ≠ w.heap.size + 1) (fun ys => ys = eachP xs) (fun pre => pre <+: eachP xs) (manyP xs) w2 := by
    have hl := World.block_lt_of_cell? _ _ (HF.out.tab.cell gWid 0 (by decide))
    simp only at hl
    exact each5_stopsK 14 (by omega) Br Bn g cap _ q xs B1.out (by omega) hcapq hq w2 (fun _ h => h.1) ⟨by omega, by omega⟩ ⟨lbn, by omega⟩ co cn hx2 (HF.out.below HBW2.out)
  have HSEQ := Lib.hid hseq0
  have hLs : L.length ≤ 30 := hds
  clear hds hcapq hq lbn lbn2 co cn hx2 hb2 hB12 C01 C11 HB1 HEL CWN HBA hs1 hs2 hsa hcap2 hs0
  have hct : ∀ v, (w2.alloc (.cells #[v] 3)).cell? ⟨w2.heap.size, 0, none⟩ = some v := fun v => by simp
  gi_wp2_with fail
  clear hfn
  generalize eachP xs = E at *
  have HAT := Lib.hid hat
  clear hat
  have hz0 := HC0.out.z
  have hw20 : w.heap.size ≤ w2.heap.size := HBW2.out.size
  generalize w1.heap.size + 1 = Bw at *
  clear hseq0
  generalize manyP xs = N at *
  refine wpIn_loop_rounds 3 ?_
  rw [roundsIn_succ]
  gi_wp2
  clear hct
  have hbt : Blk ((w2.alloc (.cells #[.int .i64 0] 3)).alloc (.cells #[.int .i64 0] 3)) w2.heap.size 3 #[.int .i64 0] := (Blk.new _ _ _).alloc _
  have hbn : Blk ((w2.alloc (.cells #[.int .i64 0] 3)).alloc (.cells #[.int .i64 0] 3)) (w2.heap.size + 1) 3 #[.int .i64 0] := by
    have := Blk.new (w2.alloc (.cells #[.int .i64 0] 3)) 3 #[.int .i64 0]
    simpa using this
  have hbw : Below w2.heap.size w2 ((w2.alloc (.cells #[.int .i64 0] 3)).alloc (.cells #[.int .i64 0] 3)) := ((Below.refl _ _).alloc (Nat.le_refl _) _).alloc (by simp) _
  have hszA : ((w2.alloc (.cells #[.int .i64 0] 3)).alloc (.cells #[.int .i64 0] 3)).heap.size = w2.heap.size + 2 := by simp
  generalize ((w2.alloc (.cells #[.int .i64 0] 3)).alloc (.cells #[.int .i64 0] 3)) = WA at *
  have HC := Lib.hid (HC0.out.mono hbw)
  have HBT := Lib.hid hbt
  clear HC0 hbw hbt
  refine rangeFuncT_brkA (S := fun ys => ys = E) (Sp := fun pre => pre <+: E) (N := N) (K₀ := fun i => i < w2.heap.size ∧ i ≠ w.heap.size + 1) (w0 := w2) rfl (by omega) (gf := 41) (lb := #[.pointer (some ⟨Br, 0, none⟩), .pointer (some ⟨Bn, 0, none⟩)]) rfl trivial (enters_of Tryd.func41 (by kernel_rfl) rfl)
    HSEQ.out (by omega) HC.out.b2 (fun _ => rfl)
    (fun pre W => Hold3 WA (w2.heap.size + 1) pre.length W ∧ goesK many pre) (fun pre W => Hold3 WA (w2.heap.size + 1) pre.length W ∧ breaksK many pre)
    (OwnM.and (hold3_own (by omega) (by omega) _) (ownM_pure _)) (OwnM.and (hold3_own (by omega) (by omega) _) (ownM_pure _))
    ⟨⟨hbn, Below.refl _ _⟩, .inl rfl⟩ (fun x b W => Blk W b 55 (sixE x.2)) (fun x b => blk_ab x b _) ?a₁ ?assign ?body ?after
  case assign =>
    intro l pre x W K hI hK
    have hb : Below W.heap.size W (W.alloc (.cells (sixE x.2) 55)) := (Below.refl _ _).alloc (Nat.le_refl _) _
    have hk := hK W.heap.size _ (keepsFrom_below hb) (Kept2.calls hb) ⟨hI.1.past hb, hI.2⟩ (Blk.new W _ _)
    have HK := Lib.hid hk
    clear hI hK hb hk
    gi_wp2
    generalize W.heap.size = b at *
    exact HK.out
  case body =>
    rintro l pre x b W ⟨hH, hp⟩ hab _
    have C := HC.out.mono (hH.2.mono (by omega))
    have c_n := hH.1.cell 0
    have c_w := C.wn.cell 0
    have c_t := (HBT.out.below hH.2 (by omega)).cell 0
    have c_m := C.m.cell 0
    have hf_n := hH.1.frozen 0
    have hf_r := C.r.frozen 0
    have c_r := C.r.cell 0
    simp only [List.getElem?_toArray, List.getElem?_cons_zero] at c_n c_w c_t c_m c_r
    have hkp1 : ∀ B u, KeepsFrom B W (W.setCell ⟨w2.heap.size + 1, 0, none⟩ u).drew := fun B u => drew_set1
    have hkr1 : ∀ B u, KeepsFrom B W (W.setCell ⟨w.heap.size + 1, 0, none⟩ u).drew := fun B u => drew_set1
    have hkp2 : ∀ E u, w2.heap.size + 1 < E → Kept2 (fun i => i < w2.heap.size ∧ i ≠ w.heap.size + 1) E W (W.setCell ⟨w2.heap.size + 1, 0, none⟩ u).drew := fun E u h => drew_set2 (by omega) h
    have hkr2 : ∀ E u, w.heap.size + 1 < E → Kept2 (fun i => i < w2.heap.size ∧ i ≠ w.heap.size + 1) E W (W.setCell ⟨w.heap.size + 1, 0, none⟩ u).drew := fun E u h => drew_set2 (by omega) h
    obtain ⟨n, f, t, a, m, nx, k⟩ := x
    have cb0 := hab.cell 0
    have cb1 := hab.cell 1
    have cb2 := hab.cell 2
    have cb3 := hab.cell 3
    have cb4 := hab.cell 4
    have cb5 := hab.cell 5
    simp only [sixE, List.getElem?_toArray, List.getElem?_cons_zero, List.getElem?_cons_succ] at cb0 cb1 cb2 cb3 cb4 cb5
    have HN := Lib.hid (hH.set.past (below_drew _))
    have HKP1 := Lib.hid hkp1
    have HKR1 := Lib.hid hkr1
    have HKP2 := Lib.hid hkp2
    have HKR2 := Lib.hid hkr2
    have HAT2 := Lib.hid (not_pair hL HAT.out (pre := pre) (n := n) (e := ⟨f, t, a, m, nx, k⟩))
    by_cases hx1 : n = (pre.length : Int)
    · by_cases hlt : pre.length < L.length
      · obtain ⟨g0, rfl, hg, hel⟩ := C.el (by omega)
        have d0 := hel pre.length hlt 0 (by omega)
        have d1 := hel pre.length hlt 1 (by omega)
        have d2 := hel pre.length hlt 2 (by omega)
        have d3 := hel pre.length hlt 3 (by omega)
        have d4 := hel pre.length hlt 4 (by omega)
        have d5 := hel pre.length hlt 5 (by omega)
        have HCC := Lib.hid C
        clear hH hel C hkp1 hkr1 hkp2 hkr2 hab
        have k1 : ¬ (L.length : Int) ≤ (pre.length : Int) := by omega
        have k2 : (pre.length : Int) < (L.length : Int) := by omega
        have hpl : (pre.length : Int) ≤ 30 := by omega
        have hzz : ∀ z, L[pre.length]'hlt = z → z ≠ ((⟨f, t, a, m, nx, k⟩ : Ent)) → ¬ (pre ++ [((n : Int), ((⟨f, t, a, m, nx, k⟩ : Ent)))]) <+: E := fun z hz hne => HAT2.out (.inr fun h => by rw [hz]; exact hne)
        generalize hz : (L[pre.length]'hlt) = z at *
        have hzn := hzz z rfl
        clear hzz
        obtain ⟨f', t', a', m', n', k'⟩ := z
        simp only [sixE, List.getElem?_toArray, List.getElem?_cons_zero, List.getElem?_cons_succ, Nat.mul_comm 6 pre.length, Nat.add_zero] at d0 d1 d2 d3 d4 d5
        obtain ⟨r, hr⟩ : ∃ r, (!decide (((⟨f, t, a, m, nx, k⟩ : Ent)) = (⟨f', t', a', m', n', k'⟩ : Ent))) = r := ⟨_, rfl⟩
        have hNE : ∀ W, (binOp .neq 55 (.agg #[.int .i64 f, .int .i64 t, .int .u32 a, .int .u32 m, .int .u32 nx, .int .u32 k]) (.agg #[.int .i64 f', .int .i64 t', .int .u32 a', .int .u32 m', .int .u32 n', .int .u32 k'])).run Tryd.prog W = .ok (.bool r) W := fun W => by rw [← hr]; exact neEnt_run ⟨f, t, a, m, nx, k⟩ ⟨f', t', a', m', n', k'⟩ W
        have HR := Lib.hid hr
        have HZN := Lib.hid hzn
        clear hr hzn
        gi_wp2_with fail
        refine region_round (by kernel_rfl) (fun _ => trivial) (by kernel_rfl) ?_
        refine AllY.take (i := 0) (v := ?v1x0) (by rw [List.getElem?_toArray]; exact rfl) (by kernel_rfl) (by kernel_rfl) (by kernel_rfl) (Or.inl ⟨by rfl, ?hy1x0⟩) ?_
        case hy1x0 => intro w hSw; subst hSw; go_simp; (try with_reducible rfl)
        try simp only [Act.put, List.setIfInBounds_toArray, List.set_cons_zero, List.set_cons_succ]
        refine AllY.take (i := 1) (v := ?v1x1) (by rw [List.getElem?_toArray]; exact rfl) (by kernel_rfl) (by kernel_rfl) (by kernel_rfl) (Or.inl ⟨by rfl, ?hy1x1⟩) ?_
        case hy1x1 => intro w hSw; subst hSw; go_simp; (try with_reducible rfl)
        try simp only [Act.put, List.setIfInBounds_toArray, List.set_cons_zero, List.set_cons_succ]
        refine AllY.take (i := 2) (v := ?v1x2) (by rw [List.getElem?_toArray]; exact rfl) (by kernel_rfl) (by kernel_rfl) (by kernel_rfl) (Or.inl ⟨by rfl, ?hy1x2⟩) ?_
        case hy1x2 => intro w hSw; subst hSw; go_simp; (try with_reducible rfl)
        try simp only [Act.put, List.setIfInBounds_toArray, List.set_cons_zero, List.set_cons_succ]
        refine AllY.take (i := 3) (v := ?v1x3) (by rw [List.getElem?_toArray]; exact rfl) (by kernel_rfl) (by kernel_rfl) (by kernel_rfl) (Or.inl ⟨by rfl, ?hy1x3⟩) ?_
        case hy1x3 => intro w hSw; subst hSw; go_simp; (try with_reducible rfl)
        try simp only [Act.put, List.setIfInBounds_toArray, List.set_cons_zero, List.set_cons_succ]
        refine AllY.take (i := 4) (v := ?v1x4) (by rw [List.getElem?_toArray]; exact rfl) (by kernel_rfl) (by kernel_rfl) (by kernel_rfl) (Or.inl ⟨by rfl, ?hy1x4⟩) ?_
        case hy1x4 => intro w hSw; subst hSw; go_simp; (try with_reducible rfl)
        try simp only [Act.put, List.setIfInBounds_toArray, List.set_cons_zero, List.set_cons_succ]
        refine AllY.take (i := 5) (v := ?v1x5) (by rw [List.getElem?_toArray]; exact rfl) (by kernel_rfl) (by kernel_rfl) (by kernel_rfl) (Or.inl ⟨by rfl, ?hy1x5⟩) ?_
        case hy1x5 => intro w hSw; subst hSw; go_simp; (try with_reducible rfl)
        try simp only [Act.put, List.setIfInBounds_toArray, List.set_cons_zero, List.set_cons_succ]
        refine AllY.take (i := 6) (v := ?v1x6) (by rw [List.getElem?_toArray]; exact rfl) (by kernel_rfl) (by kernel_rfl) (by kernel_rfl) (Or.inl ⟨by rfl, ?hy1x6⟩) ?_
        case hy1x6 => intro w hSw; subst hSw; go_simp; (try with_reducible rfl)
        try simp only [Act.put, List.setIfInBounds_toArray, List.set_cons_zero, List.set_cons_succ]
        refine AllY.take (i := 7) (v := .bool false) (by rw [List.getElem?_toArray]; exact rfl) (by kernel_rfl) (by kernel_rfl) (by kernel_rfl) (Or.inl ⟨by rfl, ?hy1x7⟩) ?_
        case hy1x7 => intro w hSw; subst hSw; go_simp; (try with_reducible rfl)
        try simp only [Act.put, List.setIfInBounds_toArray, List.set_cons_zero, List.set_cons_succ]
        refine AllY.take (i := 8) (v := ?v1x8) (by rw [List.getElem?_toArray]; exact rfl) (by kernel_rfl) (by kernel_rfl) (by kernel_rfl) (Or.inl ⟨by rfl, ?hy1x8⟩) ?_
        case hy1x8 => intro w hSw; subst hSw; go_simp; (try with_reducible rfl)
        try simp only [Act.put, List.setIfInBounds_toArray, List.set_cons_zero, List.set_cons_succ]
        refine AllY.take (i := 9) (v := ?v1x9) (by rw [List.getElem?_toArray]; exact rfl) (by kernel_rfl) (by kernel_rfl) (by kernel_rfl) (Or.inl ⟨by rfl, ?hy1x9⟩) ?_
        case hy1x9 => intro w hSw; subst hSw; go_simp; (try with_reducible rfl)
        try simp only [Act.put, List.setIfInBounds_toArray, List.set_cons_zero, List.set_cons_succ]
        refine AllY.take (i := 10) (v := ?v1x10) (by rw [List.getElem?_toArray]; exact rfl) (by kernel_rfl) (by kernel_rfl) (by kernel_rfl) (Or.inl ⟨by rfl, ?hy1x10⟩) ?_
        case hy1x10 => intro w hSw; subst hSw; go_simp; (try with_reducible rfl)
        try simp only [Act.put, List.setIfInBounds_toArray, List.set_cons_zero, List.set_cons_succ]
        refine AllY.take (i := 11) (v := ?v1x11) (by rw [List.getElem?_toArray]; exact rfl) (by kernel_rfl) (by kernel_rfl) (by kernel_rfl) (Or.inl ⟨by rfl, ?hy1x11⟩) ?_
        case hy1x11 => intro w hSw; subst hSw; go_simp; (try with_reducible rfl)
        try simp only [Act.put, List.setIfInBounds_toArray, List.set_cons_zero, List.set_cons_succ]
        refine AllY.take (i := 12) (v := ?v1x12) (by rw [List.getElem?_toArray]; exact rfl) (by kernel_rfl) (by kernel_rfl) (by kernel_rfl) (Or.inl ⟨by rfl, ?hy1x12⟩) ?_
        case hy1x12 => intro w hSw; subst hSw; go_simp; (try with_reducible rfl)
        try simp only [Act.put, List.setIfInBounds_toArray, List.set_cons_zero, List.set_cons_succ]
        refine AllY.take (i := 13) (v := ?v1x13) (by rw [List.getElem?_toArray]; exact rfl) (by kernel_rfl) (by kernel_rfl) (by kernel_rfl) (Or.inl ⟨by rfl, ?hy1x13⟩) ?_
        case hy1x13 => intro w hSw; subst hSw; go_simp; (try with_reducible rfl)
        try simp only [Act.put, List.setIfInBounds_toArray, List.set_cons_zero, List.set_cons_succ]
        refine AllY.take (i := 14) (v := ?v1x14) (by rw [List.getElem?_toArray]; exact rfl) (by kernel_rfl) (by kernel_rfl) (by kernel_rfl) (Or.inl ⟨by rfl, ?hy1x14⟩) ?_
        case hy1x14 => intro w hSw; subst hSw; go_simp; (try with_reducible rfl)
        try simp only [Act.put, List.setIfInBounds_toArray, List.set_cons_zero, List.set_cons_succ]
        refine AllY.take (i := 15) (v := ?v1x15) (by rw [List.getElem?_toArray]; exact rfl) (by kernel_rfl) (by kernel_rfl) (by kernel_rfl) (Or.inl ⟨by rfl, ?hy1x15⟩) ?_
        case hy1x15 => intro w hSw; subst hSw; go_simp; (try with_reducible rfl)
        try simp only [Act.put, List.setIfInBounds_toArray, List.set_cons_zero, List.set_cons_succ]
        refine AllY.take (i := 16) (v := ?v1x16) (by rw [List.getElem?_toArray]; exact rfl) (by kernel_rfl) (by kernel_rfl) (by kernel_rfl) (Or.inl ⟨by rfl, ?hy1x16⟩) ?_
        case hy1x16 => intro w hSw; subst hSw; go_simp; (try with_reducible rfl)
        try simp only [Act.put, List.setIfInBounds_toArray, List.set_cons_zero, List.set_cons_succ]
        refine AllY.done (by kernel_rfl) ?_
        clear hNE
        cases r
        · by_cases hmk : many ≤ (pre.length : Int) + 1
          · gi_wp2
            refine ⟨HKP1.out _ _, HKP2.out _ _ (by omega), .inr ⟨rfl, by simpa using HN.out, by have := hp.brk; unfold breaksK; simp only [List.length_append, List.length_cons, List.length_nil]; omega⟩⟩
          · gi_wp2
            exact ⟨HKP1.out _ _, HKP2.out _ _ (by omega), by simpa using HN.out, .inr (by simp; omega)⟩
        · have hne := HZN.out (fun e => by have := HR.out; rw [e] at this; simp at this)
          gi_wp2
          exact ⟨HKR1.out _ _, HKR2.out _ _ (by omega), .inl ⟨rfl, hne⟩⟩
      · have k1 : (L.length : Int) ≤ (pre.length : Int) := by omega
        have hne := HAT2.out (.inr fun h => absurd h hlt)
        have HNE := Lib.hid hne
        clear hne hH C hkp1 hkr1 hkp2 hkr2 hab
        gi_wp2_with fail
        refine region_round (by kernel_rfl) (fun _ => trivial) (by kernel_rfl) ?_
        refine AllY.take (i := 0) (v := ?v2x0) (by rw [List.getElem?_toArray]; exact rfl) (by kernel_rfl) (by kernel_rfl) (by kernel_rfl) (Or.inl ⟨by rfl, ?hy2x0⟩) ?_
        case hy2x0 => intro w hSw; subst hSw; go_simp; (try with_reducible rfl)
        try simp only [Act.put, List.setIfInBounds_toArray, List.set_cons_zero, List.set_cons_succ]
        refine AllY.take (i := 1) (v := ?v2x1) (by rw [List.getElem?_toArray]; exact rfl) (by kernel_rfl) (by kernel_rfl) (by kernel_rfl) (Or.inl ⟨by rfl, ?hy2x1⟩) ?_
        case hy2x1 => intro w hSw; subst hSw; go_simp; (try with_reducible rfl)
        try simp only [Act.put, List.setIfInBounds_toArray, List.set_cons_zero, List.set_cons_succ]
        refine AllY.take (i := 2) (v := ?v2x2) (by rw [List.getElem?_toArray]; exact rfl) (by kernel_rfl) (by kernel_rfl) (by kernel_rfl) (Or.inl ⟨by rfl, ?hy2x2⟩) ?_
        case hy2x2 => intro w hSw; subst hSw; go_simp; (try with_reducible rfl)
        try simp only [Act.put, List.setIfInBounds_toArray, List.set_cons_zero, List.set_cons_succ]
        refine AllY.take (i := 3) (v := ?v2x3) (by rw [List.getElem?_toArray]; exact rfl) (by kernel_rfl) (by kernel_rfl) (by kernel_rfl) (Or.inl ⟨by rfl, ?hy2x3⟩) ?_
        case hy2x3 => intro w hSw; subst hSw; go_simp; (try with_reducible rfl)
        try simp only [Act.put, List.setIfInBounds_toArray, List.set_cons_zero, List.set_cons_succ]
        refine AllY.take (i := 4) (v := ?v2x4) (by rw [List.getElem?_toArray]; exact rfl) (by kernel_rfl) (by kernel_rfl) (by kernel_rfl) (Or.inl ⟨by rfl, ?hy2x4⟩) ?_
        case hy2x4 => intro w hSw; subst hSw; go_simp; (try with_reducible rfl)
        try simp only [Act.put, List.setIfInBounds_toArray, List.set_cons_zero, List.set_cons_succ]
        refine AllY.take (i := 5) (v := ?v2x5) (by rw [List.getElem?_toArray]; exact rfl) (by kernel_rfl) (by kernel_rfl) (by kernel_rfl) (Or.inl ⟨by rfl, ?hy2x5⟩) ?_
        case hy2x5 => intro w hSw; subst hSw; go_simp; (try with_reducible rfl)
        try simp only [Act.put, List.setIfInBounds_toArray, List.set_cons_zero, List.set_cons_succ]
        refine AllY.take (i := 6) (v := ?v2x6) (by rw [List.getElem?_toArray]; exact rfl) (by kernel_rfl) (by kernel_rfl) (by kernel_rfl) (Or.inl ⟨by rfl, ?hy2x6⟩) ?_
        case hy2x6 => intro w hSw; subst hSw; go_simp; (try with_reducible rfl)
        try simp only [Act.put, List.setIfInBounds_toArray, List.set_cons_zero, List.set_cons_succ]
        refine AllY.take (i := 7) (v := .bool true) (by rw [List.getElem?_toArray]; exact rfl) (by kernel_rfl) (by kernel_rfl) (by kernel_rfl) (Or.inl ⟨by rfl, ?hy2x7⟩) ?_
        case hy2x7 => intro w hSw; subst hSw; go_simp; (try with_reducible rfl)
        try simp only [Act.put, List.setIfInBounds_toArray, List.set_cons_zero, List.set_cons_succ]
        refine AllY.take (i := 8) (v := .bool true) (by rw [List.getElem?_toArray]; exact rfl) (by kernel_rfl) (by kernel_rfl) (by kernel_rfl) (Or.inl ⟨by rfl, ?hy2x8⟩) ?_
        case hy2x8 => intro w hSw; subst hSw; go_simp; (try with_reducible rfl)
        try simp only [Act.put, List.setIfInBounds_toArray, List.set_cons_zero, List.set_cons_succ]
        refine AllY.take (i := 9) (v := .bool true) (by rw [List.getElem?_toArray]; exact rfl) (by kernel_rfl) (by kernel_rfl) (by kernel_rfl) (Or.inl ⟨by rfl, ?hy2x9⟩) ?_
        case hy2x9 => intro w hSw; subst hSw; go_simp; (try with_reducible rfl)
        try simp only [Act.put, List.setIfInBounds_toArray, List.set_cons_zero, List.set_cons_succ]
        refine AllY.take (i := 10) (v := undef) (by rw [List.getElem?_toArray]; exact rfl) (by kernel_rfl) (by kernel_rfl) (by kernel_rfl) (Or.inr ⟨by rfl, rfl⟩) ?_
        try simp only [Act.put, List.setIfInBounds_toArray, List.set_cons_zero, List.set_cons_succ]
        refine AllY.take (i := 11) (v := undef) (by rw [List.getElem?_toArray]; exact rfl) (by kernel_rfl) (by kernel_rfl) (by kernel_rfl) (Or.inr ⟨by rfl, rfl⟩) ?_
        try simp only [Act.put, List.setIfInBounds_toArray, List.set_cons_zero, List.set_cons_succ]
        refine AllY.take (i := 12) (v := undef) (by rw [List.getElem?_toArray]; exact rfl) (by kernel_rfl) (by kernel_rfl) (by kernel_rfl) (Or.inr ⟨by rfl, rfl⟩) ?_
        try simp only [Act.put, List.setIfInBounds_toArray, List.set_cons_zero, List.set_cons_succ]
        refine AllY.take (i := 13) (v := undef) (by rw [List.getElem?_toArray]; exact rfl) (by kernel_rfl) (by kernel_rfl) (by kernel_rfl) (Or.inr ⟨by rfl, rfl⟩) ?_
        try simp only [Act.put, List.setIfInBounds_toArray, List.set_cons_zero, List.set_cons_succ]
        refine AllY.take (i := 14) (v := undef) (by rw [List.getElem?_toArray]; exact rfl) (by kernel_rfl) (by kernel_rfl) (by kernel_rfl) (Or.inr ⟨by rfl, rfl⟩) ?_
        try simp only [Act.put, List.setIfInBounds_toArray, List.set_cons_zero, List.set_cons_succ]
        refine AllY.take (i := 15) (v := undef) (by rw [List.getElem?_toArray]; exact rfl) (by kernel_rfl) (by kernel_rfl) (by kernel_rfl) (Or.inr ⟨by rfl, rfl⟩) ?_
        try simp only [Act.put, List.setIfInBounds_toArray, List.set_cons_zero, List.set_cons_succ]
        refine AllY.take (i := 16) (v := ?v2x16) (by rw [List.getElem?_toArray]; exact rfl) (by kernel_rfl) (by kernel_rfl) (by kernel_rfl) (Or.inl ⟨by rfl, ?hy2x16⟩) ?_
        case hy2x16 => intro w hSw; subst hSw; go_simp; (try with_reducible rfl)
        try simp only [Act.put, List.setIfInBounds_toArray, List.set_cons_zero, List.set_cons_succ]
        refine AllY.done (by kernel_rfl) ?_
        gi_wp2
        exact ⟨HKR1.out _ _, HKR2.out _ _ (by omega), .inl ⟨rfl, HNE.out⟩⟩
    · have hne := HAT2.out (.inl hx1)
      have HNE := Lib.hid hne
      clear hne hH C hkp1 hkr1 hkp2 hkr2 hab
      gi_wp2_with fail
      refine region_round (by kernel_rfl) (fun _ => trivial) (by kernel_rfl) ?_
      refine AllY.take (i := 0) (v := ?v3x0) (by rw [List.getElem?_toArray]; exact rfl) (by kernel_rfl) (by kernel_rfl) (by kernel_rfl) (Or.inl ⟨by rfl, ?hy3x0⟩) ?_
      case hy3x0 => intro w hSw; subst hSw; go_simp; (try with_reducible rfl)
      try simp only [Act.put, List.setIfInBounds_toArray, List.set_cons_zero, List.set_cons_succ]
      refine AllY.take (i := 1) (v := ?v3x1) (by rw [List.getElem?_toArray]; exact rfl) (by kernel_rfl) (by kernel_rfl) (by kernel_rfl) (Or.inl ⟨by rfl, ?hy3x1⟩) ?_
      case hy3x1 => intro w hSw; subst hSw; go_simp; (try with_reducible rfl)
      try simp only [Act.put, List.setIfInBounds_toArray, List.set_cons_zero, List.set_cons_succ]
      refine AllY.take (i := 2) (v := .bool true) (by rw [List.getElem?_toArray]; exact rfl) (by kernel_rfl) (by kernel_rfl) (by kernel_rfl) (Or.inl ⟨by rfl, ?hy3x2⟩) ?_
      case hy3x2 => intro w hSw; subst hSw; go_simp; (try with_reducible rfl)
      try simp only [Act.put, List.setIfInBounds_toArray, List.set_cons_zero, List.set_cons_succ]
      refine AllY.take (i := 3) (v := .bool true) (by rw [List.getElem?_toArray]; exact rfl) (by kernel_rfl) (by kernel_rfl) (by kernel_rfl) (Or.inl ⟨by rfl, ?hy3x3⟩) ?_
      case hy3x3 => intro w hSw; subst hSw; go_simp; (try with_reducible rfl)
      try simp only [Act.put, List.setIfInBounds_toArray, List.set_cons_zero, List.set_cons_succ]
      refine AllY.take (i := 4) (v := undef) (by rw [List.getElem?_toArray]; exact rfl) (by kernel_rfl) (by kernel_rfl) (by kernel_rfl) (Or.inr ⟨by rfl, rfl⟩) ?_
      try simp only [Act.put, List.setIfInBounds_toArray, List.set_cons_zero, List.set_cons_succ]
      refine AllY.take (i := 5) (v := undef) (by rw [List.getElem?_toArray]; exact rfl) (by kernel_rfl) (by kernel_rfl) (by kernel_rfl) (Or.inr ⟨by rfl, rfl⟩) ?_
      try simp only [Act.put, List.setIfInBounds_toArray, List.set_cons_zero, List.set_cons_succ]
      refine AllY.take (i := 6) (v := undef) (by rw [List.getElem?_toArray]; exact rfl) (by kernel_rfl) (by kernel_rfl) (by kernel_rfl) (Or.inr ⟨by rfl, rfl⟩) ?_
      try simp only [Act.put, List.setIfInBounds_toArray, List.set_cons_zero, List.set_cons_succ]
      refine AllY.take (i := 7) (v := undef) (by rw [List.getElem?_toArray]; exact rfl) (by kernel_rfl) (by kernel_rfl) (by kernel_rfl) (Or.inr ⟨by rfl, rfl⟩) ?_
      try simp only [Act.put, List.setIfInBounds_toArray, List.set_cons_zero, List.set_cons_succ]
      refine AllY.take (i := 8) (v := .bool true) (by rw [List.getElem?_toArray]; exact rfl) (by kernel_rfl) (by kernel_rfl) (by kernel_rfl) (Or.inl ⟨by rfl, ?hy3x8⟩) ?_
      case hy3x8 => intro w hSw; subst hSw; go_simp; (try with_reducible rfl)
      try simp only [Act.put, List.setIfInBounds_toArray, List.set_cons_zero, List.set_cons_succ]
      refine AllY.take (i := 9) (v := .bool true) (by rw [List.getElem?_toArray]; exact rfl) (by kernel_rfl) (by kernel_rfl) (by kernel_rfl) (Or.inl ⟨by rfl, ?hy3x9⟩) ?_
      case hy3x9 => intro w hSw; subst hSw; go_simp; (try with_reducible rfl)
      try simp only [Act.put, List.setIfInBounds_toArray, List.set_cons_zero, List.set_cons_succ]
      refine AllY.take (i := 10) (v := undef) (by rw [List.getElem?_toArray]; exact rfl) (by kernel_rfl) (by kernel_rfl) (by kernel_rfl) (Or.inr ⟨by rfl, rfl⟩) ?_
      try simp only [Act.put, List.setIfInBounds_toArray, List.set_cons_zero, List.set_cons_succ]
      refine AllY.take (i := 11) (v := undef) (by rw [List.getElem?_toArray]; exact rfl) (by kernel_rfl) (by kernel_rfl) (by kernel_rfl) (Or.inr ⟨by rfl, rfl⟩) ?_
      try simp only [Act.put, List.setIfInBounds_toArray, List.set_cons_zero, List.set_cons_succ]
      refine AllY.take (i := 12) (v := undef) (by rw [List.getElem?_toArray]; exact rfl) (by kernel_rfl) (by kernel_rfl) (by kernel_rfl) (Or.inr ⟨by rfl, rfl⟩) ?_
      try simp only [Act.put, List.setIfInBounds_toArray, List.set_cons_zero, List.set_cons_succ]
      refine AllY.take (i := 13) (v := undef) (by rw [List.getElem?_toArray]; exact rfl) (by kernel_rfl) (by kernel_rfl) (by kernel_rfl) (Or.inr ⟨by rfl, rfl⟩) ?_
      try simp only [Act.put, List.setIfInBounds_toArray, List.set_cons_zero, List.set_cons_succ]
      refine AllY.take (i := 14) (v := undef) (by rw [List.getElem?_toArray]; exact rfl) (by kernel_rfl) (by kernel_rfl) (by kernel_rfl) (Or.inr ⟨by rfl, rfl⟩) ?_
      try simp only [Act.put, List.setIfInBounds_toArray, List.set_cons_zero, List.set_cons_succ]
      refine AllY.take (i := 15) (v := undef) (by rw [List.getElem?_toArray]; exact rfl) (by kernel_rfl) (by kernel_rfl) (by kernel_rfl) (Or.inr ⟨by rfl, rfl⟩) ?_
      try simp only [Act.put, List.setIfInBounds_toArray, List.set_cons_zero, List.set_cons_succ]
      refine AllY.take (i := 16) (v := ?v3x16) (by rw [List.getElem?_toArray]; exact rfl) (by kernel_rfl) (by kernel_rfl) (by kernel_rfl) (Or.inl ⟨by rfl, ?hy3x16⟩) ?_
      case hy3x16 => intro w hSw; subst hSw; go_simp; (try with_reducible rfl)
      try simp only [Act.put, List.setIfInBounds_toArray, List.set_cons_zero, List.set_cons_succ]
      refine AllY.done (by kernel_rfl) ?_
      gi_wp2
      exact ⟨HKR1.out _ _, HKR2.out _ _ (by omega), .inl ⟨rfl, HNE.out⟩⟩
  case after =>
    rintro D ys W hD hxs hK
    obtain ⟨j, hj, hH, hjv⟩ : ∃ j : Nat, (j : Int) = min (L.length : Int) (max 1 many) ∧ Hold3 WA (w2.heap.size + 1) j W ∧ j ≤ 30 := by
      rcases hxs with ⟨rfl, hH, hp⟩ | ⟨hpre, hH, hp⟩
      · refine ⟨_, ?_, hH, by omega⟩
        rcases hp with rfl | hp
        · rw [← hL]
          simp
          omega
        · omega
      · refine ⟨_, ?_, hH, by have := hpre.length_le; omega⟩
        have := hpre.length_le
        obtain ⟨h1, h2, h3⟩ := hp
        omega
    clear hxs
    have C := HC.out.mono (hH.2.mono (by omega))
    have c_n := hH.1.cell 0
    have c_w := C.wn.cell 0
    have c_t := (HBT.out.below hH.2 (by omega)).cell 0
    have c_m := C.m.cell 0
    simp only [List.getElem?_toArray, List.getElem?_cons_zero] at c_n c_w c_t c_m
    have HN := Lib.hid hH
    have HCC := Lib.hid C
    have HD := Lib.hid hK
    clear hH C hK
    gi_wp2_with fail
    rw [roundsIn_succ]
    have hsz2 : ∀ (v : Value) (t : TypeId), (W.alloc (.cells #[v] t)).cell? ⟨W.heap.size, 0, none⟩ = some v := fun v t => by simp
    have hsf2 : ∀ (v : Value) (t : TypeId), (W.alloc (.cells #[v] t)).frozen? ⟨W.heap.size, 0, none⟩ = false := fun v t => (Blk.new W t #[v]).frozen 0
    gi_wp2
    have hct2 : Blk ((W.alloc (.cells #[.int .i64 1] 3)).alloc (.cells #[.int .i64 0] 3)) W.heap.size 3 #[.int .i64 1] := (Blk.new W _ _).alloc _
    have hcn2 : Blk ((W.alloc (.cells #[.int .i64 1] 3)).alloc (.cells #[.int .i64 0] 3)) (W.heap.size + 1) 3 #[.int .i64 0] := by
      have := Blk.new (W.alloc (.cells #[.int .i64 1] 3)) 3 #[.int .i64 0]
      simpa using this
    have hcw2 : Below W.heap.size W ((W.alloc (.cells #[.int .i64 1] 3)).alloc (.cells #[.int .i64 0] 3)) := ((Below.refl _ _).alloc (Nat.le_refl _) _).alloc (by simp) _
    have hszB : ((W.alloc (.cells #[.int .i64 1] 3)).alloc (.cells #[.int .i64 0] 3)).heap.size = W.heap.size + 2 := by simp
    have hszW : w2.heap.size + 2 ≤ W.heap.size := by have := HN.out.2.size; omega
    have hDlt : D < W.heap.size := (Array.getElem?_eq_some_iff.1 HD.out).1
    generalize hWB : ((W.alloc (.cells #[.int .i64 1] 3)).alloc (.cells #[.int .i64 0] 3)) = WB at *
    have HC2 := Lib.hid (HCC.out.mono (hcw2.mono (by omega)))
    have HD2 := Lib.hid ((hcw2.block D hDlt).trans HD.out)
    have HT2 := Lib.hid hct2
    clear hWB hsz2 hsf2 hct2 c_n c_w c_t c_m
    refine rangeFuncT_brkA (S := fun ys => ys = E) (Sp := fun pre => pre <+: E) (N := N) (K₀ := fun i => i < w2.heap.size ∧ i ≠ w.heap.size + 1) (w0 := w2) rfl (by omega) (gf := 41) (lb := #[.pointer (some ⟨Br, 0, none⟩), .pointer (some ⟨Bn, 0, none⟩)]) rfl trivial (enters_of Tryd.func41 (by kernel_rfl) rfl)
      HSEQ.out (by omega) HC2.out.b2 (fun _ => rfl)
      (fun pre W' => Hold3 WB (W.heap.size + 1) pre.length W') (fun _ _ => 1 = 2)
      (hold3_own (by omega) (by omega) _) (fun _ _ _ h _ => h)
      ⟨hcn2, Below.refl _ _⟩ (fun x b W => Blk W b 55 (sixE x.2)) (fun x b => blk_ab x b _) ?a₂ ?assign2 ?body2 ?after2
    case assign2 =>
      intro l pre x W' K hI hK
      have hb : Below W'.heap.size W' (W'.alloc (.cells (sixE x.2) 55)) := (Below.refl _ _).alloc (Nat.le_refl _) _
      have hk := hK W'.heap.size _ (keepsFrom_below hb) (Kept2.calls hb) (hI.past hb) (Blk.new W' _ _)
      have HK := Lib.hid hk
      clear hI hK hb hk
      gi_wp2
      generalize W'.heap.size = b at *
      exact HK.out
    case body2 =>
      rintro l pre x b W' hH hab _
      have C := HC2.out.mono (hH.2.mono (by omega))
      have c_n := hH.1.cell 0
      have c_w := C.wn.cell 0
      have c_t := (HT2.out.below hH.2 (by omega)).cell 0
      have c_m := C.m.cell 0
      have hf_n := hH.1.frozen 0
      have hf_r := C.r.frozen 0
      have c_r := C.r.cell 0
      simp only [List.getElem?_toArray, List.getElem?_cons_zero] at c_n c_w c_t c_m c_r
      have hkp1 : ∀ B u, KeepsFrom B W' (W'.setCell ⟨W.heap.size + 1, 0, none⟩ u).drew := fun B u => drew_set1
      have hkr1 : ∀ B u, KeepsFrom B W' (W'.setCell ⟨w.heap.size + 1, 0, none⟩ u).drew := fun B u => drew_set1
      have hkp2 : ∀ E u, W.heap.size + 1 < E → Kept2 (fun i => i < w2.heap.size ∧ i ≠ w.heap.size + 1) E W' (W'.setCell ⟨W.heap.size + 1, 0, none⟩ u).drew := fun E u h => drew_set2 (by omega) h
      have hkr2 : ∀ E u, w.heap.size + 1 < E → Kept2 (fun i => i < w2.heap.size ∧ i ≠ w.heap.size + 1) E W' (W'.setCell ⟨w.heap.size + 1, 0, none⟩ u).drew := fun E u h => drew_set2 (by omega) h
      obtain ⟨n, f, t, a, m, nx, k⟩ := x
      have cb0 := hab.cell 0
      have cb1 := hab.cell 1
      have cb2 := hab.cell 2
      have cb3 := hab.cell 3
      have cb4 := hab.cell 4
      have cb5 := hab.cell 5
      simp only [sixE, List.getElem?_toArray, List.getElem?_cons_zero, List.getElem?_cons_succ] at cb0 cb1 cb2 cb3 cb4 cb5
      have HN := Lib.hid (hH.set.past (below_drew _))
      have HKP1 := Lib.hid hkp1
      have HKR1 := Lib.hid hkr1
      have HKP2 := Lib.hid hkp2
      have HKR2 := Lib.hid hkr2
      have HAT2 := Lib.hid (not_pair hL HAT.out (pre := pre) (n := n) (e := ⟨f, t, a, m, nx, k⟩))
      by_cases hx1 : n = (pre.length : Int)
      · by_cases hlt : pre.length < L.length
        · obtain ⟨g0, rfl, hg, hel⟩ := C.el (by omega)
          have d0 := hel pre.length hlt 0 (by omega)
          have d1 := hel pre.length hlt 1 (by omega)
          have d2 := hel pre.length hlt 2 (by omega)
          have d3 := hel pre.length hlt 3 (by omega)
          have d4 := hel pre.length hlt 4 (by omega)
          have d5 := hel pre.length hlt 5 (by omega)
          have HCC := Lib.hid C
          clear hH hel C hkp1 hkr1 hkp2 hkr2 hab
          have k1 : ¬ (L.length : Int) ≤ (pre.length : Int) := by omega
          have k2 : (pre.length : Int) < (L.length : Int) := by omega
          have hpl : (pre.length : Int) ≤ 30 := by omega
          have hzz : ∀ z, L[pre.length]'hlt = z → z ≠ ((⟨f, t, a, m, nx, k⟩ : Ent)) → ¬ (pre ++ [((n : Int), ((⟨f, t, a, m, nx, k⟩ : Ent)))]) <+: E := fun z hz hne => HAT2.out (.inr fun h => by rw [hz]; exact hne)
          generalize hz : (L[pre.length]'hlt) = z at *
          have hzn := hzz z rfl
          clear hzz
          obtain ⟨f', t', a', m', n', k'⟩ := z
          simp only [sixE, List.getElem?_toArray, List.getElem?_cons_zero, List.getElem?_cons_succ, Nat.mul_comm 6 pre.length, Nat.add_zero] at d0 d1 d2 d3 d4 d5
          obtain ⟨r, hr⟩ : ∃ r, (!decide (((⟨f, t, a, m, nx, k⟩ : Ent)) = (⟨f', t', a', m', n', k'⟩ : Ent))) = r := ⟨_, rfl⟩
          have hNE : ∀ W, (binOp .neq 55 (.agg #[.int .i64 f, .int .i64 t, .int .u32 a, .int .u32 m, .int .u32 nx, .int .u32 k]) (.agg #[.int .i64 f', .int .i64 t', .int .u32 a', .int .u32 m', .int .u32 n', .int .u32 k'])).run Tryd.prog W = .ok (.bool r) W := fun W => by rw [← hr]; exact neEnt_run ⟨f, t, a, m, nx, k⟩ ⟨f', t', a', m', n', k'⟩ W
          have HR := Lib.hid hr
          have HZN := Lib.hid hzn
          clear hr hzn
          gi_wp2_with fail
          refine region_round (by kernel_rfl) (fun _ => trivial) (by kernel_rfl) ?_
          refine AllY.take (i := 0) (v := ?v4x0) (by rw [List.getElem?_toArray]; exact rfl) (by kernel_rfl) (by kernel_rfl) (by kernel_rfl) (Or.inl ⟨by rfl, ?hy4x0⟩) ?_
          case hy4x0 => intro w hSw; subst hSw; go_simp; (try with_reducible rfl)
          try simp only [Act.put, List.setIfInBounds_toArray, List.set_cons_zero, List.set_cons_succ]
          refine AllY.take (i := 1) (v := ?v4x1) (by rw [List.getElem?_toArray]; exact rfl) (by kernel_rfl) (by kernel_rfl) (by kernel_rfl) (Or.inl ⟨by rfl, ?hy4x1⟩) ?_
          case hy4x1 => intro w hSw; subst hSw; go_simp; (try with_reducible rfl)
          try simp only [Act.put, List.setIfInBounds_toArray, List.set_cons_zero, List.set_cons_succ]
          refine AllY.take (i := 2) (v := ?v4x2) (by rw [List.getElem?_toArray]; exact rfl) (by kernel_rfl) (by kernel_rfl) (by kernel_rfl) (Or.inl ⟨by rfl, ?hy4x2⟩) ?_
          case hy4x2 => intro w hSw; subst hSw; go_simp; (try with_reducible rfl)
          try simp only [Act.put, List.setIfInBounds_toArray, List.set_cons_zero, List.set_cons_succ]
          refine AllY.take (i := 3) (v := ?v4x3) (by rw [List.getElem?_toArray]; exact rfl) (by kernel_rfl) (by kernel_rfl) (by kernel_rfl) (Or.inl ⟨by rfl, ?hy4x3⟩) ?_
          case hy4x3 => intro w hSw; subst hSw; go_simp; (try with_reducible rfl)
          try simp only [Act.put, List.setIfInBounds_toArray, List.set_cons_zero, List.set_cons_succ]
          refine AllY.take (i := 4) (v := ?v4x4) (by rw [List.getElem?_toArray]; exact rfl) (by kernel_rfl) (by kernel_rfl) (by kernel_rfl) (Or.inl ⟨by rfl, ?hy4x4⟩) ?_
          case hy4x4 => intro w hSw; subst hSw; go_simp; (try with_reducible rfl)
          try simp only [Act.put, List.setIfInBounds_toArray, List.set_cons_zero, List.set_cons_succ]
          refine AllY.take (i := 5) (v := ?v4x5) (by rw [List.getElem?_toArray]; exact rfl) (by kernel_rfl) (by kernel_rfl) (by kernel_rfl) (Or.inl ⟨by rfl, ?hy4x5⟩) ?_
          case hy4x5 => intro w hSw; subst hSw; go_simp; (try with_reducible rfl)
          try simp only [Act.put, List.setIfInBounds_toArray, List.set_cons_zero, List.set_cons_succ]
          refine AllY.take (i := 6) (v := ?v4x6) (by rw [List.getElem?_toArray]; exact rfl) (by kernel_rfl) (by kernel_rfl) (by kernel_rfl) (Or.inl ⟨by rfl, ?hy4x6⟩) ?_
          case hy4x6 => intro w hSw; subst hSw; go_simp; (try with_reducible rfl)
          try simp only [Act.put, List.setIfInBounds_toArray, List.set_cons_zero, List.set_cons_succ]
          refine AllY.take (i := 7) (v := .bool false) (by rw [List.getElem?_toArray]; exact rfl) (by kernel_rfl) (by kernel_rfl) (by kernel_rfl) (Or.inl ⟨by rfl, ?hy4x7⟩) ?_
          case hy4x7 => intro w hSw; subst hSw; go_simp; (try with_reducible rfl)
          try simp only [Act.put, List.setIfInBounds_toArray, List.set_cons_zero, List.set_cons_succ]
          refine AllY.take (i := 8) (v := ?v4x8) (by rw [List.getElem?_toArray]; exact rfl) (by kernel_rfl) (by kernel_rfl) (by kernel_rfl) (Or.inl ⟨by rfl, ?hy4x8⟩) ?_
          case hy4x8 => intro w hSw; subst hSw; go_simp; (try with_reducible rfl)
          try simp only [Act.put, List.setIfInBounds_toArray, List.set_cons_zero, List.set_cons_succ]
          refine AllY.take (i := 9) (v := ?v4x9) (by rw [List.getElem?_toArray]; exact rfl) (by kernel_rfl) (by kernel_rfl) (by kernel_rfl) (Or.inl ⟨by rfl, ?hy4x9⟩) ?_
          case hy4x9 => intro w hSw; subst hSw; go_simp; (try with_reducible rfl)
          try simp only [Act.put, List.setIfInBounds_toArray, List.set_cons_zero, List.set_cons_succ]
          refine AllY.take (i := 10) (v := ?v4x10) (by rw [List.getElem?_toArray]; exact rfl) (by kernel_rfl) (by kernel_rfl) (by kernel_rfl) (Or.inl ⟨by rfl, ?hy4x10⟩) ?_
          case hy4x10 => intro w hSw; subst hSw; go_simp; (try with_reducible rfl)
          try simp only [Act.put, List.setIfInBounds_toArray, List.set_cons_zero, List.set_cons_succ]
          refine AllY.take (i := 11) (v := ?v4x11) (by rw [List.getElem?_toArray]; exact rfl) (by kernel_rfl) (by kernel_rfl) (by kernel_rfl) (Or.inl ⟨by rfl, ?hy4x11⟩) ?_
          case hy4x11 => intro w hSw; subst hSw; go_simp; (try with_reducible rfl)
          try simp only [Act.put, List.setIfInBounds_toArray, List.set_cons_zero, List.set_cons_succ]
          refine AllY.take (i := 12) (v := ?v4x12) (by rw [List.getElem?_toArray]; exact rfl) (by kernel_rfl) (by kernel_rfl) (by kernel_rfl) (Or.inl ⟨by rfl, ?hy4x12⟩) ?_
          case hy4x12 => intro w hSw; subst hSw; go_simp; (try with_reducible rfl)
          try simp only [Act.put, List.setIfInBounds_toArray, List.set_cons_zero, List.set_cons_succ]
          refine AllY.take (i := 13) (v := ?v4x13) (by rw [List.getElem?_toArray]; exact rfl) (by kernel_rfl) (by kernel_rfl) (by kernel_rfl) (Or.inl ⟨by rfl, ?hy4x13⟩) ?_
          case hy4x13 => intro w hSw; subst hSw; go_simp; (try with_reducible rfl)
          try simp only [Act.put, List.setIfInBounds_toArray, List.set_cons_zero, List.set_cons_succ]
          refine AllY.take (i := 14) (v := ?v4x14) (by rw [List.getElem?_toArray]; exact rfl) (by kernel_rfl) (by kernel_rfl) (by kernel_rfl) (Or.inl ⟨by rfl, ?hy4x14⟩) ?_
          case hy4x14 => intro w hSw; subst hSw; go_simp; (try with_reducible rfl)
          try simp only [Act.put, List.setIfInBounds_toArray, List.set_cons_zero, List.set_cons_succ]
          refine AllY.take (i := 15) (v := ?v4x15) (by rw [List.getElem?_toArray]; exact rfl) (by kernel_rfl) (by kernel_rfl) (by kernel_rfl) (Or.inl ⟨by rfl, ?hy4x15⟩) ?_
          case hy4x15 => intro w hSw; subst hSw; go_simp; (try with_reducible rfl)
          try simp only [Act.put, List.setIfInBounds_toArray, List.set_cons_zero, List.set_cons_succ]
          refine AllY.take (i := 16) (v := ?v4x16) (by rw [List.getElem?_toArray]; exact rfl) (by kernel_rfl) (by kernel_rfl) (by kernel_rfl) (Or.inl ⟨by rfl, ?hy4x16⟩) ?_
          case hy4x16 => intro w hSw; subst hSw; go_simp; (try with_reducible rfl)
          try simp only [Act.put, List.setIfInBounds_toArray, List.set_cons_zero, List.set_cons_succ]
          refine AllY.done (by kernel_rfl) ?_
          clear hNE
          cases r
          · gi_wp2
            exact ⟨HKP1.out _ _, HKP2.out _ _ (by omega), by simpa using HN.out⟩
          · have hne := HZN.out (fun e => by have := HR.out; rw [e] at this; simp at this)
            gi_wp2
            exact ⟨HKR1.out _ _, HKR2.out _ _ (by omega), .inl ⟨rfl, hne⟩⟩
        · have k1 : (L.length : Int) ≤ (pre.length : Int) := by omega
          have hne := HAT2.out (.inr fun h => absurd h hlt)
          have HNE := Lib.hid hne
          clear hne hH C hkp1 hkr1 hkp2 hkr2 hab
          gi_wp2_with fail
          refine region_round (by kernel_rfl) (fun _ => trivial) (by kernel_rfl) ?_
          refine AllY.take (i := 0) (v := ?v5x0) (by rw [List.getElem?_toArray]; exact rfl) (by kernel_rfl) (by kernel_rfl) (by kernel_rfl) (Or.inl ⟨by rfl, ?hy5x0⟩) ?_
          case hy5x0 => intro w hSw; subst hSw; go_simp; (try with_reducible rfl)
          try simp only [Act.put, List.setIfInBounds_toArray, List.set_cons_zero, List.set_cons_succ]
          refine AllY.take (i := 1) (v := ?v5x1) (by rw [List.getElem?_toArray]; exact rfl) (by kernel_rfl) (by kernel_rfl) (by kernel_rfl) (Or.inl ⟨by rfl, ?hy5x1⟩) ?_
          case hy5x1 => intro w hSw; subst hSw; go_simp; (try with_reducible rfl)
          try simp only [Act.put, List.setIfInBounds_toArray, List.set_cons_zero, List.set_cons_succ]
          refine AllY.take (i := 2) (v := ?v5x2) (by rw [List.getElem?_toArray]; exact rfl) (by kernel_rfl) (by kernel_rfl) (by kernel_rfl) (Or.inl ⟨by rfl, ?hy5x2⟩) ?_
          case hy5x2 => intro w hSw; subst hSw; go_simp; (try with_reducible rfl)
          try simp only [Act.put, List.setIfInBounds_toArray, List.set_cons_zero, List.set_cons_succ]
          refine AllY.take (i := 3) (v := ?v5x3) (by rw [List.getElem?_toArray]; exact rfl) (by kernel_rfl) (by kernel_rfl) (by kernel_rfl) (Or.inl ⟨by rfl, ?hy5x3⟩) ?_
          case hy5x3 => intro w hSw; subst hSw; go_simp; (try with_reducible rfl)
          try simp only [Act.put, List.setIfInBounds_toArray, List.set_cons_zero, List.set_cons_succ]
          refine AllY.take (i := 4) (v := ?v5x4) (by rw [List.getElem?_toArray]; exact rfl) (by kernel_rfl) (by kernel_rfl) (by kernel_rfl) (Or.inl ⟨by rfl, ?hy5x4⟩) ?_
          case hy5x4 => intro w hSw; subst hSw; go_simp; (try with_reducible rfl)
          try simp only [Act.put, List.setIfInBounds_toArray, List.set_cons_zero, List.set_cons_succ]
          refine AllY.take (i := 5) (v := ?v5x5) (by rw [List.getElem?_toArray]; exact rfl) (by kernel_rfl) (by kernel_rfl) (by kernel_rfl) (Or.inl ⟨by rfl, ?hy5x5⟩) ?_
          case hy5x5 => intro w hSw; subst hSw; go_simp; (try with_reducible rfl)
          try simp only [Act.put, List.setIfInBounds_toArray, List.set_cons_zero, List.set_cons_succ]
          refine AllY.take (i := 6) (v := ?v5x6) (by rw [List.getElem?_toArray]; exact rfl) (by kernel_rfl) (by kernel_rfl) (by kernel_rfl) (Or.inl ⟨by rfl, ?hy5x6⟩) ?_
          case hy5x6 => intro w hSw; subst hSw; go_simp; (try with_reducible rfl)
          try simp only [Act.put, List.setIfInBounds_toArray, List.set_cons_zero, List.set_cons_succ]
          refine AllY.take (i := 7) (v := .bool true) (by rw [List.getElem?_toArray]; exact rfl) (by kernel_rfl) (by kernel_rfl) (by kernel_rfl) (Or.inl ⟨by rfl, ?hy5x7⟩) ?_
          case hy5x7 => intro w hSw; subst hSw; go_simp; (try with_reducible rfl)
          try simp only [Act.put, List.setIfInBounds_toArray, List.set_cons_zero, List.set_cons_succ]
          refine AllY.take (i := 8) (v := .bool true) (by rw [List.getElem?_toArray]; exact rfl) (by kernel_rfl) (by kernel_rfl) (by kernel_rfl) (Or.inl ⟨by rfl, ?hy5x8⟩) ?_
          case hy5x8 => intro w hSw; subst hSw; go_simp; (try with_reducible rfl)
          try simp only [Act.put, List.setIfInBounds_toArray, List.set_cons_zero, List.set_cons_succ]
          refine AllY.take (i := 9) (v := .bool true) (by rw [List.getElem?_toArray]; exact rfl) (by kernel_rfl) (by kernel_rfl) (by kernel_rfl) (Or.inl ⟨by rfl, ?hy5x9⟩) ?_
          case hy5x9 => intro w hSw; subst hSw; go_simp; (try with_reducible rfl)
          try simp only [Act.put, List.setIfInBounds_toArray, List.set_cons_zero, List.set_cons_succ]
          refine AllY.take (i := 10) (v := undef) (by rw [List.getElem?_toArray]; exact rfl) (by kernel_rfl) (by kernel_rfl) (by kernel_rfl) (Or.inr ⟨by rfl, rfl⟩) ?_
          try simp only [Act.put, List.setIfInBounds_toArray, List.set_cons_zero, List.set_cons_succ]
          refine AllY.take (i := 11) (v := undef) (by rw [List.getElem?_toArray]; exact rfl) (by kernel_rfl) (by kernel_rfl) (by kernel_rfl) (Or.inr ⟨by rfl, rfl⟩) ?_
          try simp only [Act.put, List.setIfInBounds_toArray, List.set_cons_zero, List.set_cons_succ]
          refine AllY.take (i := 12) (v := undef) (by rw [List.getElem?_toArray]; exact rfl) (by kernel_rfl) (by kernel_rfl) (by kernel_rfl) (Or.inr ⟨by rfl, rfl⟩) ?_
          try simp only [Act.put, List.setIfInBounds_toArray, List.set_cons_zero, List.set_cons_succ]
          refine AllY.take (i := 13) (v := undef) (by rw [List.getElem?_toArray]; exact rfl) (by kernel_rfl) (by kernel_rfl) (by kernel_rfl) (Or.inr ⟨by rfl, rfl⟩) ?_
          try simp only [Act.put, List.setIfInBounds_toArray, List.set_cons_zero, List.set_cons_succ]
          refine AllY.take (i := 14) (v := undef) (by rw [List.getElem?_toArray]; exact rfl) (by kernel_rfl) (by kernel_rfl) (by kernel_rfl) (Or.inr ⟨by rfl, rfl⟩) ?_
          try simp only [Act.put, List.setIfInBounds_toArray, List.set_cons_zero, List.set_cons_succ]
          refine AllY.take (i := 15) (v := undef) (by rw [List.getElem?_toArray]; exact rfl) (by kernel_rfl) (by kernel_rfl) (by kernel_rfl) (Or.inr ⟨by rfl, rfl⟩) ?_
          try simp only [Act.put, List.setIfInBounds_toArray, List.set_cons_zero, List.set_cons_succ]
          refine AllY.take (i := 16) (v := ?v5x16) (by rw [List.getElem?_toArray]; exact rfl) (by kernel_rfl) (by kernel_rfl) (by kernel_rfl) (Or.inl ⟨by rfl, ?hy5x16⟩) ?_
          case hy5x16 => intro w hSw; subst hSw; go_simp; (try with_reducible rfl)
          try simp only [Act.put, List.setIfInBounds_toArray, List.set_cons_zero, List.set_cons_succ]
          refine AllY.done (by kernel_rfl) ?_
          gi_wp2
          exact ⟨HKR1.out _ _, HKR2.out _ _ (by omega), .inl ⟨rfl, HNE.out⟩⟩
      · have hne := HAT2.out (.inl hx1)
        have HNE := Lib.hid hne
        clear hne hH C hkp1 hkr1 hkp2 hkr2 hab
        gi_wp2_with fail
        refine region_round (by kernel_rfl) (fun _ => trivial) (by kernel_rfl) ?_
        refine AllY.take (i := 0) (v := ?v6x0) (by rw [List.getElem?_toArray]; exact rfl) (by kernel_rfl) (by kernel_rfl) (by kernel_rfl) (Or.inl ⟨by rfl, ?hy6x0⟩) ?_
        case hy6x0 => intro w hSw; subst hSw; go_simp; (try with_reducible rfl)
        try simp only [Act.put, List.setIfInBounds_toArray, List.set_cons_zero, List.set_cons_succ]
        refine AllY.take (i := 1) (v := ?v6x1) (by rw [List.getElem?_toArray]; exact rfl) (by kernel_rfl) (by kernel_rfl) (by kernel_rfl) (Or.inl ⟨by rfl, ?hy6x1⟩) ?_
        case hy6x1 => intro w hSw; subst hSw; go_simp; (try with_reducible rfl)
        try simp only [Act.put, List.setIfInBounds_toArray, List.set_cons_zero, List.set_cons_succ]
        refine AllY.take (i := 2) (v := .bool true) (by rw [List.getElem?_toArray]; exact rfl) (by kernel_rfl) (by kernel_rfl) (by kernel_rfl) (Or.inl ⟨by rfl, ?hy6x2⟩) ?_
        case hy6x2 => intro w hSw; subst hSw; go_simp; (try with_reducible rfl)
        try simp only [Act.put, List.setIfInBounds_toArray, List.set_cons_zero, List.set_cons_succ]
        refine AllY.take (i := 3) (v := .bool true) (by rw [List.getElem?_toArray]; exact rfl) (by kernel_rfl) (by kernel_rfl) (by kernel_rfl) (Or.inl ⟨by rfl, ?hy6x3⟩) ?_
        case hy6x3 => intro w hSw; subst hSw; go_simp; (try with_reducible rfl)
        try simp only [Act.put, List.setIfInBounds_toArray, List.set_cons_zero, List.set_cons_succ]
        refine AllY.take (i := 4) (v := undef) (by rw [List.getElem?_toArray]; exact rfl) (by kernel_rfl) (by kernel_rfl) (by kernel_rfl) (Or.inr ⟨by rfl, rfl⟩) ?_
        try simp only [Act.put, List.setIfInBounds_toArray, List.set_cons_zero, List.set_cons_succ]
        refine AllY.take (i := 5) (v := undef) (by rw [List.getElem?_toArray]; exact rfl) (by kernel_rfl) (by kernel_rfl) (by kernel_rfl) (Or.inr ⟨by rfl, rfl⟩) ?_
        try simp only [Act.put, List.setIfInBounds_toArray, List.set_cons_zero, List.set_cons_succ]
        refine AllY.take (i := 6) (v := undef) (by rw [List.getElem?_toArray]; exact rfl) (by kernel_rfl) (by kernel_rfl) (by kernel_rfl) (Or.inr ⟨by rfl, rfl⟩) ?_
        try simp only [Act.put, List.setIfInBounds_toArray, List.set_cons_zero, List.set_cons_succ]
        refine AllY.take (i := 7) (v := undef) (by rw [List.getElem?_toArray]; exact rfl) (by kernel_rfl) (by kernel_rfl) (by kernel_rfl) (Or.inr ⟨by rfl, rfl⟩) ?_
        try simp only [Act.put, List.setIfInBounds_toArray, List.set_cons_zero, List.set_cons_succ]
        refine AllY.take (i := 8) (v := .bool true) (by rw [List.getElem?_toArray]; exact rfl) (by kernel_rfl) (by kernel_rfl) (by kernel_rfl) (Or.inl ⟨by rfl, ?hy6x8⟩) ?_
        case hy6x8 => intro w hSw; subst hSw; go_simp; (try with_reducible rfl)
        try simp only [Act.put, List.setIfInBounds_toArray, List.set_cons_zero, List.set_cons_succ]
        refine AllY.take (i := 9) (v := .bool true) (by rw [List.getElem?_toArray]; exact rfl) (by kernel_rfl) (by kernel_rfl) (by kernel_rfl) (Or.inl ⟨by rfl, ?hy6x9⟩) ?_
        case hy6x9 => intro w hSw; subst hSw; go_simp; (try with_reducible rfl)
        try simp only [Act.put, List.setIfInBounds_toArray, List.set_cons_zero, List.set_cons_succ]
        refine AllY.take (i := 10) (v := undef) (by rw [List.getElem?_toArray]; exact rfl) (by kernel_rfl) (by kernel_rfl) (by kernel_rfl) (Or.inr ⟨by rfl, rfl⟩) ?_
        try simp only [Act.put, List.setIfInBounds_toArray, List.set_cons_zero, List.set_cons_succ]
        refine AllY.take (i := 11) (v := undef) (by rw [List.getElem?_toArray]; exact rfl) (by kernel_rfl) (by kernel_rfl) (by kernel_rfl) (Or.inr ⟨by rfl, rfl⟩) ?_
        try simp only [Act.put, List.setIfInBounds_toArray, List.set_cons_zero, List.set_cons_succ]
        refine AllY.take (i := 12) (v := undef) (by rw [List.getElem?_toArray]; exact rfl) (by kernel_rfl) (by kernel_rfl) (by kernel_rfl) (Or.inr ⟨by rfl, rfl⟩) ?_
        try simp only [Act.put, List.setIfInBounds_toArray, List.set_cons_zero, List.set_cons_succ]
        refine AllY.take (i := 13) (v := undef) (by rw [List.getElem?_toArray]; exact rfl) (by kernel_rfl) (by kernel_rfl) (by kernel_rfl) (Or.inr ⟨by rfl, rfl⟩) ?_
        try simp only [Act.put, List.setIfInBounds_toArray, List.set_cons_zero, List.set_cons_succ]
        refine AllY.take (i := 14) (v := undef) (by rw [List.getElem?_toArray]; exact rfl) (by kernel_rfl) (by kernel_rfl) (by kernel_rfl) (Or.inr ⟨by rfl, rfl⟩) ?_
        try simp only [Act.put, List.setIfInBounds_toArray, List.set_cons_zero, List.set_cons_succ]
        refine AllY.take (i := 15) (v := undef) (by rw [List.getElem?_toArray]; exact rfl) (by kernel_rfl) (by kernel_rfl) (by kernel_rfl) (Or.inr ⟨by rfl, rfl⟩) ?_
        try simp only [Act.put, List.setIfInBounds_toArray, List.set_cons_zero, List.set_cons_succ]
        refine AllY.take (i := 16) (v := ?v6x16) (by rw [List.getElem?_toArray]; exact rfl) (by kernel_rfl) (by kernel_rfl) (by kernel_rfl) (Or.inl ⟨by rfl, ?hy6x16⟩) ?_
        case hy6x16 => intro w hSw; subst hSw; go_simp; (try with_reducible rfl)
        try simp only [Act.put, List.setIfInBounds_toArray, List.set_cons_zero, List.set_cons_succ]
        refine AllY.done (by kernel_rfl) ?_
        gi_wp2
        exact ⟨HKR1.out _ _, HKR2.out _ _ (by omega), .inl ⟨rfl, HNE.out⟩⟩
    case after2 =>
      rintro D2 xs2 W2 hD2 (⟨rfl, hH⟩ | ⟨_, hH⟩) hK
      · rw [hL] at hH
        have C := HC2.out.mono (hH.2.mono (by omega))
        have c_n := hH.1.cell 0
        have c_w := C.wn.cell 0
        have c_t := (HT2.out.below hH.2 (by omega)).cell 0
        have c_m := C.m.cell 0
        simp only [List.getElem?_toArray, List.getElem?_cons_zero] at c_n c_w c_t c_m
        have HN2 := Lib.hid hH
        have HCC2 := Lib.hid C
        have HDa := Lib.hid ((hH.2.block D (by omega)).trans HD2.out)
        have HDb := Lib.hid hK
        clear hH C hK
        have hDlt2 : D2 < W2.heap.size := (Array.getElem?_eq_some_iff.1 HDb.out).1
        have hszW2 : W.heap.size < W2.heap.size := by have := HN2.out.2.size; omega
        have hct3 : (W2.alloc (.cells #[.int .i64 2] 3)).cell? ⟨W2.heap.size, 0, none⟩ = some (.int .i64 2) := by simp
        gi_wp2_with fail
        rw [roundsIn_succ]
        gi_wp2_with fail
        have hwa : Below W2.heap.size W2 (W2.alloc (.cells #[.int .i64 2] 3)) := (Below.refl _ _).alloc (Nat.le_refl _) _
        have HC3 := Lib.hid (HCC2.out.mono (hwa.mono (by omega)))
        refine ⟨trivial, ?_⟩
        refine (callsIn_wide.2 (yes5 _ (HF.out.below (HBW2.out.trans (HC3.out.b2.mono HBW2.out.size))))).mono ?_
        rintro e w4 ⟨rfl, hb⟩
        have hb2 : Below W2.heap.size W2 w4 := hwa.trans (hb.mono (by simp))
        have HC4 := Lib.hid (HCC2.out.mono (hb2.mono (by omega)))
        have c_r := HC4.out.r.cell 0
        have hf_r := HC4.out.r.frozen 0
        simp only [List.getElem?_toArray, List.getElem?_cons_zero] at c_r
        have HD4 := Lib.hid ((hb2.block D2 hDlt2).trans HDb.out)
        have HD5 := Lib.hid ((hb2.block D (by omega)).trans HDa.out)
        clear hb hb2 hwa hct3
        gi_wp2_with fail
        have hz4 := HC4.out.z
        have hr4 : Blk (w4.setCell ⟨w.heap.size + 1, 0, none⟩ (.bool true)) (w.heap.size + 1) 4 #[.bool true] := by
          have := HC4.out.r.set_ 0 (.bool true)
          simpa using this
        have hb4 : Below w.heap.size w (w4.setCell ⟨w.heap.size + 1, 0, none⟩ (.bool true)) := (HBW2.out.trans (HC4.out.b2.mono HBW2.out.size)).setCell (p := ⟨w.heap.size + 1, 0, none⟩) (by simp) _
        have hk4 := (Below.heap_setCell w4 ⟨w.heap.size + 1, 0, none⟩ (.bool true) D2 (by simp only; omega)).trans HD4.out
        have hk5 := (Below.heap_setCell w4 ⟨w.heap.size + 1, 0, none⟩ (.bool true) D (by simp only; omega)).trans HD5.out
        generalize (w4.setCell ⟨w.heap.size + 1, 0, none⟩ (.bool true)) = w5 at *
        refine ⟨by simp, .inl ⟨_, _, rfl, run_takeDeferred hk4, ?_⟩⟩
        have hg1 := grownBy_putObj' w5 D2 (.deferred none)
        have hk6 := (hg1.block D (Array.getElem?_eq_some_iff.1 hk5).1 (by simp; omega)).trans hk5
        refine ⟨by simp, .inl ⟨_, _, rfl, run_takeDeferred hk6, ?_⟩⟩
        have hg2 := grownBy_putObj' (w5.putObj D2 (.deferred none)) D (.deferred none)
        have hr6 := (hr4.grown hg1 (by simp; omega)).grown hg2 (by simp; omega)
        have hb6 : Below w.heap.size w ((w5.putObj D2 (.deferred none)).putObj D (.deferred none)) := (hb4.grown hg1 hb4.size (fun k e => by cases e; omega)).grown hg2 (by have := hg1.size; have := hb4.size; omega) (fun k e => by cases e; omega)
        have c_r6 := hr6.cell 0
        simp only [List.getElem?_toArray, List.getElem?_cons_zero] at c_r6
        refine ⟨.bool true, ?_, rfl, hb6⟩
        simp [results, Tryd.f6, go_sem, c_r6]
      · exact absurd hH (by decide)

set_option maxRecDepth 100000 in
set_option maxHeartbeats 1600000 in
theorem law05_each (many : Int) (p : Option Addr) (c : Nat) (xs : List Int) (b1 : IsBytes xs) (hcx : xs.length ≤ c) (w : World) (x1 : ByS w p xs) (hF : Fit3 w) :
    Calls Tryd.prog 6 #[.slice p xs.length c, .int .i64 many] w fun e w' => e = .returned (.bool true) ∧ Below w.heap.size w w' := by
  by_cases hs : xs.length ≤ 600
  · exact callsIn_wide.1 (law05_each_small many p c xs b1 hs hcx w x1 hF)
  · have hbig : 600 < (xs.length : Int) := by omega
    have HF := Lib.hid hF
    clear hF x1 b1
    go_enter Tryd.func6, Tryd.ntmps6
    go_wp2_with fail
    have hba : Below w.heap.size w ((w.alloc (.cells #[.int .i64 many] 3)).alloc (.cells #[.bool false] 4)) := ((Below.refl _ _).alloc (Nat.le_refl _) _).alloc (by simp) _
    refine (yes5 _ (HF.out.below hba)).mono ?_
    rintro e w4 ⟨rfl, hb⟩
    have hb4 : Below w.heap.size w w4 := hba.trans (hb.mono hba.size)
    have br : Blk w4 (w.heap.size + 1) 4 #[.bool false] := by
      have := (Blk.new (w.alloc (.cells #[.int .i64 many] 3)) 4 #[.bool false]).below hb (by simp)
      simpa using this
    have c_r := br.cell 0
    have hf_r := br.frozen 0
    simp only [List.getElem?_toArray, List.getElem?_cons_zero] at c_r
    have c_r2 := (br.set_ 0 (.bool true)).cell 0
    have HB4 := Lib.hid hb4
    clear hba hb hb4 br
    go_wp2
    simp at c_r2
    refine ⟨rfl, .bool true, ?_, rfl, HB4.out.setCell (p := ⟨w.heap.size + 1, 0, none⟩) (by simp) _⟩
    simp [results, Tryd.f6, go_sem, c_r2]
end Go.Proofs.YtehhablobfaplaaDoor
