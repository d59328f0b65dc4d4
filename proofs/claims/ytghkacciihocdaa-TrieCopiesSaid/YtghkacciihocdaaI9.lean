/- Layer 6's program: Get, Find. -/
import Derived.Test.YtghkacciihocdaaI8
namespace Go.Proofs.Ytghkacciihocdaa
open Go Go.RowKit Go.Shelf Go.Sort
attribute [local go_sem] Oper.semAt_some
attribute [local irreducible] wpQuiet
namespace T6

/-- A block has one type. -/
theorem blk_type {w : World} {g : Nat} {t t' : TypeId} {cs cs' : Array Value} (h : Blk w g t cs) (h' : Blk w g t' cs') : t = t' := by
  unfold Blk at h h'
  rw [h] at h'
  injection h' with e
  injection e
/-- What stands on the way. -/
theorem way_mem {w : World} {t : Tr} {p : Key} (h : Lies w t) (hw : t.WF) : ∀ s ∈ t.way p, ∃ b k v l r, s = .node b k true v l r ∧ Blk w b 81 (cellsN k true v l r) ∧ k.length ≤ 32 ∧ k <+: p := by
  induction t with
  | nil => intro s hs; simp [Tr.way] at hs
  | node b k hh v l r ihl ihr =>
    intro s hs
    obtain ⟨h1, h2, h3⟩ := h
    by_cases hk : k <+: p
    · rw [way_node _ _ _ _ _ _ _ hk] at hs
      rcases List.mem_append.1 hs with hs | hs
      · cases hh
        · simp at hs
        · simp at hs; subst hs; exact ⟨b, k, v, l, r, rfl, h1, hw.1, hk⟩
      · unfold wayBack at hs
        split at hs
        · simp at hs
        · split at hs
          · exact ihr h3 hw.2.2.1 s hs
          · exact ihl h2 hw.2.1 s hs
    · rw [way_none _ _ _ _ _ _ _ hk] at hs; simp at hs
def keyT : Tr → Key
  | .nil => []
  | .node _ k _ _ _ _ => k
def valT : Tr → Int
  | .nil => 0
  | .node _ _ _ v _ _ => v
/-- The first node of just that prefix. -/
def hitT (l : List Tr) (p : Key) : Option Int := (l.find? (fun s => decide (keyT s = p))).map valT
theorem hit_at {l : List Tr} {p : Key} {i : Nat} (hi : i < l.length) (h : ∀ j (hj : j < l.length), j < i → keyT (l[j]'hj) ≠ p) (he : keyT (l[i]'hi) = p) : hitT l p = some (valT (l[i]'hi)) := by
  unfold hitT
  have : l.find? (fun s => decide (keyT s = p)) = some (l[i]'hi) := by
    rw [List.find?_eq_some_iff_getElem]
    exact ⟨by simpa using he, i, hi, rfl, fun j hj => by simpa using h j (by omega) hj⟩
  rw [this]; rfl
theorem hit_none {l : List Tr} {p : Key} (h : ∀ j (hj : j < l.length), keyT (l[j]'hj) ≠ p) : hitT l p = none := by
  unfold hitT
  have : l.find? (fun s => decide (keyT s = p)) = none := by
    rw [List.find?_eq_none]
    intro x hx
    obtain ⟨j, hj, rfl⟩ := List.getElem_of_mem hx
    simpa using h j hj
  rw [this]; rfl
def valO (o : Option Int) : Int := o.getD 0
theorem ptrs_at {l : List Tr} {i : Nat} (h : i < l.length) : (ptrs l)[i]'(by simpa [ptrs] using h) = .pointer (ptr (l[i]'h)) := by simp [ptrs]

set_option maxRecDepth 100000 in
set_option maxHeartbeats 3200000 in
theorem get_any (t : Tr) (p : Key) (hp : p.length ≤ 32) (w : World) (g : Nat) (hT : Trie w g t) :
    Calls Try.prog 12 #[.pointer (some ⟨g, 0, none⟩), pfx (kx p) (kn p)] w fun e w' => e = .returned (.tuple #[.int .i64 (valO (hitT (t.way p) p)), .bool (hitT (t.way p) p).isSome]) ∧ Below w.heap.size w w' := by
  have hb0 := box_below w (.cells #[.int .u32 (kx p), .int .i64 (kn p)] 34)
  have hpb := Blk.new w 34 #[.int .u32 (kx p), .int .i64 (kn p)]
  have HT := Lib.hid (hT.below hb0)
  have HB0 := Lib.hid hb0
  have HPB := Lib.hid hpb
  have d0 := hpb.cell 0
  have d1 := hpb.cell 1
  simp only [List.getElem?_toArray, List.getElem?_cons_zero, List.getElem?_cons_succ] at d0 d1
  have hway := fun W (hW : Lies W t) => way_mem (p := p) hW hT.wf
  have HW := Lib.hid hway
  have hlen : (t.way p).length ≤ 33 := by have := way_len t p hT.wf; have := depth_most hT.wf; omega
  have HA := Lib.hid (fun W hW => above_any t p hp W g hW)
  clear hT hb0 hpb hway
  generalize t.way p = L at *
  go_enter Try.func12, Try.ntmps12
  go_wp2_with fail
  generalize (w.alloc (.cells #[.int .u32 (kx p), .int .i64 (kn p)] 34)) = W0 at *
  refine (HA.out _ HT.out).mono ?_
  rintro e w1 ⟨⟨A, c, rfl, hL⟩, hb1⟩
  have hT1 := HT.out.below hb1
  have HB1 := Lib.hid (HB0.out.trans (hb1.mono HB0.out.size))
  have HPB1 := Lib.hid (HPB.out.below hb1 HPB.out.lt)
  have HE := Lib.hid (HW.out w1 hT1.lies)
  have HL := Lib.hid hL
  clear hT1 hb1 hL HPB HB0 HT HW HA d0 d1
  go_wp2_with fail
  go_loopw [12] (fun i wr => ∃ k : Nat, k ≤ L.length ∧ i = .int .i64 k ∧ Hid (∀ j (hj : j < L.length), j < k → keyT (L[j]'hj) ≠ p) ∧ Hid (Below w1.heap.size w1 wr)) (fun i _ => L.length - (intOf i).toNat)
  case atStart => exact ⟨0, by omega, rfl, Lib.hid (fun j _ h => by omega), Lib.hid (Below.refl _ _)⟩
  case round =>
    obtain ⟨k, hk, rfl, HN, HBr⟩ := hrel
    by_cases hlt : k < L.length
    · obtain ⟨bn, kk, v, l, r, hs, hbn, hkk, hkp⟩ := HE.out _ (List.getElem_mem hlt)
      obtain ⟨b, o, rfl, hlb, hc⟩ := HL.out (by simp [ptrs]; omega)
      have hck := (HBr.out.cell (p := ⟨b, o + k, none⟩) hlb).trans (hc k (by simpa [ptrs] using hlt))
      rw [ptrs_at hlt, hs] at hck
      simp only [ptr] at hck
      have hbr := hbn.below HBr.out hbn.lt
      obtain ⟨c0, c1, _, c3, _⟩ := cellN hbr
      have hpr := HPB1.out.below HBr.out HPB1.out.lt
      have d0 := hpr.cell 0
      have d1 := hpr.cell 1
      simp only [List.getElem?_toArray, List.getElem?_cons_zero, List.getElem?_cons_succ] at d0 d1
      have hlti : (k : Int) < (L.length : Int) := by omega
      have heq := fun W => eqPfx_run (kx kk) (kn kk) (kx p) (kn p) W
      rw [kp_eq hkk hp] at heq
      by_cases heq2 : kk = p
      · have hit := hit_at hlt HN.out (by rw [hs]; exact heq2)
        rw [hs] at hit
        have HH := Lib.hid hit
        rw [decide_eq_true heq2] at heq
        clear hit heq2
        clear hbn hc hbr hpr
        go_wp2_with fail
        have k00 := cell_regrown c0
        have k01 := cell_regrown c1
        have k10 := cell_regrown d0
        have k11 := cell_regrown d1
        have k30 := cell_regrown c3
        refine wp_region_quiet_below (by kernel_rfl) (by kernel_rfl) ?_
        repeat (quiet_step (fail))
        refine wpQuiet_nil ?_
        intro w3 hw3
        obtain ⟨⟨dq, osq⟩, rfl⟩ := hw3
        have HB3 := Lib.hid (HBr.out.trans ((below_regrown wr dq osq).mono HBr.out.size))
        have c3' : (grow (redrawn wr dq) osq).cell? ⟨bn, 3, none⟩ = some (.int .i64 v) := by simpa using cell_regrown c3 dq osq
        generalize grow (redrawn wr dq) osq = w3 at *
        clear k00 k01 k10 k11 k30 c0 c1 d0 d1 c3 hck heq
        go_wp2_with fail
        go_ret2
        exact ⟨by rw [HH.out]; rfl, HB1.out.trans (HB3.out.mono HB1.out.size)⟩
      · rw [decide_eq_false heq2] at heq
        have hnx : ∀ j (hj : j < L.length), j < k + 1 → keyT (L[j]'hj) ≠ p := fun j hj hjk => by
          rcases Nat.lt_or_ge j k with h | h
          · exact HN.out j hj h
          · obtain rfl : j = k := by omega
            rw [hs]; exact heq2
        have HNX := Lib.hid hnx
        clear hnx heq2
        clear hbn hc hbr hpr
        go_wp2_with fail
        have k00 := cell_regrown c0
        have k01 := cell_regrown c1
        have k10 := cell_regrown d0
        have k11 := cell_regrown d1
        have k30 := cell_regrown c3
        refine wp_region_quiet_below (by kernel_rfl) (by kernel_rfl) ?_
        repeat (quiet_step (fail))
        refine wpQuiet_nil ?_
        intro w3 hw3
        obtain ⟨⟨dq, osq⟩, rfl⟩ := hw3
        have HB3 := Lib.hid (HBr.out.trans ((below_regrown wr dq osq).mono HBr.out.size))
        have c3' : (grow (redrawn wr dq) osq).cell? ⟨bn, 3, none⟩ = some (.int .i64 v) := by simpa using cell_regrown c3 dq osq
        generalize grow (redrawn wr dq) osq = w3 at *
        clear k00 k01 k10 k11 k30 c0 c1 d0 d1 c3 hck heq
        clear c3'
        go_wp2_with fail
        go_roundw
        case rel => exact ⟨k + 1, by omega, by go_num, HNX, HB3⟩
        case measure => simp [intOf]; omega
    · have hk2 : k = L.length := by omega
      have hno := hit_none (fun j hj => HN.out j hj (by omega))
      have HH := Lib.hid hno
      have hnl : ¬ ((k : Int) < (L.length : Int)) := by omega
      clear hno
      go_wp2_with fail
      go_ret2
      exact ⟨by rw [HH.out]; rfl, HB1.out.trans (HBr.out.mono HB1.out.size)⟩
theorem getNo_any (q : Option Addr) (x n : Int) (x0 : 0 ≤ x) (x1 : x < 4294967296) (w : World) (hno : NoWay q x n w) :
    Calls Try.prog 12 #[.pointer q, pfx x n] w fun e w' => e = .returned (.tuple #[.int .i64 0, .bool false]) ∧ Below w.heap.size w w' := by
  have hb0 := box_below w (.cells #[.int .u32 x, .int .i64 n] 34)
  have hpb := Blk.new w 34 #[.int .u32 x, .int .i64 n]
  have HT := Lib.hid (hno.below hb0)
  have HB0 := Lib.hid hb0
  have d0 := hpb.cell 0
  have d1 := hpb.cell 1
  simp only [List.getElem?_toArray, List.getElem?_cons_zero, List.getElem?_cons_succ] at d0 d1
  clear hb0 hpb hno
  go_enter Try.func12, Try.ntmps12
  go_wp2_with fail
  generalize (w.alloc (.cells #[.int .u32 x, .int .i64 n] 34)) = W0 at *
  refine (aboveNo_any q x n x0 x1 _ HT.out).mono ?_
  rintro e w1 ⟨rfl, hb1⟩
  have HB1 := Lib.hid (HB0.out.trans (hb1.mono HB0.out.size))
  clear hb1 HT HB0 d0 d1
  go_wp2_with fail
  refine wp_loop_rounds 1 ?_
  rw [rounds_succ]
  go_wp2_with fail
  go_ret2
  exact ⟨rfl, HB1.out⟩
/-- What is told last. -/
def lastV (l : List Tr) : (Int × Int) × Int × Bool := match l.getLast? with
  | none => ((0, 0), 0, false)
  | some s => ((kx (keyT s), kn (keyT s)), valT s, true)
theorem lastV_next {l : List Tr} {k : Nat} (h : k < l.length) : lastV (l.take (k + 1)) = ((kx (keyT (l[k]'h)), kn (keyT (l[k]'h))), valT (l[k]'h), true) := by
  unfold lastV
  rw [List.take_succ_eq_append_getElem h, List.getLast?_append]
  simp
set_option maxRecDepth 100000 in
set_option maxHeartbeats 3200000 in
theorem find_any (t : Tr) (p : Key) (hp : p.length = 32) (w : World) (g : Nat) (hT : Trie w g t) :
    Calls Try.prog 16 #[.pointer (some ⟨g, 0, none⟩), .int .u32 (kx p)] w fun e w' => e = .returned (.tuple #[pfx (lastV (t.way p)).1.1 (lastV (t.way p)).1.2, .int .i64 (lastV (t.way p)).2.1, .bool (lastV (t.way p)).2.2]) ∧ Below w.heap.size w w' := by
  have hb0 := box_below w (.cells #[.int .u32 0, .int .i64 0] 34)
  have hpb := Blk.new w 34 #[.int .u32 0, .int .i64 0]
  have HT := Lib.hid (hT.below hb0)
  have HB0 := Lib.hid hb0
  have HPB := Lib.hid hpb
  have hway := fun W (hW : Lies W t) => way_mem (p := p) hW hT.wf
  have HW := Lib.hid hway
  have hlen : (t.way p).length ≤ 33 := by have := way_len t p hT.wf; have := depth_most hT.wf; omega
  have HA := Lib.hid (fun W hW => above_any t p (by omega) W g hW)
  have hkn : kn p = 32 := by unfold kn; omega
  rw [hkn] at HA
  clear hT hb0 hpb hway hkn
  generalize t.way p = L at *
  obtain ⟨lv, hlv⟩ : ∃ lv, lastV L = lv := ⟨_, rfl⟩
  rw [hlv]
  obtain ⟨⟨XX, NN⟩, VV, BB⟩ := lv
  dsimp only
  have HLV := Lib.hid hlv
  clear hlv
  go_enter Try.func16, Try.ntmps16
  go_wp2_with fail
  generalize (w.alloc (.cells #[.int .u32 0, .int .i64 0] 34)) = W0 at *
  refine (HA.out _ HT.out).mono ?_
  rintro e w1 ⟨⟨A, c, rfl, hL⟩, hb1⟩
  have hT1 := HT.out.below hb1
  have HB1 := Lib.hid (HB0.out.trans (hb1.mono HB0.out.size))
  have HPB1 := Lib.hid (HPB.out.below hb1 HPB.out.lt)
  have HE := Lib.hid (HW.out w1 hT1.lies)
  have HL := Lib.hid hL
  have hzw : w.heap.size < w1.heap.size := HPB1.out.lt
  clear hT1 hb1 hL HPB HB0 HT HW HA
  go_wp2_with fail
  go_loopw [5, 6, 14] (fun v5 v6 i wr => ∃ k : Nat, k ≤ L.length ∧ i = .int .i64 k ∧ v5 = .int .i64 (lastV (L.take k)).2.1 ∧ v6 = .bool (lastV (L.take k)).2.2 ∧ Hid (Blk wr w.heap.size 34 #[.int .u32 (lastV (L.take k)).1.1, .int .i64 (lastV (L.take k)).1.2]) ∧ Hid (w1.grownBy wr (some w.heap.size))) (fun _ _ i _ => L.length - (intOf i).toNat)
  case atStart => exact ⟨0, by omega, rfl, rfl, rfl, HPB1, Lib.hid (grown_refl _ _)⟩
  case round =>
    obtain ⟨k, hk, rfl, rfl, rfl, HPr, HGr⟩ := hrel
    by_cases hlt : k < L.length
    · obtain ⟨bn, kk, v, l, r, hs, hbn, hkk, hkp⟩ := HE.out _ (List.getElem_mem hlt)
      obtain ⟨b, o, rfl, hlb, hc⟩ := HL.out (by simp [ptrs]; omega)
      have hb0 := hc 0 (by simp [ptrs]; omega)
      have hck := hc k (by simpa [ptrs] using hlt)
      rw [ptrs_at hlt, hs] at hck
      have hpw := HPB1.out
      have hne1 : b ≠ w.heap.size := fun e => by
        subst e
        rw [ptrs_at (by omega), hpw.cell (o + 0)] at hb0
        match o with
        | 0 => simp at hb0
        | 1 => simp at hb0
        | o + 2 => simp at hb0
      have hne2 : bn ≠ w.heap.size := fun e => by
        subst e
        have := blk_type hbn hpw
        revert this
        decide
      have hck := (World.cell?_of_block (HGr.out.block b hlb (by simpa using hne1))).trans hck
      simp only [ptr] at hck
      have hbr := hbn.grown HGr.out (by simpa using hne2)
      have hnext := lastV_next hlt
      rw [hs] at hnext
      simp only [keyT, valT] at hnext
      obtain ⟨c0, c1, _, c3, _⟩ := cellN hbr
      have d0 := HPr.out.cell 0
      have d1 := HPr.out.cell 1
      have f0 := HPr.out.frozen 0
      have f1 := HPr.out.frozen 1
      simp only [List.getElem?_toArray, List.getElem?_cons_zero, List.getElem?_cons_succ] at d0 d1
      have hlti : (k : Int) < (L.length : Int) := by omega
      have HNX := Lib.hid hnext
      clear hbn hc hbr hpw hb0 hnext
      generalize lastV (L.take k) = lv at *
      obtain ⟨⟨x0, n0⟩, v0, b0⟩ := lv
      dsimp only at d0 d1 HPr
      go_wp2_with fail
      go_region
      have hg5 : w1.grownBy (((wr.setCell ⟨w.heap.size, 0, none⟩ (.int .u32 (kx kk))).setCell ⟨w.heap.size, 1, none⟩ (.int .i64 (kn kk))).drew) (some w.heap.size) := HGr.out.trans (((grown_set _ _ 0 _).trans (grown_set _ _ 1 _)).trans (grown_drew _ _))
      have hp5 : Blk (((wr.setCell ⟨w.heap.size, 0, none⟩ (.int .u32 (kx kk))).setCell ⟨w.heap.size, 1, none⟩ (.int .i64 (kn kk))).drew) w.heap.size 34 #[.int .u32 (kx kk), .int .i64 (kn kk)] := by
        have := (HPr.out.set_ 0 (.int .u32 (kx kk))).set_ 1 (.int .i64 (kn kk))
        refine Blk.drew ?_
        simpa using this
      have HG5 := Lib.hid hg5
      have HP5 := Lib.hid hp5
      clear hg5 hp5 c0 c1 c3 d0 d1 f0 f1 hck HPr HGr
      generalize (((wr.setCell ⟨w.heap.size, 0, none⟩ (.int .u32 (kx kk))).setCell ⟨w.heap.size, 1, none⟩ (.int .i64 (kn kk))).drew) = w5 at *
      go_wp2_with fail
      go_roundw
      case rel => exact ⟨k + 1, by omega, by go_num, by rw [HNX.out], by rw [HNX.out], by rw [HNX.out]; exact HP5, HG5⟩
      case measure => simp [intOf]; omega
    · obtain rfl : k = L.length := by omega
      rw [List.take_length, HLV.out] at HPr ⊢
      dsimp only at HPr ⊢
      have d0 := HPr.out.cell 0
      have d1 := HPr.out.cell 1
      have f0 := HPr.out.frozen 0
      have f1 := HPr.out.frozen 1
      simp only [List.getElem?_toArray, List.getElem?_cons_zero, List.getElem?_cons_succ] at d0 d1
      have hb := (Below.refl w.heap.size w).trans (HB1.out)
      have hbw : Below w.heap.size w wr := HB1.out.grown HGr.out HB1.out.size (fun k e => by cases e; omega)
      have hp5 : Blk ((wr.setCell ⟨w.heap.size, 0, none⟩ (.int .u32 XX)).setCell ⟨w.heap.size, 1, none⟩ (.int .i64 NN)) w.heap.size 34 #[.int .u32 XX, .int .i64 NN] := by
        have := (HPr.out.set_ 0 (.int .u32 XX)).set_ 1 (.int .i64 NN)
        simpa using this
      have hb5 : Below w.heap.size w ((wr.setCell ⟨w.heap.size, 0, none⟩ (.int .u32 XX)).setCell ⟨w.heap.size, 1, none⟩ (.int .i64 NN)) := (hbw.setCell (p := ⟨w.heap.size, 0, none⟩) (Nat.le_refl _) _).setCell (p := ⟨w.heap.size, 1, none⟩) (Nat.le_refl _) _
      have HP5 := Lib.hid hp5
      have HB5 := Lib.hid hb5
      clear hb hbw hp5 hb5 HPr HGr HE HL HPB1
      go_wp2_with fail
      have c0 := HP5.out.cell 0
      have c1 := HP5.out.cell 1
      simp only [List.getElem?_toArray, List.getElem?_cons_zero, List.getElem?_cons_succ] at c0 c1
      exact bodyPost_ret (v := .tuple #[pfx XX NN, .int .i64 VV, .bool BB]) (by simp [results, Try.results16, go_sem, c0, c1, pfx]) rfl ⟨rfl, HB5.out⟩
theorem findNo_any (a : Int) (x0 : 0 ≤ a) (x1 : a < 4294967296) (w : World) :
    Calls Try.prog 16 #[.pointer none, .int .u32 a] w fun e w' => e = .returned (.tuple #[pfx 0 0, .int .i64 0, .bool false]) ∧ Below w.heap.size w w' := by
  have hb0 := box_below w (.cells #[.int .u32 0, .int .i64 0] 34)
  have HPB := Lib.hid (Blk.new w 34 #[.int .u32 0, .int .i64 0])
  have HB0 := Lib.hid hb0
  clear hb0
  go_enter Try.func16, Try.ntmps16
  go_wp2_with fail
  generalize (w.alloc (.cells #[.int .u32 0, .int .i64 0] 34)) = W0 at *
  refine (aboveNo_any none a 32 x0 x1 _ (.inl rfl)).mono ?_
  rintro e w1 ⟨rfl, hb1⟩
  have HB1 := Lib.hid (HB0.out.trans (hb1.mono HB0.out.size))
  have HP1 := Lib.hid (HPB.out.below hb1 HPB.out.lt)
  have hzw : w.heap.size < w1.heap.size := HP1.out.lt
  have d0 := HP1.out.cell 0
  have d1 := HP1.out.cell 1
  have f0 := HP1.out.frozen 0
  have f1 := HP1.out.frozen 1
  simp only [List.getElem?_toArray, List.getElem?_cons_zero, List.getElem?_cons_succ] at d0 d1
  have hp5 : Blk ((w1.setCell ⟨w.heap.size, 0, none⟩ (.int .u32 0)).setCell ⟨w.heap.size, 1, none⟩ (.int .i64 0)) w.heap.size 34 #[.int .u32 0, .int .i64 0] := by
    have := (HP1.out.set_ 0 (.int .u32 0)).set_ 1 (.int .i64 0)
    simpa using this
  have hb5 : Below w.heap.size w ((w1.setCell ⟨w.heap.size, 0, none⟩ (.int .u32 0)).setCell ⟨w.heap.size, 1, none⟩ (.int .i64 0)) := (HB1.out.setCell (p := ⟨w.heap.size, 0, none⟩) (Nat.le_refl _) _).setCell (p := ⟨w.heap.size, 1, none⟩) (Nat.le_refl _) _
  have HP5 := Lib.hid hp5
  have HB5 := Lib.hid hb5
  clear hb1 HB0 HPB hp5 hb5
  go_wp2_with fail
  refine wp_loop_rounds 1 ?_
  rw [rounds_succ]
  go_wp2_with fail
  have c0 := HP5.out.cell 0
  have c1 := HP5.out.cell 1
  simp only [List.getElem?_toArray, List.getElem?_cons_zero, List.getElem?_cons_succ] at c0 c1
  exact bodyPost_ret (v := .tuple #[pfx 0 0, .int .i64 0, .bool false]) (by simp [results, Try.results16, go_sem, c0, c1, pfx]) rfl ⟨rfl, HB5.out⟩
end T6
end Go.Proofs.Ytghkacciihocdaa
