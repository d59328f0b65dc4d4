/- Layer 5's Each: what it lays, and its iterator, for a range over it. -/
import Derived.Test.YtehhablobfaplaaDoorX8
namespace Go.Proofs.YtehhablobfaplaaDoor
open Go Go.RowKit Go.Shelf Go.Sort
attribute [local go_sem] Oper.semAt_some

/-- What Each tells. -/
def eachP (xs : List Int) : List (Int × Ent) := if chkNo xs = 0 then eachE (xs.drop 4) else []
theorem eachP_len (xs : List Int) : (eachP xs).length = (decD xs).l.length := by
  unfold eachP decD
  split
  · exact eachE_len _
  · rfl
theorem eachP_at {xs : List Int} {i : Nat} (h : i < (eachP xs).length) (h2 : i < (decD xs).l.length) : (eachP xs)[i] = ((i : Int), ((decD xs).l)[i]) := by
  by_cases h0 : chkNo xs = 0
  · have e1 : eachP xs = eachE (xs.drop 4) := if_pos h0
    have e2 : decD xs = ⟨xs.getD 0 0, ents (xs.drop 4)⟩ := if_pos h0
    simp only [e1, e2] at h h2 ⊢
    exact eachE_at h h2
  · have e1 : eachP xs = [] := if_neg h0
    rw [e1] at h
    exact absurd h (by simp)
/-- How often a round comes at most. -/
abbrev manyP (xs : List Int) : Nat := (pcs 20 (xs.drop 4).length ((xs.drop 4).length + 1) 0).length

set_option maxHeartbeats 800000 in
theorem each5_any (p : Option Addr) (c : Nat) (xs : List Int) (hb : IsBytes xs) (hc : xs.length ≤ c) (w : World) (hn : xs.length ≤ 1000000) (hx : ByS w p xs) (hf : Fit3 w) :
    Calls Tryd.prog 21 #[.slice p xs.length c] w fun e w' => ∃ Br Bn g cap q, e = .returned (.func (.func 41) #[] #[.pointer (some ⟨Br, 0, none⟩), .pointer (some ⟨Bn, 0, none⟩)]) ∧
      xs.length ≤ cap ∧ (0 < xs.length → q = some ⟨g, 0, none⟩) ∧ Bn < w'.heap.size ∧ w.heap.size ≤ Bn ∧ w'.cell? ⟨Br, 0, none⟩ = some (.slice q xs.length cap) ∧ w'.cell? ⟨Bn, 0, none⟩ = some (.bool (!decide (chkNo xs = 0))) ∧ ByS w' (some ⟨g, 0, none⟩) xs ∧ Below w.heap.size w w' := by
  have hmf : ∀ (fn : Fn) (first cap : Array Value) (w : World), (Instr.makeFunc fn first cap).run Tryd.prog w = .ok (.func fn first cap) w := fun _ _ _ _ => rfl
  have HC := Lib.hid (clone_any p c xs w hn hx)
  have HK := Lib.hid (fun W (h : ByS W p xs) (hF : Fit3 W) => check5_any p c xs hb hn hc W h hF)
  have HX := Lib.hid hx
  have HF := Lib.hid hf
  have hnq : (chkNo xs != 0) = !decide (chkNo xs = 0) := by
    by_cases h : chkNo xs = 0 <;> simp [h]
  clear hx hf hb
  generalize chkNo xs = no at *
  generalize (!decide (no = 0)) = nb at *
  go_enter Tryd.func21, Tryd.ntmps21
  go_wp2_with fail
  refine HC.out.mono ?_
  rintro e w2 ⟨v, rfl, ho, hb⟩
  obtain ⟨q, cap, rfl, hcap, hy, hbase⟩ := OwnB.byS ho
  have hg : ∃ g, (0 < xs.length → q = some ⟨g, 0, none⟩) := by
    by_cases h0 : 0 < xs.length
    · rcases ho.2 with ⟨_, hn0⟩ | ⟨g, cap', cur, hv, _⟩
      · omega
      · cases hv
        exact ⟨g, fun _ => rfl⟩
    · exact ⟨0, fun h => absurd h h0⟩
  obtain ⟨g, hq⟩ := hg
  have hba : Below w2.heap.size w2 (w2.alloc (.cells #[.slice q xs.length cap] 69)) := (Below.refl _ _).alloc (Nat.le_refl _) _
  have HBA := Lib.hid (hb.trans (hba.mono hb.size))
  have HR := Lib.hid (Blk.new w2 69 #[.slice q xs.length cap])
  have HY := Lib.hid (hy.below hba)
  have HQ := Lib.hid hq
  have hws := hb.size
  clear ho hy hq hbase HC hb hba
  go_wp2_with fail
  generalize (w2.alloc (.cells #[.slice q xs.length cap] 69)) = w3 at *
  refine (HK.out _ (HX.out.below HBA.out) (HF.out.below HBA.out)).mono ?_
  rintro e w4 ⟨rfl, hb4⟩
  have hba : Below w4.heap.size w4 (w4.alloc (.cells #[.bool nb] 4)) := (Below.refl _ _).alloc (Nat.le_refl _) _
  have hb5 := hb4.trans (hba.mono hb4.size)
  have hr5 := HR.out.below hb5 HR.out.lt
  have k0 := hr5.cell 0
  simp only [List.getElem?_toArray, List.getElem?_cons_zero] at k0
  have HK0 := Lib.hid k0
  have hyy : ByS (w4.alloc (.cells #[.bool nb] 4)) (some ⟨g, 0, none⟩) xs := fun h0 => by
    obtain ⟨b, o, e, hl, hcc⟩ := (HY.out.below hb5) h0
    have e2 := (HQ.out h0).symm.trans e
    cases e2
    exact ⟨g, 0, rfl, hl, hcc⟩
  have HYY := Lib.hid hyy
  have HBF := Lib.hid (HBA.out.trans (hb5.mono HBA.out.size))
  have hs4 : w.heap.size ≤ w4.heap.size := by have := (HBA.out.trans (hb4.mono HBA.out.size)).size; omega
  clear hb4 hba hb5 hr5 k0 hyy HK HX HF HR HY HBA
  go_wp2_with fail
  go_ret
  refine ⟨w2.heap.size, w4.heap.size, g, cap, q, rfl, hcap, HQ.out, by simp, hs4, HK0.out, ?_, HYY.out, HBF.out⟩
  simp

set_option maxRecDepth 100000 in
set_option maxHeartbeats 3200000 in
theorem each5_yes (n : Nat) (hn : 12 ≤ n) (l Br Bn g cap : Nat) (K₀ : Nat → Prop) (xs : List Int) (hb : IsBytes xs) (hN : xs.length ≤ 1000000) (hcap : xs.length ≤ cap) (q : Option Addr) (hq : 0 < xs.length → q = some ⟨g, 0, none⟩) (h0 : chkNo xs = 0) (J Jx : List (Int × Ent) → World → Prop)
    (W : World) (hJ : AbidesM (fun _ => true) W.heap.size J) (hJx : AbidesM (fun _ => true) W.heap.size Jx)
    (hY : ∀ pre x W', J pre W' → pre.length < manyP xs → YieldAt Fence.wide (n - 1) Tryd.prog l #[.int .i64 x.1, entV x.2] W' fun e W'' =>
      Kept2 K₀ W.heap.size W' W'' ∧ ((e = .returned (.bool true) ∧ J (pre ++ [x]) W'') ∨ (e = .returned (.bool false) ∧ Jx (pre ++ [x]) W'')))
    (hlt : ∀ i, K₀ i → i < W.heap.size) (hgw : K₀ 0) (hbn : K₀ Bn) (co : W.cell? ⟨Br, 0, none⟩ = some (.slice q xs.length cap)) (cn : W.cell? ⟨Bn, 0, none⟩ = some (.bool false)) (hx : ByS W (some ⟨g, 0, none⟩) xs) (hf : Fit3 W) (hj0 : J [] W) :
    CallsIn Fence.wide n Tryd.prog 41 #[.func (.yield l) #[] #[], .pointer (some ⟨Br, 0, none⟩), .pointer (some ⟨Bn, 0, none⟩)] W fun e W' => (∃ v, e = .returned v) ∧
      ((∃ ys, ys = eachP xs ∧ J ys W') ∨ (∃ pre, pre <+: eachP xs ∧ Jx pre W')) := by
  have hT : eachP xs = eachE (xs.drop 4) := if_pos h0
  rw [hT]
  clear hT h0
  unfold manyP at hY
  have hbe := fun (W : World) (h : ByS W q xs) => behind5_any q cap xs hN hcap W h
  have hyl : (xs.drop 4).length ≤ 1000000 := by rw [List.length_drop]; omega
  have hby := hb.drop 4
  generalize xs.drop 4 = ys at *
  have hb1 : Below W.heap.size W (W.alloc (.cells #[.func (.yield l) #[] #[]] 77)) := (Below.refl _ _).alloc (Nat.le_refl _) _
  have cy : Blk (W.alloc (.cells #[.func (.yield l) #[] #[]] 77)) W.heap.size 77 #[.func (.yield l) #[] #[]] := Blk.new _ _ _
  have hs1 : (W.alloc (.cells #[.func (.yield l) #[] #[]] 77)).heap.size = W.heap.size + 1 := by simp
  have hJ1 : J [] (W.alloc (.cells #[.func (.yield l) #[] #[]] 77)) := hJ [] W _ hj0 (.calls hb1)
  have HY := Lib.hid hY
  have HAJ := Lib.hid hJ
  have HAX := Lib.hid hJx
  have HBY := Lib.hid hby
  have hbnl : Bn < W.heap.size := hlt _ hbn
  have hn1 : 1 ≤ n := by omega
  have hn3 : 1 ≤ n - 1 - 1 := by omega
  clear hY hJ hJx hb hby hj0
  refine callsIn_of_wp_marks Tryd.func41 rfl trivial ?_ rfl
  simp only [Tryd.ntmps41, List.size_toArray, List.length_cons, List.length_nil, Nat.reduceAdd, Nat.reduceSub, Array.replicate_succ, Array.replicate_zero, List.push_toArray, List.append_toArray, List.nil_append, List.cons_append]
  gi_wp2_with fail
  generalize hW1 : W.alloc (.cells #[.func (.yield l) #[] #[]] 77) = W1 at *
  replace co := (hb1.cell (p := ⟨Br, 0, none⟩) (World.block_lt_of_cell? _ _ co)).trans co
  replace cn := (hb1.cell (p := ⟨Bn, 0, none⟩) (World.block_lt_of_cell? _ _ cn)).trans cn
  replace hf := hf.below hb1
  have hxq : ByS W1 q xs := fun h0 => by
    obtain ⟨b, o, e, r⟩ := (hx.below hb1) h0
    exact ⟨b, o, (hq h0).trans e, r⟩
  generalize hB : W.heap.size = B at *
  have HF := Lib.hid hf
  have HJ1 := Lib.hid hJ1
  have HCY := Lib.hid cy
  have HBE := Lib.hid (hbe W1 hxq)
  clear hbe
  have HCN := Lib.hid cn
  clear hx hf hJ1 hb1 hW1 hB cy hxq cn
  refine wpInWide_scope ?_
  gi_wp2_with fail
  refine wpIn_label ?_
  gi_wp2_with fail
  refine ⟨trivial, ?_⟩
  refine (callsIn_wide.2 HBE.out).mono ?_
  rintro e w' ⟨⟨q', k', rfl, hqk, hy⟩, rfl⟩
  have HEA := Lib.hid (each4_any q' k' ys W1 hyl hy)
  clear hy HBE co
  gi_wp2_with fail
  refine ⟨trivial, ?_⟩
  refine (callsIn_wide.2 HEA.out).mono ?_
  rintro e w2 ⟨Bo, g2, cap2, q2, rfl, hcap2, hq2, lg, lg2, co2, hx2, hb2⟩
  have hb2s := hb2.size
  have hlo := World.block_lt_of_cell? _ _ co2
  simp only at hlo
  have HF2 := Lib.hid (HF.out.below hb2)
  have HJ2 := Lib.hid (HAJ.out [] W1 w2 HJ1.out (.calls hb2))
  have HY2 := Lib.hid (HCY.out.below hb2 (by omega))
  have HCN2 := Lib.hid ((hb2.cell (p := ⟨Bn, 0, none⟩) (by rw [hs1]; exact Nat.lt_succ_of_lt hbnl)).trans HCN.out)
  have kB : ∀ i, B ≤ i → i < w2.heap.size → (K₀ i ∨ (B ≤ i ∧ i < w2.heap.size)) := fun i h1 h2 => .inr ⟨h1, h2⟩
  have hst := each4_stopsK (n - 1) (by omega) Bo g2 cap2 (fun i => K₀ i ∨ (B ≤ i ∧ i < w2.heap.size)) q2 ys HBY.out hyl hcap2 hq2 w2 (fun i h => by rcases h with h | h; (have := hlt i h; omega); exact h.2) (kB _ (by omega) lg) (.inl hgw) co2 hx2 HF2.out
  have HST := Lib.hid hst
  clear hst HEA HF HJ1 HCY HCN hb2 hx2 co2 hq2 HBY HF2
  gi_wp2_with fail
  refine rangeFuncT_brkA (S := fun zs => zs = eachE ys) (Sp := fun pre => pre <+: eachE ys) (N := (pcs 20 ys.length (ys.length + 1) 0).length) (K₀ := fun i => K₀ i ∨ (B ≤ i ∧ i < w2.heap.size)) (w0 := w2) rfl hn1 (gf := 53) (lb := #[.pointer (some ⟨Bo, 0, none⟩)]) rfl trivial (enters_of Tryd.func53 (by kernel_rfl) rfl)
    HST.out (fun h => by rcases h with h | h; (have := hlt _ h; omega); omega) (Below.refl _ _) (fun _ => rfl)
    (fun pre W' => J pre W' ∧ AsIn (fun i => K₀ i ∨ (B ≤ i ∧ i < w2.heap.size)) w2 W') (fun pre W' => Jx pre W')
    (fun pre A C hs ht => ⟨HAJ.out _ A C hs.1 (Turns.mono ht (by omega)), asIn_own (β := Unit) () A C hs.2 ht⟩) (fun pre A C hs ht => HAX.out _ A C hs (Turns.mono ht (by omega)))
    ⟨HJ2.out, Nat.le_refl _, fun _ _ _ => rfl⟩ (fun x b W => Blk W b 55 (sixE x.2)) (fun x b => blk_ab x b _) ?a₁ ?assign ?body ?after
  case assign =>
    intro l2 pre x W' K hI hK
    have hb : Below W'.heap.size W' (W'.alloc (.cells (sixE x.2) 55)) := (Below.refl _ _).alloc (Nat.le_refl _) _
    have hk := hK W'.heap.size _ (keepsFrom_below hb) (Kept2.calls hb) ⟨HAJ.out _ W' _ hI.1 (.calls hb), hI.2.kept (E := 0) (Kept2.calls hb)⟩ (Blk.new W' _ _)
    have HK := Lib.hid hk
    clear hI hK hb hk
    gi_wp2
    generalize W'.heap.size = b at *
    exact HK.out
  case body =>
    rintro l2 pre x b W' ⟨hi, ha⟩ hab hlen
    have c_n := ha.cell (.inl hbn) HCN2.out
    have hy0 := HY2.out.cell 0
    simp only [List.getElem?_toArray, List.getElem?_cons_zero] at hy0
    have c_y := ha.cell (kB B (Nat.le_refl _) (by omega)) hy0
    have hyy := yield_wide (HY.out pre x W' hi hlen) (n - 1 - 1 - 1) l2
    obtain ⟨i, f, t, a, m, nx, k⟩ := x
    have cb0 := hab.cell 0
    have cb1 := hab.cell 1
    have cb2 := hab.cell 2
    have cb3 := hab.cell 3
    have cb4 := hab.cell 4
    have cb5 := hab.cell 5
    simp only [sixE, List.getElem?_toArray, List.getElem?_cons_zero, List.getElem?_cons_succ] at cb0 cb1 cb2 cb3 cb4 cb5
    have hfin : ∀ W3, Kept2 K₀ B W' W3 → KeepsFrom w2.heap.size W' W3 ∧ Kept2 (fun i => K₀ i ∨ (B ≤ i ∧ i < w2.heap.size)) (w2.heap.size + 2) W' W3 ∧ AsIn (fun i => K₀ i ∨ (B ≤ i ∧ i < w2.heap.size)) w2 W3 := fun W3 h4 => by
      have h5 := h4.sub (K₁ := fun i => K₀ i ∨ (B ≤ i ∧ i < w2.heap.size)) (E' := w2.heap.size + 2) (fun i hi => by rcases hi with (hi | hi) | hi; exact .inl hi; exact .inr hi.1; exact .inr (by omega))
      exact ⟨⟨h4.size, fun i o hi ho _ => (h4.block i (Array.getElem?_eq_some_iff.1 ho).1 (.inr (by omega))).trans ho⟩, h5, ha.kept h5⟩
    have FIN := Lib.hid hfin
    obtain ⟨fn, tmps, assign, body, hy, hR⟩ := hyy
    have HR := Lib.hid hR
    dsimp only at hy
    clear hfin hR hi ha hab
    gi_wp2_with fail
    refine HR.out.mono ?_
    rintro e W3 ⟨hk3, ⟨rfl, hJ3⟩ | ⟨rfl, hJ3⟩⟩
    · have hfin := FIN.out W3 hk3
      gi_wp2
      exact ⟨hfin.1, hfin.2.1, hJ3, hfin.2.2⟩
    · have hfin := FIN.out W3 hk3
      gi_wp2
      exact ⟨hfin.1, hfin.2.1, .inr ⟨rfl, hJ3⟩⟩
  case after =>
    rintro D zs W' hD hxs hK
    have HR := Lib.hid (show (∃ ys', ys' = eachE ys ∧ J ys' W') ∨ (∃ pre, pre <+: eachE ys ∧ Jx pre W') from by
      rcases hxs with ⟨rfl, hj, _⟩ | ⟨hp, hj⟩
      · exact .inl ⟨_, rfl, hj⟩
      · exact .inr ⟨_, hp, hj⟩)
    have HK := Lib.hid hK
    clear hxs hK
    gi_wp2
    refine ⟨by simp, .inl ⟨_, _, rfl, run_takeDeferred HK.out, ?_⟩⟩
    have hturn : TurnsAny B W' (W'.putObj D (.deferred none)) := TurnsAny.of (grownBy_putObj' W' D _) (fun r e => by cases e; exact ⟨by omega, (Array.getElem?_eq_some_iff.1 HK.out).1⟩)
    refine ⟨_, by first | exact results_none rfl _ _ _ | rfl, ⟨_, rfl⟩, ?_⟩
    rcases HR.out with ⟨ys', e, hj⟩ | ⟨pre, hp, hj⟩
    · exact .inl ⟨ys', e, HAJ.out _ W' _ hj hturn⟩
    · exact .inr ⟨pre, hp, HAX.out _ W' _ hj hturn⟩

set_option maxRecDepth 100000 in
set_option maxHeartbeats 3200000 in
theorem each5_no (n : Nat) (hn : 12 ≤ n) (l Br Bn g cap : Nat) (K₀ : Nat → Prop) (xs : List Int) (hb : IsBytes xs) (hN : xs.length ≤ 1000000) (hcap : xs.length ≤ cap) (q : Option Addr) (hq : 0 < xs.length → q = some ⟨g, 0, none⟩) (h0 : ¬ chkNo xs = 0) (J Jx : List (Int × Ent) → World → Prop)
    (W : World) (hJ : AbidesM (fun _ => true) W.heap.size J) (hJx : AbidesM (fun _ => true) W.heap.size Jx)
    (hY : ∀ pre x W', J pre W' → pre.length < manyP xs → YieldAt Fence.wide (n - 1) Tryd.prog l #[.int .i64 x.1, entV x.2] W' fun e W'' =>
      Kept2 K₀ W.heap.size W' W'' ∧ ((e = .returned (.bool true) ∧ J (pre ++ [x]) W'') ∨ (e = .returned (.bool false) ∧ Jx (pre ++ [x]) W'')))
    (hlt : ∀ i, K₀ i → i < W.heap.size) (hgw : K₀ 0) (hbn : K₀ Bn) (co : W.cell? ⟨Br, 0, none⟩ = some (.slice q xs.length cap)) (cn : W.cell? ⟨Bn, 0, none⟩ = some (.bool true)) (hx : ByS W (some ⟨g, 0, none⟩) xs) (hf : Fit3 W) (hj0 : J [] W) :
    CallsIn Fence.wide n Tryd.prog 41 #[.func (.yield l) #[] #[], .pointer (some ⟨Br, 0, none⟩), .pointer (some ⟨Bn, 0, none⟩)] W fun e W' => (∃ v, e = .returned v) ∧
      ((∃ ys, ys = eachP xs ∧ J ys W') ∨ (∃ pre, pre <+: eachP xs ∧ Jx pre W')) := by
  have hT : eachP xs = [] := if_neg h0
  rw [hT]
  clear hT h0
  unfold manyP at hY
  have hbe := fun (W : World) (h : ByS W q xs) => behind5_any q cap xs hN hcap W h
  have hyl : (xs.drop 4).length ≤ 1000000 := by rw [List.length_drop]; omega
  have hby := hb.drop 4
  generalize xs.drop 4 = ys at *
  have hb1 : Below W.heap.size W (W.alloc (.cells #[.func (.yield l) #[] #[]] 77)) := (Below.refl _ _).alloc (Nat.le_refl _) _
  have cy : Blk (W.alloc (.cells #[.func (.yield l) #[] #[]] 77)) W.heap.size 77 #[.func (.yield l) #[] #[]] := Blk.new _ _ _
  have hs1 : (W.alloc (.cells #[.func (.yield l) #[] #[]] 77)).heap.size = W.heap.size + 1 := by simp
  have hJ1 : J [] (W.alloc (.cells #[.func (.yield l) #[] #[]] 77)) := hJ [] W _ hj0 (.calls hb1)
  have HY := Lib.hid hY
  have HAJ := Lib.hid hJ
  have HAX := Lib.hid hJx
  have HBY := Lib.hid hby
  have hbnl : Bn < W.heap.size := hlt _ hbn
  have hn1 : 1 ≤ n := by omega
  have hn3 : 1 ≤ n - 1 - 1 := by omega
  clear hY hJ hJx hb hby hj0
  refine callsIn_of_wp_marks Tryd.func41 rfl trivial ?_ rfl
  simp only [Tryd.ntmps41, List.size_toArray, List.length_cons, List.length_nil, Nat.reduceAdd, Nat.reduceSub, Array.replicate_succ, Array.replicate_zero, List.push_toArray, List.append_toArray, List.nil_append, List.cons_append]
  gi_wp2_with fail
  generalize hW1 : W.alloc (.cells #[.func (.yield l) #[] #[]] 77) = W1 at *
  replace co := (hb1.cell (p := ⟨Br, 0, none⟩) (World.block_lt_of_cell? _ _ co)).trans co
  replace cn := (hb1.cell (p := ⟨Bn, 0, none⟩) (World.block_lt_of_cell? _ _ cn)).trans cn
  replace hf := hf.below hb1
  have hxq : ByS W1 q xs := fun h0 => by
    obtain ⟨b, o, e, r⟩ := (hx.below hb1) h0
    exact ⟨b, o, (hq h0).trans e, r⟩
  generalize hB : W.heap.size = B at *
  have HF := Lib.hid hf
  have HJ1 := Lib.hid hJ1
  have HCY := Lib.hid cy
  have HBE := Lib.hid (hbe W1 hxq)
  clear hbe
  have HCN := Lib.hid cn
  clear hx hf hJ1 hb1 hW1 hB cy hxq cn
  refine wpInWide_scope ?_
  gi_wp2_with fail
  refine wpIn_label ?_
  gi_wp2_with fail
  refine ⟨trivial, ?_⟩
  refine (callsIn_wide.2 HBE.out).mono ?_
  rintro e w' ⟨⟨q', k', rfl, hqk, hy⟩, rfl⟩
  have HEA := Lib.hid (each4_any q' k' ys W1 hyl hy)
  clear hy HBE co
  gi_wp2_with fail
  refine ⟨trivial, ?_⟩
  refine (callsIn_wide.2 HEA.out).mono ?_
  rintro e w2 ⟨Bo, g2, cap2, q2, rfl, hcap2, hq2, lg, lg2, co2, hx2, hb2⟩
  have hb2s := hb2.size
  have hlo := World.block_lt_of_cell? _ _ co2
  simp only at hlo
  have HF2 := Lib.hid (HF.out.below hb2)
  have HJ2 := Lib.hid (HAJ.out [] W1 w2 HJ1.out (.calls hb2))
  have HY2 := Lib.hid (HCY.out.below hb2 (by omega))
  have HCN2 := Lib.hid ((hb2.cell (p := ⟨Bn, 0, none⟩) (by rw [hs1]; exact Nat.lt_succ_of_lt hbnl)).trans HCN.out)
  have kB : ∀ i, B ≤ i → i < w2.heap.size → (K₀ i ∨ (B ≤ i ∧ i < w2.heap.size)) := fun i h1 h2 => .inr ⟨h1, h2⟩
  have hst := each4_stopsK (n - 1) (by omega) Bo g2 cap2 (fun i => K₀ i ∨ (B ≤ i ∧ i < w2.heap.size)) q2 ys HBY.out hyl hcap2 hq2 w2 (fun i h => by rcases h with h | h; (have := hlt i h; omega); exact h.2) (kB _ (by omega) lg) (.inl hgw) co2 hx2 HF2.out
  have HST := Lib.hid hst
  clear hst HEA HF HJ1 HCY HCN hb2 hx2 co2 hq2 HBY HF2
  gi_wp2_with fail
  refine rangeFuncT_brkA (S := fun zs => zs = eachE ys) (Sp := fun pre => pre <+: eachE ys) (N := (pcs 20 ys.length (ys.length + 1) 0).length) (K₀ := fun i => K₀ i ∨ (B ≤ i ∧ i < w2.heap.size)) (w0 := w2) rfl hn1 (gf := 53) (lb := #[.pointer (some ⟨Bo, 0, none⟩)]) rfl trivial (enters_of Tryd.func53 (by kernel_rfl) rfl)
    HST.out (fun h => by rcases h with h | h; (have := hlt _ h; omega); omega) (Below.refl _ _) (fun _ => rfl)
    (fun pre W' => J [] W' ∧ AsIn (fun i => K₀ i ∨ (B ≤ i ∧ i < w2.heap.size)) w2 W') (fun pre W' => J [] W')
    (fun pre A C hs ht => ⟨HAJ.out _ A C hs.1 (Turns.mono ht (by omega)), asIn_own (β := Unit) () A C hs.2 ht⟩) (fun pre A C hs ht => HAJ.out _ A C hs (Turns.mono ht (by omega)))
    ⟨HJ2.out, Nat.le_refl _, fun _ _ _ => rfl⟩ (fun x b W => Blk W b 55 (sixE x.2)) (fun x b => blk_ab x b _) ?a₁ ?assign ?body ?after
  case assign =>
    intro l2 pre x W' K hI hK
    have hb : Below W'.heap.size W' (W'.alloc (.cells (sixE x.2) 55)) := (Below.refl _ _).alloc (Nat.le_refl _) _
    have hk := hK W'.heap.size _ (keepsFrom_below hb) (Kept2.calls hb) ⟨HAJ.out _ W' _ hI.1 (.calls hb), hI.2.kept (E := 0) (Kept2.calls hb)⟩ (Blk.new W' _ _)
    have HK := Lib.hid hk
    clear hI hK hb hk
    gi_wp2
    generalize W'.heap.size = b at *
    exact HK.out
  case body =>
    rintro l2 pre x b W' ⟨hi, ha⟩ hab hlen
    have c_n := ha.cell (.inl hbn) HCN2.out
    have hk0 := Kept2.refl (fun i => K₀ i ∨ (B ≤ i ∧ i < w2.heap.size)) (w2.heap.size + 2) W'
    have HI := Lib.hid hi
    clear hi ha hab hlen
    gi_wp2
    exact ⟨⟨Nat.le_refl _, fun _ _ _ h _ => h⟩, hk0, .inr ⟨rfl, HI.out⟩⟩
  case after =>
    rintro D zs W' hD hxs hK
    have HR := Lib.hid (show (∃ ys', ys' = [] ∧ J ys' W') ∨ (∃ pre, pre <+: [] ∧ Jx pre W') from by
      rcases hxs with ⟨_, hj, _⟩ | ⟨_, hj⟩
      · exact .inl ⟨_, rfl, hj⟩
      · exact .inl ⟨_, rfl, hj⟩)
    have HK := Lib.hid hK
    clear hxs hK
    gi_wp2
    refine ⟨by simp, .inl ⟨_, _, rfl, run_takeDeferred HK.out, ?_⟩⟩
    have hturn : TurnsAny B W' (W'.putObj D (.deferred none)) := TurnsAny.of (grownBy_putObj' W' D _) (fun r e => by cases e; exact ⟨by omega, (Array.getElem?_eq_some_iff.1 HK.out).1⟩)
    refine ⟨_, by first | exact results_none rfl _ _ _ | rfl, ⟨_, rfl⟩, ?_⟩
    rcases HR.out with ⟨ys', e, hj⟩ | ⟨pre, hp, hj⟩
    · exact .inl ⟨ys', e, HAJ.out _ W' _ hj hturn⟩
    · exact .inr ⟨pre, hp, HAX.out _ W' _ hj hturn⟩

/-- Each, for a range over it. -/
theorem each5_stopsK (n : Nat) (hn : 12 ≤ n) (Br Bn g cap : Nat) (K₀ : Nat → Prop) (q : Option Addr) (xs : List Int) (hb : IsBytes xs) (hN : xs.length ≤ 1000000) (hcap : xs.length ≤ cap) (hq : 0 < xs.length → q = some ⟨g, 0, none⟩) (w : World)
    (hn₀ : ∀ i, K₀ i → i < w.heap.size) (lw : K₀ 0) (lb : K₀ Bn) (co : w.cell? ⟨Br, 0, none⟩ = some (.slice q xs.length cap)) (cn : w.cell? ⟨Bn, 0, none⟩ = some (.bool (!decide (chkNo xs = 0)))) (hx : ByS w (some ⟨g, 0, none⟩) xs) (hf : Fit3 w) :
    SeqStopsT Fence.wide n Tryd.prog 41 #[.pointer (some ⟨Br, 0, none⟩), .pointer (some ⟨Bn, 0, none⟩)] (fun x : Int × Ent => #[.int .i64 x.1, entV x.2]) K₀
      (fun ys => ys = eachP xs) (fun pre => pre <+: eachP xs) (manyP xs) w := fun l J Jx W hW hJ hJx hY h0 => by
  have co' := (hW.cell (p := ⟨Br, 0, none⟩) (World.block_lt_of_cell? _ _ co)).trans co
  have cn' := (hW.cell (p := ⟨Bn, 0, none⟩) (World.block_lt_of_cell? _ _ cn)).trans cn
  by_cases hk : chkNo xs = 0
  · rw [decide_eq_true hk] at cn'
    exact each5_yes n hn l Br Bn g cap K₀ xs hb hN hcap q hq hk J Jx W hJ hJx hY (fun i hi => Nat.lt_of_lt_of_le (hn₀ i hi) hW.size) lw lb co' cn' (hx.below hW) (hf.below hW) h0
  · rw [decide_eq_false hk] at cn'
    exact each5_no n hn l Br Bn g cap K₀ xs hb hN hcap q hq hk J Jx W hJ hJx hY (fun i hi => Nat.lt_of_lt_of_le (hn₀ i hi) hW.size) lw lb co' cn' (hx.below hW) (hf.below hW) h0
end Go.Proofs.YtehhablobfaplaaDoor
