/- The library's Backward, at the places on the way down; drop. -/
import Derived.Test.YtghkacciihocdaaI16
namespace Go.Proofs.Ytghkacciihocdaa
open Go Go.RowKit Go.Shelf Go.Sort
attribute [local go_sem] Oper.semAt_some
namespace T6

/-- The list that is gone over backward: its box, its row. -/
structure BkC (bs gs c : Nat) (acc : List Addr) (cur : Array Value) (W : World) : Prop where
  box : Blk W bs 118 #[.slice (some ⟨gs, 0, none⟩) acc.length c]
  row : Blk W gs 109 cur
  at_ : ∀ j (h : j < acc.length), cur[j]? = some (.pointer (some (acc[j]'h)))
theorem BkC.keptC {B bs gs c : Nat} {acc : List Addr} {cur : Array Value} {W W' : World} (h : BkC bs gs c acc cur W) (hk : KeptC B W W') : BkC bs gs c acc cur W' := ⟨blkC h.box hk, blkC h.row hk, h.at_⟩
def encB (acc : List Addr) (i : Nat) : Array Value := #[.int .i64 i, .pointer acc[i]?]
def StB (bs gs c : Nat) (acc : List Addr) (cur : Array Value) (J : Nat → World → Prop) (Fin : World → Prop) (W : World) : Prop := BkC bs gs c acc cur W ∧ (acc.length = 0 → Fin W) ∧ (0 < acc.length → J (acc.length - 1) W)
def StpB (bs gs c : Nat) (acc : List Addr) (cur : Array Value) (J : Nat → World → Prop) (Fin : World → Prop) (i : Nat) (W : World) : Prop := BkC bs gs c acc cur W ∧ (i = 0 → Fin W) ∧ (0 < i → J (i - 1) W)
theorem StB_mono {bs gs c : Nat} {acc : List Addr} {cur : Array Value} (J K : Nat → World → Prop) (A B : World → Prop) (W : World) (h : ∀ s, J s W → K s W) (hA : A W → B W) (hs : StB bs gs c acc cur J A W) : StB bs gs c acc cur K B W := ⟨hs.1, fun e => hA (hs.2.1 e), fun e => h _ (hs.2.2 e)⟩
theorem StpB_mono {bs gs c : Nat} {acc : List Addr} {cur : Array Value} (J K : Nat → World → Prop) (A B : World → Prop) (s : Nat) (W : World) (h : ∀ s, J s W → K s W) (hA : A W → B W) (hs : StpB bs gs c acc cur J A s W) : StpB bs gs c acc cur K B s W := ⟨hs.1, fun e => hA (hs.2.1 e), fun e => h _ (hs.2.2 e)⟩
theorem back_any (A : Option Addr) (n c : Nat) (w : World) : Calls Try.prog 72 #[.slice A n c] w fun e w' => e = .returned (.func (.func 86) #[] #[.pointer (some ⟨w.heap.size, 0, none⟩)]) ∧ w' = w.alloc (.cells #[.slice A n c] 118) := by
  go_enter Try.func72, Try.ntmps72
  go_wp2_with fail
  go_ret
  exact ⟨rfl, rfl⟩
set_option maxRecDepth 100000 in
set_option maxHeartbeats 1600000 in
theorem back_iter (n : Nat) (hn : 1 ≤ n) (bs gs c : Nat) (acc : List Addr) (cur : Array Value) (hlen : acc.length ≤ 33) (w0 : World) :
    IterC Fence.wide n Try.prog 86 #[.pointer (some ⟨bs, 0, none⟩)] (encB acc) (StB bs gs c acc cur) (StpB bs gs c acc cur) w0 := by
  intro l J J' Jx Fin W _ hJ hF hY hS ⟨hB, hz, hp⟩
  have HY := Lib.hid hY
  have HS := Lib.hid hS
  have HB := Lib.hid hB
  have HZ := Lib.hid hz
  have HP := Lib.hid hp
  have c0 := hB.box.cell 0
  simp only [List.getElem?_toArray, List.getElem?_cons_zero] at c0
  clear hJ hF hY hS hB hz hp
  simp only [List.append_toArray, List.cons_append, List.nil_append]
  refine callsIn_of_wp Try.func86 rfl trivial ?_ rfl
  simp only [Try.ntmps86, List.size_toArray, List.length_cons, List.length_nil, Nat.reduceAdd, Nat.reduceSub, Array.replicate_succ, Array.replicate_zero, List.push_toArray, List.append_toArray, List.nil_append, List.cons_append]
  have hwr : IntKind.i64.wrap ((acc.length : Int) - 1) = (acc.length : Int) - 1 := by rw [IntKind.wrap_i64]; omega
  gi_wp2_with fail
  gi_loopw [3] (fun i wr => ∃ k : Nat, k ≤ acc.length ∧ i = .int .i64 ((k : Int) - 1) ∧ Hid (BkC bs gs c acc cur wr) ∧ Hid (k = 0 → Fin wr) ∧ Hid (0 < k → J (k - 1) wr)) (fun i _ => (intOf i + 1).toNat)
  case atStart => exact ⟨acc.length, Nat.le_refl _, rfl, HB, HZ, HP⟩
  case round =>
    clear HB HZ HP c0
    obtain ⟨k, hk, rfl, HB, HZ, HP⟩ := hrel
    by_cases hk0 : k = 0
    · subst hk0
      have HFI := Lib.hid (HZ.out rfl)
      gi_wp2
      go_end0
      exact ⟨⟨_, rfl⟩, .inl HFI.out⟩
    · obtain ⟨j, rfl⟩ : ∃ j, k = j + 1 := ⟨k - 1, by omega⟩
      have hj : j < acc.length := by omega
      have hji : ((j + 1 : Nat) : Int) - 1 = j := by omega
      rw [hji]
      have c0 := HB.out.box.cell 0
      have cj := HB.out.row.cell j
      rw [HB.out.at_ j hj] at cj
      simp only [List.getElem?_toArray, List.getElem?_cons_zero] at c0
      obtain ⟨fn, tmps, assign, body, hy, hR⟩ := HY.out _ _ (HP.out (by omega))
      simp only [encB, Nat.add_sub_cancel, List.getElem?_eq_getElem hj] at hy
      have HR := Lib.hid hR
      have hji2 : (j : Int) < (acc.length : Int) := by omega
      have hji3 : (0 : Int) ≤ (j : Int) := by omega
      clear hR hji
      gi_wp2
      refine HR.out.mono ?_
      clear HR hy HB HZ HP
      rintro e W3 (⟨rfl, hJ3⟩ | ⟨rfl, hJx3⟩)
      · obtain ⟨h1, h2, h3⟩ := HS.out _ _ hJ3
        simp only [Nat.add_sub_cancel] at h2 h3
        have H1 := Lib.hid h1
        have H2 := Lib.hid h2
        have H3 := Lib.hid h3
        have hwj : IntKind.i64.wrap ((j : Int) - 1) = (j : Int) - 1 := by rw [IntKind.wrap_i64]; omega
        clear h1 h2 h3 hJ3
        gi_wp2
        go_roundw
        case rel => exact ⟨j, by omega, rfl, H1, H2, H3⟩
        case measure => simp [intOf]
      · have HX := Lib.hid hJx3
        clear hJx3
        gi_wp2
        refine bodyPost_ret (results_none rfl _ _ _) rfl ?_
        exact ⟨⟨_, rfl⟩, .inr HX.out⟩

/-- What drop's walk holds. -/
def DrI (bs gs c : Nat) (acc : List Addr) (cur : Array Value) (D : Nat → World → Prop) (i : Nat) (W : World) : Prop := i < acc.length ∧ D (i + 1) W ∧ BkC bs gs c acc cur W
def DrI' (bs gs c : Nat) (acc : List Addr) (cur : Array Value) (D : Nat → World → Prop) (i : Nat) (W : World) : Prop := i < acc.length ∧ D i W ∧ BkC bs gs c acc cur W
theorem DrI'.step {bs gs c : Nat} {acc : List Addr} {cur : Array Value} {D : Nat → World → Prop} {i : Nat} {W : World} (h : DrI' bs gs c acc cur D i W) : StpB bs gs c acc cur (DrI bs gs c acc cur D) (D 0) i W := by
  obtain ⟨h1, h2, h3⟩ := h
  refine ⟨h3, fun e => by subst e; exact h2, fun hp => ⟨by omega, ?_, h3⟩⟩
  rw [show i - 1 + 1 = i by omega]
  exact h2
set_option maxRecDepth 100000 in
set_option maxHeartbeats 1600000 in
theorem drop_any (B : Nat) (t : Tr) (p : Key) (y : Int) (hp : p.length ≤ 32) (w : World) (g : Nat) (n2 : Value) (hB : B ≤ w.heap.size) (hw : t.WF) (hy : (p, y) ∈ t.rows) (Done : World → Prop) (hD : ∀ W W', Done W → KeptC B W W' → Done W')
    (hs : DSpot B p Done ⟨g, 1, none⟩ 73 #[.bool true, .pointer (ptr t), n2] t w) :
    Calls Try.prog 52 #[.pointer (some ⟨g, 0, none⟩), pfx (kx p) (kn p)] w fun e w' => (∃ u, e = .returned u) ∧ Done w' := by
  refine callsIn_wide (n := 6) |>.1 ?_
  refine callsIn_of_wp_marks Try.func52 rfl trivial ?_ rfl
  simp only [Try.ntmps52, List.size_toArray, List.length_cons, List.length_nil, Nat.reduceAdd, Nat.reduceSub, Array.replicate_succ, Array.replicate_zero, List.push_toArray, List.append_toArray, List.nil_append, List.cons_append]
  have hb0 := box_below w (.cells #[.int .u32 (kx p), .int .i64 (kn p)] 34)
  have hpb := Blk.new w 34 #[.int .u32 (kx p), .int .i64 (kn p)]
  have d0 := hpb.cell 0
  have d1 := hpb.cell 1
  simp only [List.getElem?_toArray, List.getElem?_cons_zero, List.getElem?_cons_succ] at d0 d1
  have hz0 : (w.alloc (.cells #[.int .u32 (kx p), .int .i64 (kn p)] 34)).heap.size = w.heap.size + 1 := by simp
  have HS := Lib.hid hs
  have HB0 := Lib.hid hb0
  have HD := Lib.hid hD
  clear hpb hb0 hs hD
  gi_wp2_with fail
  generalize (w.alloc (.cells #[.int .u32 (kx p), .int .i64 (kn p)] 34)) = W1 at *
  refine ⟨trivial, ?_⟩
  refine (callsIn_wide.2 (down_any _ _ _ _)).mono ?_
  rintro e w3 ⟨rfl, rfl⟩
  rw [hz0]
  clear d0 d1
  have hbtA := Blk.new W1 24 #[.pointer (some ⟨g, 0, none⟩)]
  have hb3 := two_below W1 (.cells #[.pointer (some ⟨g, 0, none⟩)] 24) (.cells #[.int .u32 (kx p), .int .i64 (kn p)] 34)
  have hbpA := Blk.new (W1.alloc (.cells #[.pointer (some ⟨g, 0, none⟩)] 24)) 34 #[.int .u32 (kx p), .int .i64 (kn p)]
  have hz3 : ((W1.alloc (.cells #[.pointer (some ⟨g, 0, none⟩)] 24)).alloc (.cells #[.int .u32 (kx p), .int .i64 (kn p)] 34)).heap.size = w.heap.size + 3 := by simp [hz0]
  have hbtB := hbtA.alloc (.cells #[.int .u32 (kx p), .int .i64 (kn p)] 34)
  have hsA : (W1.alloc (.cells #[.pointer (some ⟨g, 0, none⟩)] 24)).heap.size = w.heap.size + 2 := by simp [hz0]
  rw [hsA] at hbpA
  rw [hz0] at hbtB
  clear hbtA
  have hw3 := HB0.out.trans (hb3.mono HB0.out.size)
  have hS3 := HS.out.keptC (KeptC.calls (B := B) hw3)
  have HC := Lib.hid (collect_any B (w.heap.size + 1) (w.heap.size + 2) g t p y hp 73 _ Done _ (by omega) (by rw [hz3]; omega) (by rw [hz3]; omega) ⟨hbtB.cell 0, hbpA.cell 0, hbpA.cell 1⟩ ⟨_, _, hS3.blk⟩ hw hy hS3 HD.out)
  have HW3 := Lib.hid hw3
  clear hsA hbtB hbpA hb3 hw3 hS3
  gi_wp2_with fail
  generalize ((W1.alloc (.cells #[.pointer (some ⟨g, 0, none⟩)] 24)).alloc (.cells #[.int .u32 (kx p), .int .i64 (kn p)] 34)) = W3 at *
  refine ⟨trivial, ?_⟩
  refine (callsIn_wide.2 HC.out).mono ?_
  rintro e w4 ⟨v, rfl, acc, D, gs, c, cur, rfl, hrow, hat, hlen, hD0, hst, ⟨a, b, hh, v0, l, r, hla, hca, hbb, hend⟩, hb4⟩
  have hne : 0 < acc.length := by
    cases acc with
    | nil => simp at hla
    | cons => simp
  have hlast : acc[acc.length - 1]'(by omega) = a := by
    rw [List.getLast?_eq_getElem?, List.getElem?_eq_getElem (by omega)] at hla
    exact Option.some.inj hla
  have cj := hrow.cell (acc.length - 1)
  rw [hat (acc.length - 1) (by omega), hlast] at cj
  have hbc := (cellN hbb).2.2.1
  have hbf := hbb.frozen 2
  have hP5 : PastC B [b] w4 (w4.setCell ⟨b, 2, none⟩ (.bool false)) := PastC.set_ _ _ _
  have hD5 := hend _ hP5 (by
    have := hbb.set_ 2 (.bool false)
    simpa [cellsN] using this)
  have hrow5 : Blk (w4.setCell ⟨b, 2, none⟩ (.bool false)) gs 109 cur := hrow.far (fun e => by
    simp only at e
    subst e
    have := blk_type hrow hbb
    revert this
    decide) _
  have hsz5 : w.heap.size ≤ (w4.setCell ⟨b, 2, none⟩ (.bool false)).heap.size := by
    have := HW3.out.size
    have := hb4.size
    simp only [World.setCell, Array.size_modify]; omega
  have hix : IntKind.i64.wrap ((acc.length : Int) - 1) = ((acc.length - 1 : Nat) : Int) := by rw [IntKind.wrap_i64]; omega
  have hix2 : ((acc.length - 1 : Nat) : Int) < (acc.length : Int) := by omega
  have HAT := Lib.hid hat
  have HST := Lib.hid hst
  have HD5 := Lib.hid hD5
  have HR5 := Lib.hid hrow5
  have HD0 := Lib.hid hD0
  clear HC hat hst hend hD5 hrow5 hrow hbb hb4 hP5 hla hlast hD0
  gi_wp2_with fail
  generalize (w4.setCell ⟨b, 2, none⟩ (.bool false)) = w5 at *
  refine ⟨trivial, ?_⟩
  refine (callsIn_wide.2 (back_any _ _ _ _)).mono ?_
  rintro e w6 ⟨rfl, rfl⟩
  have hb6 := box_below w5 (.cells #[.slice (some ⟨gs, 0, none⟩) acc.length c] 118)
  have hB6 : BkC w5.heap.size gs c acc cur (w5.alloc (.cells #[.slice (some ⟨gs, 0, none⟩) acc.length c] 118)) := ⟨Blk.new _ _ _, HR5.out.below hb6 HR5.out.lt, HAT.out⟩
  have hD6 := HST.out.kept _ _ _ HD5.out (KeptC.calls hb6)
  have hz6 : (w5.alloc (.cells #[.slice (some ⟨gs, 0, none⟩) acc.length c] 118)).heap.size = w5.heap.size + 1 := by simp
  have HB6 := Lib.hid hB6
  have HD6 := Lib.hid hD6
  clear hb6 hB6 hD6 hca cj hbc hbf HD5 HR5
  gi_wp2_with fail
  generalize (w5.alloc (.cells #[.slice (some ⟨gs, 0, none⟩) acc.length c] 118)) = W6 at *
  generalize w5.heap.size = bs at *
  have hI0 : ∀ W, Below W6.heap.size W6 W → StB bs gs c acc cur (DrI bs gs c acc cur D) (D 0) W := fun W hb => by
    have hk := KeptC.calls (B := B) hb
    refine ⟨HB6.out.keptC hk, fun e => by omega, fun _ => ⟨by omega, ?_, HB6.out.keptC hk⟩⟩
    rw [show acc.length - 1 + 1 = acc.length by omega]
    exact HST.out.kept _ _ _ HD6.out hk
  have HI0 := Lib.hid hI0
  clear hI0 hix hix2
  refine wpIn_rangeFunc_D1 (σ := Nat) rfl (by decide) (gf := 86) (lb := #[.pointer (some ⟨bs, 0, none⟩)]) rfl trivial (enters_of Try.func86 (by kernel_rfl) rfl)
    (back_iter 5 (by decide) bs gs c acc cur hlen W6) StB_mono StpB_mono (Below.refl _ _) (fun _ => rfl)
    (DrI bs gs c acc cur D) (DrI' bs gs c acc cur D) (fun _ _ => False) (D 0)
    (ownC_of fun s A B' h hk => ⟨h.1, HST.out.kept _ _ _ h.2.1 (hk.low (by omega)), h.2.2.keptC hk⟩) (ownC_of fun s A B' h hk => ⟨h.1, HST.out.kept _ _ _ h.2.1 (hk.low (by omega)), h.2.2.keptC hk⟩) (fun c _ _ _ h _ => h) (ownC_of fun _ A B' h hk => HST.out.kept _ _ _ h (hk.low (by omega)))
    HI0.out (fun s W h => h.step)
    (fun i => { tmps := #[.pointer (some ⟨g, 0, none⟩), pfx (kx p) (kn p), undef, .pointer (some ⟨w.heap.size, 0, none⟩), .slice (some ⟨gs, 0, none⟩) acc.length c, undef, .pointer acc[i]?, .pointer (some ⟨g, 0, none⟩), pfx (kx p) (kn p),
      .func (.func 77) #[] #[.pointer (some ⟨w.heap.size + 1, 0, none⟩), .pointer (some ⟨w.heap.size + 1 + 1, 0, none⟩)], .slice (some ⟨gs, 0, none⟩) acc.length c, .slice (some ⟨gs, 0, none⟩) acc.length c, .slice (some ⟨gs, 0, none⟩) acc.length c, .int .i64 acc.length, .int .i64 ((acc.length - 1 : Nat) : Int),
      .pointer (some ⟨gs, acc.length - 1, none⟩), .pointer (some a), .pointer (some a), .pointer (some ⟨b, 0, none⟩), .pointer (some ⟨b, 0, none⟩), .pointer (some ⟨b, 2, none⟩), .slice (some ⟨gs, 0, none⟩) acc.length c, .func (.func 86) #[] #[.pointer (some ⟨bs, 0, none⟩)], .int .i64 i, .pointer acc[i]?, undef, undef, undef, undef, undef, undef], defers := [] })
    ?assign ?body ?done ?stop
  case assign =>
    rintro l i W K hK
    unfold encB
    gi_wp2
    exact hK
  case stop => exact fun _ _ _ _ h => h.elim
  case body =>
    rintro l i W ⟨hi, hd, hbk⟩
    obtain ⟨b', k, h', v', l', r', hnear, ⟨T, cs, hkb, hkind⟩, hca, hfa, hbb, hdone⟩ := HST.out.step i hi W hd
    rw [List.getElem?_eq_getElem hi]
    have hbk2 : BkC bs gs c acc cur (W.setCell (acc[i]'hi) (.pointer (ptr (Tr.node b' k h' v' l' r').needed))) := by
      refine ⟨hbk.box.far (fun e => ?_) _, hbk.row.far (fun e => ?_) _, hbk.at_⟩
      · have := blk_type hkb (e ▸ hbk.box)
        rcases hkind with e2 | e2
        · rw [e2] at this; revert this; decide
        · rw [e2] at this; revert this; decide
      · have := blk_type hkb (e ▸ hbk.row)
        rcases hkind with e2 | e2
        · rw [e2] at this; revert this; decide
        · rw [e2] at this; revert this; decide
    generalize (acc[i]'hi) = a' at *
    have HND := Lib.hid (needed6_any k h' v' l' r' b' W hbb)
    have HK := Lib.hid (And.intro hdone hbk2)
    clear hd hbk hkb hkind hbb hdone hbk2
    have HIX := Lib.hid hi
    clear hi hnear
    gi_wp2_with fail
    refine ⟨trivial, ?_⟩
    refine (CallsIn.inRound l (callsIn_wide.2 HND.out)).mono ?_
    rintro e w7 ⟨rfl, rfl⟩
    gi_wp2_with fail
    exact ⟨(KeepsOthers.setCell _ _ _).from _, HIX.out, HK.out.1, HK.out.2⟩
  case done =>
    rintro D' W hD' hA hK
    simp only [Exit.inBlock]
    have HA := Lib.hid hA
    clear hA
    gi_wp2_with fail
    have hg1 := grownBy_putObj' W D' (.deferred none)
    have hkc : KeptC D' W (W.putObj D' (.deferred none)) := ⟨hg1.size, hg1.os, hg1.tape, hg1.output, fun k o ho hc => (hg1.block k (Array.getElem?_eq_some_iff.1 ho).1 (fun e => by
      cases e
      rcases hc with hc | hc
      · omega
      · rw [hK] at ho; cases ho; cases hc)).trans ho⟩
    have hfin := HST.out.kept _ _ _ HA.out (hkc.low (by omega))
    rw [HD0.out] at hfin
    refine ⟨by simp, .inl ⟨_, _, rfl, run_takeDeferred hK, ?_⟩⟩
    exact ⟨_, by simp [results, Try.f52, go_sem]; rfl, ⟨_, rfl⟩, hfin⟩
end T6
end Go.Proofs.Ytghkacciihocdaa
