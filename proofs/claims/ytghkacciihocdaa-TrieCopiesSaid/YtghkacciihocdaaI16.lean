/- The library's AppendSeq and Collect at the places on the way down. -/
import Derived.Test.YtghkacciihocdaaI15
import Derived.Test.YtghkacciihocdaaS11
namespace Go.Proofs.Ytghkacciihocdaa
open Go Go.RowKit Go.Shelf Go.Sort
attribute [local go_sem] Oper.semAt_some
namespace T6

/-- What Collect leaves. -/
def Collected (B : Nat) (p : Key) (Done : World → Prop) (w : World) (v : Value) (W : World) : Prop :=
  ∃ acc D gs c cur, v = .slice (some ⟨gs, 0, none⟩) acc.length c ∧ Blk W gs 109 cur ∧ (∀ j (h : j < acc.length), cur[j]? = some (.pointer (some (acc[j]'h)))) ∧ acc.length ≤ 33 ∧ D 0 = Done ∧ Steps B acc D ∧ ApEnd B p acc D W ∧ Below w.heap.size w W
set_option maxRecDepth 100000 in
set_option maxHeartbeats 1600000 in
theorem appSeq_any (B bt bp g : Nat) (t : Tr) (p : Key) (y : Int) (hp : p.length ≤ 32) (T : TypeId) (cs : Array Value) (Done : World → Prop) (w : World) (hB : B ≤ w.heap.size) (hbt : bt < w.heap.size) (hbp : bp < w.heap.size) (hbx : Boxes bt bp g p w) (ht : ∃ v1 v2, Blk w g 73 #[.bool true, v1, v2]) (hw : t.WF) (hy : (p, y) ∈ t.rows)
    (hs : DSpot B p Done ⟨g, 1, none⟩ T cs t w) (hD : ∀ W W', Done W → KeptC B W W' → Done W') :
    Calls Try.prog 85 #[.slice none 0 0, .func (.func 77) #[] #[.pointer (some ⟨bt, 0, none⟩), .pointer (some ⟨bp, 0, none⟩)]] w fun e w' => ∃ v, e = .returned v ∧ Collected B p Done w v w' := by
  refine callsIn_wide (n := 6) |>.1 ?_
  refine callsIn_of_wp_marks Try.func85 rfl trivial ?_ rfl
  simp only [Try.ntmps85, List.size_toArray, List.length_cons, List.length_nil, Nat.reduceAdd, Nat.reduceSub, Array.replicate_succ, Array.replicate_zero, List.push_toArray, List.append_toArray, List.nil_append, List.cons_append]
  have hb0 := box_below w (.cells #[.slice none 0 0] 118)
  have hlb := Blk.new w 118 #[.slice none 0 0]
  have hz0 : (w.alloc (.cells #[.slice none 0 0] 118)).heap.size = w.heap.size + 1 := by simp
  have hst0 : Steps B [] (fun _ => Done) := ⟨fun i h => by simp at h, fun _ W W' h hk => hD W W' h hk⟩
  have hdm := depth_most hw
  have hI0 : ∀ W, Below (w.alloc (.cells #[.slice none 0 0] 118)).heap.size (w.alloc (.cells #[.slice none 0 0] 118)) W → StD bt bp g p (ApI B w bt bp g p Done) (ApF B w p Done) W := fun W hb => by
    have hbw := hb0.trans (hb.mono (by omega))
    obtain ⟨v1, v2, ht⟩ := ht
    exact ⟨hbx.below hbw, ⟨v1, v2, ht.below hbw ht.lt⟩, t.depth, [], fun _ => Done, T, cs, t, y, rfl, by simpa using hdm, hw, hy, rfl, hst0, hs.keptC (KeptC.calls hbw), ⟨_, hlb.below hb hlb.lt, World.ownsRow_nil _ _ _ _⟩, hbx.below hbw, hbw⟩
  have HI0 := Lib.hid hI0
  have HDM := Lib.hid hdm
  clear hI0 hlb hb0 hst0 hs hD ht hy hbx hdm
  gi_wp2_with fail
  generalize (w.alloc (.cells #[.slice none 0 0] 118)) = W3 at *
  refine wpIn_rangeFunc_D1 (σ := Nat × Addr) rfl (by decide) (gf := 77) (lb := #[.pointer (some ⟨bt, 0, none⟩), .pointer (some ⟨bp, 0, none⟩)]) rfl trivial (enters_of Try.func77 (by kernel_rfl) rfl)
    (down_iter 5 (by decide) bt bp g p hp W3) StD_mono StpD_mono (Below.refl _ _) (fun _ => rfl)
    (ApI B w bt bp g p Done) (ApI' B w bt bp g p Done) (fun _ _ => False) (ApF B w p Done)
    (ownC_of fun s A B h hk => h.keptC hk (by omega) (by omega)) (ownC_of fun s A B h hk => h.keptC hk (by omega) (by omega)) (fun c _ _ _ h _ => h) (ownC_of fun _ A B h hk => h.keptC hk (by omega) (by omega))
    HI0.out (fun s W h => h.step)
    (fun s => { tmps := #[.slice none 0 0, .func (.func 77) #[] #[.pointer (some ⟨bt, 0, none⟩), .pointer (some ⟨bp, 0, none⟩)], .pointer (some ⟨w.heap.size, 0, none⟩), undef, .slice none 0 0, .pointer (some s.2), .func (.func 77) #[] #[.pointer (some ⟨bt, 0, none⟩), .pointer (some ⟨bp, 0, none⟩)], .pointer (some s.2), undef, undef, undef, undef, undef], defers := [] })
    ?assign ?body ?done ?stop
  case assign =>
    rintro l ⟨m, a⟩ W K hK
    unfold encD
    gi_wp2
    exact hK
  case stop => exact fun _ _ _ _ h => h.elim
  case body =>
    rintro l ⟨m, a⟩ W ⟨acc, D, T, cs, u, y, h1, h2, h3, h4, h5, h6, h7, ⟨v0, h8, h9⟩, h10, h11⟩
    dsimp only at h1 h2 h7 ⊢
    rcases u with _ | ⟨b, k, h, v, l', r⟩
    · simp [Tr.rows] at h4
    have HR := Lib.hid (fun W3 hc hb hbw hP => ApI.round (g := g) (bt := bt) (bp := bp) (w := w) (W3 := W3) h1 h2 h3 h4 h5 h6 h7 hc hb hbw hP)
    have HX := Lib.hid (And.intro h8 (And.intro h9 (And.intro h10 h11)))
    have l0 := h8.cell 0
    simp only [List.getElem?_toArray, List.getElem?_cons_zero] at l0
    obtain ⟨i0, hi, hz0', hz1, hz2⟩ := info_parts infoPP
    have HI := Lib.hid (And.intro hi (And.intro hz0' (And.intro hz1 hz2)))
    have hacc : acc.length ≤ 33 := by omega
    have hzW : w.heap.size + 1 ≤ W.heap.size := h8.lt
    clear h1 h2 h3 h4 h5 h6 h7 h8 h9 h10 h11 hi hz0' hz1 hz2
    gi_wp2_with (gi_at_builtin; refine wpListIn_append_own _ rfl _ _ 118 rfl (w.heap.size + 1) 109 i0 (.pointer none) 1 8 Try.underlying118 HI.out.1 HI.out.2.1 HI.out.2.2.1 HI.out.2.2.2 rfl (by decide) _ _ _ rfl (own_past HX.out.2.1 ((Below.refl _ _).alloc (Nat.le_refl _) _)) ⟨W.heap.size, 0, none⟩ 1 1 [.pointer (some a)] rfl rfl ?c1 ?c2 ?c3 ?c4 ?c5 ?_)
    case c1 =>
      intro q u hq
      match q, hq with
      | 0, hq => simp at hq; subst hq; simp [Addr.add]
      | q + 1, hq => simp at hq
    case c2 =>
      intro u hu
      simp at hu
      subst hu
      rfl
    case c3 => unfold maxLen; omega
    case c4 => omega
    case c5 => simp; omega
    intro v2 wn hown hgrow _
    have hal : Below W.heap.size W (W.alloc (.cells #[.pointer (some a)] 109)) := (Below.refl _ _).alloc (Nat.le_refl _) _
    obtain ⟨m1, m2, m3, m4, m5, m6⟩ := ApC.more HX.out.1 HX.out.2.1 hB HX.out.2.2.1 hbt hbp HX.out.2.2.2 hal hgrow hown
    have w1 := m6.cell 0
    have w2 := m6.frozen 0
    simp only [List.getElem?_toArray, List.getElem?_cons_zero] at w1
    obtain ⟨gr, cr, rfl⟩ := ownsRow_succ hown
    have HM := Lib.hid (And.intro m5 (HR.out _ m1 m3 m4 m2))
    clear m1 m2 m3 m4 m5 m6 hal hgrow hown HR
    gi_wp2_with fail
    exact ⟨by rw [hz0]; exact HM.out.1, HM.out.2⟩
  case done =>
    rintro D W hD ⟨acc, DD, h1, h2, h3, h4, ⟨v0, hl0, ho0⟩, h6⟩ hK
    simp only [Exit.inBlock]
    obtain ⟨A, c, rfl⟩ := own_slice ho0
    have l0 := hl0.cell 0
    simp only [List.getElem?_toArray, List.getElem?_cons_zero] at l0
    have HH := Lib.hid (And.intro h1 (And.intro h2 (And.intro h3 (And.intro h4 h6))))
    have hne : 0 < acc.length := by
      obtain ⟨a, b, hh, v, l, r, e, _⟩ := h4
      cases acc with
      | nil => simp at e
      | cons => simp
    obtain ⟨gs, rfl⟩ : ∃ gs, A = some ⟨gs, 0, none⟩ := by
      obtain ⟨gs, cap, e⟩ := own_is ho0 hne
      injection e with e
      exact ⟨gs, e⟩
    obtain ⟨cur, hcur⟩ : ∃ cur, Blk W gs 109 cur := by
      rcases ho0.2 with ⟨e, _⟩ | ⟨g', cap, cur, e, _, hh, _⟩
      · cases e
      · cases e; exact ⟨cur, hh⟩
    have hcc : ∀ j (h : j < acc.length), cur[j]? = some (.pointer (some (acc[j]'h))) := fun j h => by
      have := ho0.cells (g := gs) rfl j ((addrs acc)[j]'(by simpa [addrs] using h)) (List.getElem?_eq_getElem _)
      rw [Addr.add_lit, Nat.zero_add, hcur.cell] at this
      rw [this]; simp [addrs]
    have HO := Lib.hid (And.intro hcur hcc)
    clear ho0 hl0 hcur hcc hne h1 h2 h3 h4 h6
    gi_wp2_with fail
    refine ⟨by simp, .inl ⟨_, _, rfl, run_takeDeferred hK, ?_⟩⟩
    have hg1 := grownBy_putObj' W D (.deferred none)
    obtain ⟨h1, h2, h3, h4, h6⟩ := HH.out
    have hkc : KeptC D W (W.putObj D (.deferred none)) := ⟨hg1.size, hg1.os, hg1.tape, hg1.output, fun k o ho hc => (hg1.block k (Array.getElem?_eq_some_iff.1 ho).1 (fun e => by
      cases e
      rcases hc with hc | hc
      · omega
      · rw [hK] at ho; cases ho; cases hc)).trans ho⟩
    refine ⟨.slice (some ⟨gs, 0, none⟩) acc.length c, ?_, .slice (some ⟨gs, 0, none⟩) acc.length c, rfl, acc, DD, gs, c, cur, rfl, blkC HO.out.1 hkc, HO.out.2, h1, h2, h3, h4.keptC (hkc.low (by omega)), hkc.below h6 (by omega) h6.size⟩
    simp [results, Try.f85, go_sem]
theorem collect_any (B bt bp g : Nat) (t : Tr) (p : Key) (y : Int) (hp : p.length ≤ 32) (T : TypeId) (cs : Array Value) (Done : World → Prop) (w : World) (hB : B ≤ w.heap.size) (hbt : bt < w.heap.size) (hbp : bp < w.heap.size) (hbx : Boxes bt bp g p w) (ht : ∃ v1 v2, Blk w g 73 #[.bool true, v1, v2]) (hw : t.WF) (hy : (p, y) ∈ t.rows)
    (hs : DSpot B p Done ⟨g, 1, none⟩ T cs t w) (hD : ∀ W W', Done W → KeptC B W W' → Done W') :
    Calls Try.prog 71 #[.func (.func 77) #[] #[.pointer (some ⟨bt, 0, none⟩), .pointer (some ⟨bp, 0, none⟩)]] w fun e w' => ∃ v, e = .returned v ∧ Collected B p Done w v w' := by
  have HC := Lib.hid (appSeq_any B bt bp g t p y hp T cs Done w hB hbt hbp hbx ht hw hy hs hD)
  clear hs hD ht hy hbx
  go_enter Try.func71, Try.ntmps71
  go_wp2_with fail
  refine HC.out.mono ?_
  rintro e w1 ⟨v, rfl, hc⟩
  have HC1 := Lib.hid hc
  clear hc
  go_wp2_with fail
  go_ret
  exact ⟨_, rfl, HC1.out⟩
end T6
end Go.Proofs.Ytghkacciihocdaa
