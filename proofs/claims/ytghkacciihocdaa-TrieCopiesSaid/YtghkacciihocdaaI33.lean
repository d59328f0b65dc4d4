/- Merged by tools/merge.py: I30, I31, I32, I33. -/
import Derived.Test.YtghkacciihocdaaI29
import Derived.Lib.QuietBelowIn
import Derived.Sort.QuietTacIn
namespace Go.Proofs.Ytghkacciihocdaa
open Go Go.RowKit Go.Shelf Go.Sort
attribute [local go_sem] Oper.semAt_some
namespace T6

theorem sorted_sub {a b : List (Key × Int)} (ha : SRow a) (hb : SRow b) (h : ∀ x ∈ a, x ∈ b) : a.Sublist b := by
  induction b generalizing a with
  | nil =>
    cases a with
    | nil => exact .slnil
    | cons x a => exact absurd (h x (by simp)) (by simp)
  | cons y b ih =>
    cases a with
    | nil => exact List.nil_sublist _
    | cons x a =>
      have ha' := List.pairwise_cons.1 ha
      have hb' := List.pairwise_cons.1 hb
      rcases List.mem_cons.1 (h x (by simp)) with rfl | hx
      · refine .cons_cons _ (ih ha'.2 hb'.2 fun z hz => ?_)
        rcases List.mem_cons.1 (h z (by simp [hz])) with rfl | hz'
        · exact absurd (ha'.1 z hz) (by simp [klt_irrefl])
        · exact hz'
      · refine .cons _ (ih ha hb'.2 fun z hz => ?_)
        rcases List.mem_cons.1 (h z hz) with rfl | hz'
        · rcases List.mem_cons.1 hz with rfl | hz
          · exact hx
          · have h1 := ha'.1 z hz
            have h2 := hb'.1 x hx
            exact absurd (klt_trans h1 h2) (by simp [klt_irrefl])
        · exact hz'
theorem rows_same {a b : List (Key × Int)} (ha : SRow a) (hb : SRow b) (hl : a.length = b.length) (h : ∀ i (hi : i < a.length), getR b (a[i]'hi).1 = some (a[i]'hi).2) : a = b :=
  (sorted_sub ha hb fun x hx => by
    obtain ⟨i, hi, rfl⟩ := List.mem_iff_getElem.1 hx
    exact (get_some hb).1 (h i hi)).eq_of_length hl
theorem rows_get {a : List (Key × Int)} (ha : SRow a) (i : Nat) (hi : i < a.length) : getR a (a[i]'hi).1 = some (a[i]'hi).2 := (get_some ha).2 (List.getElem_mem hi)
theorem fromB_all (k : Key) (hk : k.length ≤ 32) : fromB 0 0 k = true := by
  have := kx_range hk
  unfold fromB ordF kn
  split
  · rfl
  · split
    · omega
    · rfl
theorem rows_fit : ∀ {t : Tr}, t.WF → ∀ r ∈ t.rows, r.1.length ≤ 32
  | .nil, _, r, h => by simp [Tr.rows] at h
  | .node b k h v l r, ⟨h1, h2, h3, _⟩, x, hx => by
    simp only [Tr.rows, List.mem_append] at hx
    rcases hx with hx | hx | hx
    · cases h <;> simp at hx
      subst hx; exact h1
    · exact rows_fit h2 x hx
    · exact rows_fit h3 x hx
theorem OwnT.fit {w W : World} {g : Nat} {L : List (Key × Int)} (h : OwnT w g L W) : ∀ r ∈ L, r.1.length ≤ 32 := by
  obtain ⟨t, h1, rfl, _⟩ := h
  exact rows_fit h1.wf
/-- A trie with these rows, or none, and no rows. -/
def MayT (w : World) (q : Option Addr) (L : List (Key × Int)) (W : World) : Prop := (q = none ∧ L = []) ∨ ∃ g, q = some ⟨g, 0, none⟩ ∧ OwnT w g L W
theorem MayT.below {w W W' : World} {q : Option Addr} {L : List (Key × Int)} (h : MayT w q L W) (hb : Below W.heap.size W W') : MayT w q L W' :=
  h.imp id fun ⟨g, h1, h2⟩ => ⟨g, h1, h2.below hb⟩
theorem MayT.keptC {B : Nat} {w W W' : World} {q : Option Addr} {L : List (Key × Int)} (h : MayT w q L W) (hk : KeptC B W W') (hB : w.heap.size ≤ B) : MayT w q L W' :=
  h.imp id fun ⟨g, h1, h2⟩ => ⟨g, h1, h2.keptC hk hB⟩
theorem MayT.srow {w W : World} {q : Option Addr} {L : List (Key × Int)} (h : MayT w q L W) : SRow L := by
  rcases h with ⟨_, rfl⟩ | ⟨g, _, h⟩
  · exact List.Pairwise.nil
  · exact h.srow
theorem MayT.fit {w W : World} {q : Option Addr} {L : List (Key × Int)} (h : MayT w q L W) : ∀ r ∈ L, r.1.length ≤ 32 := by
  rcases h with ⟨_, rfl⟩ | ⟨g, _, h⟩
  · intro r hr; simp at hr
  · exact h.fit
theorem isNoneM_any (w : World) (q : Option Addr) (L : List (Key × Int)) (W : World) (h : MayT w q L W) : Calls Try.prog 53 #[.pointer q] W fun e w' => e = .returned (.bool (!q.isSome)) ∧ Below W.heap.size W w' := by
  rcases h with ⟨rfl, _⟩ | ⟨g, rfl, h⟩
  · exact (isNone0_any W).mono fun _ _ ⟨h1, h2⟩ => ⟨h1, h2 ▸ Below.refl _ _⟩
  · obtain ⟨t, h1, _⟩ := h
    exact (isNone_any W g _ _ h1.own).mono fun _ _ ⟨h1, h2⟩ => ⟨h1, h2 ▸ Below.refl _ _⟩
theorem lenM_any (w : World) (q : Option Addr) (L : List (Key × Int)) (W : World) (h : MayT w q L W) : Calls Try.prog 26 #[.pointer q] W fun e w' => e = .returned (.int .i64 L.length) ∧ Below W.heap.size W w' := by
  rcases h with ⟨rfl, rfl⟩ | ⟨g, rfl, h⟩
  · exact (len0_any W).mono fun _ _ ⟨h1, h2⟩ => ⟨h1, h2 ▸ Below.refl _ _⟩
  · exact (lenT_any w g L W h).mono fun _ _ ⟨h1, h2⟩ => ⟨h1, h2 ▸ Below.refl _ _⟩
theorem getM_any (p : Key) (hp : p.length ≤ 32) (w : World) (q : Option Addr) (L : List (Key × Int)) (W : World) (h : MayT w q L W) :
    Calls Try.prog 12 #[.pointer q, pfx (kx p) (kn p)] W fun e w' => e = .returned (.tuple #[.int .i64 (valO (getR L p)), .bool (getR L p).isSome]) ∧ Below W.heap.size W w' := by
  rcases h with ⟨rfl, rfl⟩ | ⟨g, rfl, h⟩
  · have := kx_range hp
    exact getNo_any none _ _ this.1 this.2 W (.inl rfl)
  · exact getT_any p hp w g L W h
theorem fromM_any (x n : Int) (w : World) (q : Option Addr) (L : List (Key × Int)) (hcap : L.length ≤ 512) (W : World) (h : MayT w q L W) :
    Calls Try.prog 23 #[.pointer q, pfx x n] W fun e w' => ∃ v, e = .returned v ∧ SeqR w' v (L.filter (fun r => fromB x n r.1)) ∧ Below W.heap.size W w' := by
  rcases h with ⟨rfl, rfl⟩ | ⟨g, rfl, h⟩
  · exact (from_any .nil x n W none (.inl ⟨rfl, rfl⟩) (by simp [Tr.keys])).mono fun _ _ ⟨v, he, hs, hb⟩ => ⟨v, he, ⟨_, rfl, hs⟩, hb⟩
  · exact fromT_any x n w g L hcap W h
theorem filter_from {L : List (Key × Int)} (h : ∀ r ∈ L, r.1.length ≤ 32) : L.filter (fun r => fromB 0 0 r.1) = L := List.filter_eq_self.2 fun r hr => fromB_all _ (h r hr)
end T6
end Go.Proofs.Ytghkacciihocdaa

namespace Go.Proofs.Ytghkacciihocdaa
open Go Go.RowKit Go.Shelf Go.Sort
attribute [local go_sem] Oper.semAt_some
attribute [local irreducible] wpQuietIn
namespace T6

theorem asked_wide (o : Oper) (P : Program) (a : Act) (C : World → Prop) : o.askedIn Fence.wide P a C := by
  unfold Oper.askedIn
  intros
  trivial
/-- What Same holds while it goes over one: both tries, the box of the other, the answer. -/
structure SmC (w W0 : World) (qa qb : Option Addr) (La Lb : List (Key × Int)) (r : Bool) (W : World) : Prop where
  a : MayT w qa La W
  b : MayT w qb Lb W
  b0 : Blk W W0.heap.size 24 #[.pointer qb]
  b1 : Blk W (W0.heap.size + 1) 4 #[.bool r]
  bel : Below W0.heap.size W0 W
  lo : w.heap.size ≤ W0.heap.size
theorem SmC.keptC {B : Nat} {w W0 : World} {qa qb : Option Addr} {La Lb : List (Key × Int)} {r : Bool} {W W' : World} (h : SmC w W0 qa qb La Lb r W) (hk : KeptC B W W') (hB : W0.heap.size ≤ B) : SmC w W0 qa qb La Lb r W' :=
  ⟨h.a.keptC hk (Nat.le_trans h.lo hB), h.b.keptC hk (Nat.le_trans h.lo hB), blkC h.b0 hk, blkC h.b1 hk, hk.below h.bel hB h.bel.size, h.lo⟩
theorem SmC.below {w W0 : World} {qa qb : Option Addr} {La Lb : List (Key × Int)} {r : Bool} {W W' : World} (h : SmC w W0 qa qb La Lb r W) (hb : Below W.heap.size W W') : SmC w W0 qa qb La Lb r W' :=
  h.keptC (KeptC.calls (B := W.heap.size) hb) h.bel.size
def SmI (w W0 : World) (qa qb : Option Addr) (La Lb : List (Key × Int)) (l : List Snap) (i : Nat) (W : World) : Prop :=
  i < l.length ∧ SmC w W0 qa qb La Lb false W ∧ ∀ j (hj : j < l.length), j < i → getR Lb (l[j]'hj).k = some (l[j]'hj).v
def SmI' (w W0 : World) (qa qb : Option Addr) (La Lb : List (Key × Int)) (l : List Snap) (i : Nat) (W : World) : Prop :=
  i < l.length ∧ SmC w W0 qa qb La Lb false W ∧ ∀ j (hj : j < l.length), j < i + 1 → getR Lb (l[j]'hj).k = some (l[j]'hj).v
def SmX (W0 : World) (Lb : List (Key × Int)) (l : List Snap) (W : World) : Prop :=
  Blk W (W0.heap.size + 1) 4 #[.bool false] ∧ Below W0.heap.size W0 W ∧ ∃ j, ∃ hj : j < l.length, ¬ getR Lb (l[j]'hj).k = some (l[j]'hj).v
def SmF (w W0 : World) (qa qb : Option Addr) (La Lb : List (Key × Int)) (l : List Snap) (W : World) : Prop :=
  SmC w W0 qa qb La Lb false W ∧ ∀ j (hj : j < l.length), getR Lb (l[j]'hj).k = some (l[j]'hj).v
set_option maxRecDepth 100000 in
set_option maxHeartbeats 3200000 in
theorem same6_any (w : World) (qa qb : Option Addr) (La Lb : List (Key × Int)) (hla : La.length ≤ 512) (W : World) (hlo : w.heap.size ≤ W.heap.size) (ha : MayT w qa La W) (hb : MayT w qb Lb W) :
    Calls Try.prog 30 #[.pointer qa, .pointer qb] W fun e w' => e = .returned (.bool (decide (qa.isSome = qb.isSome ∧ La = Lb))) ∧ Below W.heap.size W w' := by
  have hb2 := two_below W (.cells #[.pointer qb] 24) (.cells #[.bool false] 4)
  have hx0 : Blk ((W.alloc (.cells #[.pointer qb] 24)).alloc (.cells #[.bool false] 4)) W.heap.size 24 #[.pointer qb] := (Blk.new W _ _).alloc _
  have hx1 : Blk ((W.alloc (.cells #[.pointer qb] 24)).alloc (.cells #[.bool false] 4)) (W.heap.size + 1) 4 #[.bool false] := by
    have := Blk.new (W.alloc (.cells #[.pointer qb] 24)) 4 #[.bool false]
    simpa using this
  have hC : SmC w W qa qb La Lb false ((W.alloc (.cells #[.pointer qb] 24)).alloc (.cells #[.bool false] 4)) := ⟨ha.below hb2, hb.below hb2, hx0, hx1, hb2, hlo⟩
  have HC := Lib.hid hC
  have hsa := ha.srow
  have hsb := hb.srow
  have hfa := ha.fit
  clear hb2 hx0 hx1 hC ha hb
  obtain ⟨res, hres⟩ : ∃ r, decide (qa.isSome = qb.isSome ∧ La = Lb) = r := ⟨_, rfl⟩
  rw [hres]
  refine callsIn_wide (n := 6) |>.1 ?_
  refine callsIn_of_wp_marks Try.func30 rfl trivial ?_ rfl
  simp only [Try.ntmps30, List.size_toArray, List.length_cons, List.length_nil, Nat.reduceAdd, Nat.reduceSub, Array.replicate_succ, Array.replicate_zero, List.push_toArray, List.append_toArray, List.nil_append, List.cons_append]
  gi_wp2_with fail
  generalize ((W.alloc (.cells #[.pointer qb] 24)).alloc (.cells #[.bool false] 4)) = W2 at *
  have k0 : ∀ d os, (grow (redrawn W2 d) os).cell? ⟨W.heap.size, 0, none⟩ = some (.pointer qb) := cell_regrown (HC.out.b0.cell 0)
  have cNa : ∀ d os, CallsIn Fence.wide (6 - 1) Try.prog 53 #[.pointer qa] (grow (redrawn W2 d) os) fun e w'' => e = .returned (.bool (!qa.isSome)) ∧ ∃ p : Regrown, w'' = grow (redrawn W2 p.d) p.os :=
    fun d os => CallsIn.regrown_of (callsIn_wide.2 (isNoneM_any w qa La _ (HC.out.a.below (below_regrown W2 d os))))
  have cNb : ∀ d os, CallsIn Fence.wide (6 - 1) Try.prog 53 #[.pointer qb] (grow (redrawn W2 d) os) fun e w'' => e = .returned (.bool (!qb.isSome)) ∧ ∃ p : Regrown, w'' = grow (redrawn W2 p.d) p.os :=
    fun d os => CallsIn.regrown_of (callsIn_wide.2 (isNoneM_any w qb Lb _ (HC.out.b.below (below_regrown W2 d os))))
  have cLa : ∀ d os, CallsIn Fence.wide (6 - 1) Try.prog 26 #[.pointer qa] (grow (redrawn W2 d) os) fun e w'' => e = .returned (.int .i64 La.length) ∧ ∃ p : Regrown, w'' = grow (redrawn W2 p.d) p.os :=
    fun d os => CallsIn.regrown_of (callsIn_wide.2 (lenM_any w qa La _ (HC.out.a.below (below_regrown W2 d os))))
  have cLb : ∀ d os, CallsIn Fence.wide (6 - 1) Try.prog 26 #[.pointer qb] (grow (redrawn W2 d) os) fun e w'' => e = .returned (.int .i64 Lb.length) ∧ ∃ p : Regrown, w'' = grow (redrawn W2 p.d) p.os :=
    fun d os => CallsIn.regrown_of (callsIn_wide.2 (lenM_any w qb Lb _ (HC.out.b.below (below_regrown W2 d os))))
  by_cases hN : qa.isSome = qb.isSome
  · have hNx : ∀ W, (binOp .neq 4 (.bool (!qa.isSome)) (.bool (!qb.isSome))).run Try.prog W = .ok (.bool false) W := fun W => by
      rw [hN]; cases qb.isSome <;> rfl
    by_cases hL : La.length = Lb.length
    · have hLx : ((Lb.length : Int) != (Lb.length : Int)) = false := by simp
      rw [hL] at cLa
      have HNL := Lib.hid (And.intro hN hL)
      clear hN hL
      generalize (!qa.isSome) = na at *
      generalize (!qb.isSome) = nb at *
      generalize (Lb.length : Int) = lb at *
      refine wpIn_region_quiet_below rfl (by kernel_rfl) (by kernel_rfl) ?_
      repeat (refine wpQuietIn_step (asked_wide _ _ _ _) (fun K hK => ?_); go_simp; first | (refine hK _ ?_; clear hK K) | (apply Exists.intro; refine ⟨fun _ => ?_, hK _ ?_⟩; (first | (with_reducible exact cNa _ _) | (with_reducible exact cNb _ _) | (with_reducible exact cLa _ _) | (with_reducible exact cLb _ _)); clear hK K))
      refine wpQuietIn_nil ?_
      intro W3 hW3
      obtain ⟨⟨dq, osq⟩, rfl⟩ := hW3
      have hC3 := HC.out.below (below_regrown W2 dq osq)
      generalize grow (redrawn W2 dq) osq = W3 at *
      have HC3 := Lib.hid hC3
      have c1 := hC3.b1.cell 0
      have f1 := hC3.b1.frozen 0
      simp only [List.getElem?_toArray, List.getElem?_cons_zero] at c1
      clear hC3 cNa cNb cLa cLb k0 hNx hLx HC
      gi_wp2_with fail
      refine ⟨trivial, ?_⟩
      refine (callsIn_wide.2 (fromM_any 0 0 w qa La hla W3 HC3.out.a)).mono ?_
      rintro e W4 ⟨v, rfl, ⟨l, hl, bs, As, cs, rfl, hT1, hT2⟩, hb4⟩
      rw [filter_from hfa] at hl
      have HC4 := Lib.hid (HC3.out.below hb4)
      have HTC : Hid (TC bs As cs l W4) := Lib.hid ⟨hT1, hT2⟩
      have HL := Lib.hid hl
      have hlz : l.length = La.length := by rw [← hl, List.length_map]
      clear hb4 hT1 hT2 HC3 c1 f1 hl
      gi_wp2_with fail
      have hlz2 : l.length ≤ 1000 := by omega
      have hI0 : ∀ V, Below W4.heap.size W4 V → StT bs As cs l (SmI w W qa qb La Lb l) (SmF w W qa qb La Lb l) V := fun V hb => by
        have hR := HC4.out.below hb
        refine ⟨HTC.out.keptC (KeptC.calls (B := W4.heap.size) hb), fun e => ⟨hR, fun j hj => absurd hj (by omega)⟩, fun h => ⟨h, hR, fun j hj hj0 => absurd hj0 (by omega)⟩⟩
      have HI0 := Lib.hid hI0
      have hSmT : ∀ V r, SmC w W qa qb La Lb r V → Below W4.heap.size W4 V → TC bs As cs l V := fun V r h hb => HTC.out.keptC (KeptC.calls (B := W4.heap.size) hb)
      clear hI0 hSmT
      have hz4 := HC4.out.b1.lt
      have hW4 := HC4.out.bel.size
      refine wpIn_rangeFunc_D (σ := Nat) rfl (by decide) (gf := 65) (lb := #[.pointer (some ⟨bs, 0, none⟩)]) rfl trivial (enters_of Try.func65 (by kernel_rfl) rfl)
        (told_iter 5 (by decide) bs As cs l (by omega) W4) StT_mono StpT_mono (Below.refl _ _) (fun _ => rfl)
        (fun i V => SmI w W qa qb La Lb l i V ∧ TC bs As cs l V) (fun i V => SmI' w W qa qb La Lb l i V ∧ TC bs As cs l V) (fun cd V => cd = .ret ∧ SmX W Lb l V) (SmF w W qa qb La Lb l)
        (ownC_of fun s A' B' h hk => ⟨⟨h.1.1, h.1.2.1.keptC hk (by omega), h.1.2.2⟩, h.2.keptC hk⟩) (ownC_of fun s A' B' h hk => ⟨⟨h.1.1, h.1.2.1.keptC hk (by omega), h.1.2.2⟩, h.2.keptC hk⟩) (fun cd => ownC_of fun _ A' B' h hk => ⟨h.1, blkC h.2.1 hk, hk.below h.2.2.1 (by omega) h.2.2.1.size, h.2.2.2⟩) (ownC_of fun _ A' B' h hk => ⟨h.1.keptC hk (by omega), h.2⟩)
        (fun V hb => ⟨(HI0.out V hb).1, (HI0.out V hb).2.1, fun h => ⟨(HI0.out V hb).2.2 h, (HI0.out V hb).1⟩⟩)
        (fun i V h => ⟨h.1.1, h.2, fun e => ⟨h.1.2.1, fun j hj => h.1.2.2 j hj (by omega)⟩, fun hlt => ⟨⟨hlt, h.1.2.1, h.1.2.2⟩, h.2⟩⟩)
        (fun i a' V => ∃ Bx, Blk V Bx 34 #[.int .u32 (kx (l[i]?.getD ⟨[], false, 0, none, none⟩).k), .int .i64 (kn (l[i]?.getD ⟨[], false, 0, none, none⟩).k)] ∧ a' = (⟨#[.pointer qa, .pointer qb, undef, .pointer (some ⟨W.heap.size, 0, none⟩), .pointer (some ⟨W.heap.size + 1, 0, none⟩), .pointer (some ⟨Bx, 0, none⟩), .int .i64 (l[i]?.getD ⟨[], false, 0, none, none⟩).v, undef, undef,
          .pointer qa, .bool na, .pointer qb, .bool nb, .bool false, .bool false, .pointer qa, .int .i64 lb, .pointer qb, .int .i64 lb, .bool false, .bool false, .pointer qa, .agg #[.int .u32 0, .int .i64 0], .func (.func 65) #[] #[.pointer (some ⟨bs, 0, none⟩)],
          pfx (kx (l[i]?.getD ⟨[], false, 0, none, none⟩).k) (kn (l[i]?.getD ⟨[], false, 0, none, none⟩).k), .int .i64 (l[i]?.getD ⟨[], false, 0, none, none⟩).v,
          undef, undef, undef, undef, undef, undef, undef, undef, undef, undef, undef, undef, undef], []⟩ : Act))
        (fun i a' => ownC_of fun _ A' B' ⟨Bx, h1, h3⟩ hk => ⟨Bx, blkC h1 hk, h3⟩) ?assign ?body ?done ?stop
      case assign =>
        rintro lp i V K hI hK
        have HII := Lib.hid hI
        unfold encT encS
        clear hI
        generalize (l[i]?.getD ⟨[], false, 0, none, none⟩) = sn at *
        gi_wp2
        exact hK _ _ ((KeepsOthers.alloc _ _).from _) ⟨⟨HII.out.1.1, HII.out.1.2.1.below (box_below V _), HII.out.1.2.2⟩, HII.out.2.keptC (KeptC.calls (B := V.heap.size) (box_below V _))⟩ ⟨V.heap.size, Blk.new V _ _, rfl⟩
      case body =>
        rintro lp i a' V ⟨⟨hi, hC, hP⟩, hTV⟩ ⟨Bx, hB, rfl⟩
        rw [List.getElem?_eq_getElem hi] at hB ⊢
        simp only [Option.getD_some] at hB ⊢
        have hkk : (l[i]'hi).k.length ≤ 32 := by
          have hm : snapR (l[i]'hi) ∈ La := by rw [← HL.out]; exact List.mem_map_of_mem (List.getElem_mem hi)
          exact hfa _ hm
        have HG := Lib.hid (getM_any (l[i]'hi).k hkk w qb Lb V hC.b)
        have HCC := Lib.hid hC
        have HP := Lib.hid hP
        have HTV := Lib.hid hTV
        have c0 := hC.b0.cell 0
        have cb0 := hB.cell 0
        have cb1 := hB.cell 1
        simp only [List.getElem?_toArray, List.getElem?_cons_zero, List.getElem?_cons_succ] at c0 cb0 cb1
        have HSN : Hid (∀ o, getR Lb (l[i]'hi).k = o → o = some (l[i]'hi).v → ∀ j (hj : j < l.length), j < i + 1 → getR Lb (l[j]'hj).k = some (l[j]'hj).v) := Lib.hid (fun o ho h2 j hj hji => by
          rcases Nat.lt_or_ge j i with h | h
          · exact HP.out j hj h
          · obtain rfl : j = i := by omega
            rw [ho, h2])
        have HSX : Hid (∀ o, getR Lb (l[i]'hi).k = o → o ≠ some (l[i]'hi).v → ∃ j, ∃ hj : j < l.length, ¬ getR Lb (l[j]'hj).k = some (l[j]'hj).v) := Lib.hid (fun o ho h2 => ⟨i, hi, by rw [ho]; exact h2⟩)
        generalize (l[i]'hi).v = v at *
        generalize (l[i]'hi).k = kk at *
        generalize kx kk = x at *
        generalize kn kk = n at *
        obtain ⟨o, ho⟩ : ∃ o, getR Lb kk = o := ⟨_, rfl⟩
        rw [ho] at HG
        have HSN' := Lib.hid (HSN.out o ho)
        have HSX' := Lib.hid (HSX.out o ho)
        clear hB hC hTV hP HSN HSX ho hkk
        have HII := hi
        gi_wp2_with fail
        refine ⟨trivial, ?_⟩
        refine (CallsIn.inRound lp (callsIn_wide.2 HG.out)).mono ?_
        rintro e V5 ⟨rfl, hb5⟩
        have HC5 := Lib.hid (HCC.out.below hb5)
        have HT5 := Lib.hid (HTV.out.keptC (KeptC.calls (B := V.heap.size) hb5))
        have HK5 : Hid (KeepsFrom W4.heap.size V V5) := Lib.hid ⟨hb5.size, fun k ob _ hk _ => (hb5.block k (Array.getElem?_eq_some_iff.1 hk).1).trans hk⟩
        have c15 := HC5.out.b1.cell 0
        have f15 := HC5.out.b1.frozen 0
        simp only [List.getElem?_toArray, List.getElem?_cons_zero] at c15
        clear hb5 HG HCC HTV c0 cb0 cb1
        have hX : o ≠ some v → KeepsFrom W4.heap.size V (V5.setCell ⟨W.heap.size + 1, 0, none⟩ (.bool false)) ∧ SmX W Lb l (V5.setCell ⟨W.heap.size + 1, 0, none⟩ (.bool false)) := fun hne => by
          have k1 := (KeepsOthers.setCell V5 ⟨W.heap.size + 1, 0, none⟩ (.bool false)).from W4.heap.size
          refine ⟨⟨Nat.le_trans HK5.out.1 k1.1, fun k ob h1 h2 h3 => k1.2 k ob h1 (HK5.out.2 k ob h1 h2 h3) h3⟩, ?_, HC5.out.bel.setCell (by simp) _, HSX'.out hne⟩
          have := HC5.out.b1.set_ 0 (.bool false)
          simpa using this
        have HX := Lib.hid hX
        clear hX
        cases o with
        | none =>
          simp only [valO, Option.getD, Option.isSome]
          gi_wp2_with fail
          exact ⟨(HX.out (by simp)).1, rfl, (HX.out (by simp)).2⟩
        | some u =>
          simp only [valO, Option.getD, Option.isSome]
          by_cases hu : u = v
          · gi_wp2_with fail
            exact ⟨HK5.out, ⟨HII, HC5.out, HSN'.out (by rw [hu])⟩, HT5.out⟩
          · gi_wp2_with fail
            exact ⟨(HX.out (by simp [hu])).1, rfl, (HX.out (by simp [hu])).2⟩
      case done =>
        intro D V hD ⟨hC, hP⟩ hK
        simp only [Exit.inBlock]
        have c1 := hC.b1.cell 0
        have f1 := hC.b1.frozen 0
        simp only [List.getElem?_toArray, List.getElem?_cons_zero] at c1
        have HCC := Lib.hid hC
        have hres1 : res = true := by
          rw [← hres]
          have : La = Lb := rows_same hsa hsb HNL.out.2 fun i hi => by
            have hi2 : i < l.length := by omega
            have e : La[i]'hi = snapR (l[i]'hi2) := by
              have := HL.out
              subst this
              simp
            rw [e]
            exact hP i hi2
          simp [this, HNL.out.1]
        clear hC hP
        gi_wp2_with fail
        have hKs : (V.setCell ⟨W.heap.size + 1, 0, none⟩ (.bool true)).heap[D]? = some (.deferred (some [])) :=
          (KeepsOthers.setCell V _ _).same D _ hK rfl
        have hb2 : Blk (V.setCell ⟨W.heap.size + 1, 0, none⟩ (.bool true)) (W.heap.size + 1) 4 #[.bool true] := by
          have := HCC.out.b1.set_ 0 (.bool true)
          simpa using this
        have hg1 := grownBy_putObj' (V.setCell ⟨W.heap.size + 1, 0, none⟩ (.bool true)) D (.deferred none)
        have hbel : Below W.heap.size W (V.setCell ⟨W.heap.size + 1, 0, none⟩ (.bool true)) := HCC.out.bel.setCell (by simp) _
        refine ⟨by simp, .inl ⟨_, _, rfl, run_takeDeferred hKs, ?_⟩⟩
        have hc : ((V.setCell ⟨W.heap.size + 1, 0, none⟩ (.bool true)).putObj D (.deferred none)).cell? ⟨W.heap.size + 1, 0, none⟩ = some (.bool true) := by
          have := (hb2.grown hg1 (fun e => by simp at e; omega)).cell 0
          simpa using this
        refine ⟨.bool true, ?_, by rw [hres1], hbel.grown hg1 hbel.size (fun k e => by cases e; omega)⟩
        simp [results, Try.f30, go_sem, hc]
      case stop =>
        rintro D cd V hD ⟨rfl, hb1, hbel, j, hj, hne⟩ hK
        refine wpIn_ret ?_
        simp only [Exit.inBlock]
        have hres1 : res = false := by
          rw [← hres]
          refine decide_eq_false fun h => hne ?_
          have e : La[j]'(by omega) = snapR (l[j]'hj) := by
            have := HL.out
            subst this
            simp
          have := rows_get hsa j (by omega)
          rw [e, h.2] at this
          exact this
        have hg1 := grownBy_putObj' V D (.deferred none)
        refine ⟨by simp, .inl ⟨_, _, rfl, run_takeDeferred hK, ?_⟩⟩
        have hc : (V.putObj D (.deferred none)).cell? ⟨W.heap.size + 1, 0, none⟩ = some (.bool false) := by
          have := (hb1.grown hg1 (fun e => by simp at e; omega)).cell 0
          simpa using this
        refine ⟨.bool false, ?_, by rw [hres1], hbel.grown hg1 hbel.size (fun k e => by cases e; omega)⟩
        simp [results, Try.f30, go_sem, hc]
    · have hLx : ((La.length : Int) != (Lb.length : Int)) = true := by
        simp
        omega
      have hv : decide (qa.isSome = qb.isSome ∧ La = Lb) = false := by
        have : ¬ La = Lb := fun e => hL (by rw [e])
        simp [this]
      have HR := Lib.hid (hres.symm.trans hv)
      clear hres hv hN hL
      generalize (!qa.isSome) = na at *
      generalize (!qb.isSome) = nb at *
      generalize (La.length : Int) = la at *
      generalize (Lb.length : Int) = lb at *
      refine wpIn_region_quiet_below rfl (by kernel_rfl) (by kernel_rfl) ?_
      repeat (refine wpQuietIn_step (asked_wide _ _ _ _) (fun K hK => ?_); go_simp; first | (refine hK _ ?_; clear hK K) | (apply Exists.intro; refine ⟨fun _ => ?_, hK _ ?_⟩; (first | (with_reducible exact cNa _ _) | (with_reducible exact cNb _ _) | (with_reducible exact cLa _ _) | (with_reducible exact cLb _ _)); clear hK K))
      refine wpQuietIn_nil ?_
      intro W3 hW3
      obtain ⟨⟨dq, osq⟩, rfl⟩ := hW3
      have hC3 := HC.out.below (below_regrown W2 dq osq)
      generalize grow (redrawn W2 dq) osq = W3 at *
      have HC3 := Lib.hid hC3
      have c1 := hC3.b1.cell 0
      have f1 := hC3.b1.frozen 0
      simp only [List.getElem?_toArray, List.getElem?_cons_zero] at c1
      clear hC3 cNa cNb cLa cLb k0 hNx hLx HC
      gi_wp2
      refine ⟨.bool res, ?_, rfl, HC3.out.bel.setCell (by simp) _⟩
      rw [HR.out]
      have hc : (W3.setCell ⟨W.heap.size + 1, 0, none⟩ (.bool false)).cell? ⟨W.heap.size + 1, 0, none⟩ = some (.bool false) := by
        have := (HC3.out.b1.set_ 0 (.bool false)).cell 0
        simpa using this
      simp [results, Try.f30, go_sem, hc]
  · have hNx : ∀ W, (binOp .neq 4 (.bool (!qa.isSome)) (.bool (!qb.isSome))).run Try.prog W = .ok (.bool true) W := fun W => by
      cases h1 : qa.isSome <;> cases h2 : qb.isSome <;> first | (exfalso; apply hN; rw [h1, h2]; done) | rfl
    have hv : decide (qa.isSome = qb.isSome ∧ La = Lb) = false := by simp [hN]
    have HR := Lib.hid (hres.symm.trans hv)
    clear hres hv hN
    generalize (!qa.isSome) = na at *
    generalize (!qb.isSome) = nb at *
    refine wpIn_region_quiet_below rfl (by kernel_rfl) (by kernel_rfl) ?_
    repeat (refine wpQuietIn_step (asked_wide _ _ _ _) (fun K hK => ?_); go_simp; first | (refine hK _ ?_; clear hK K) | (apply Exists.intro; refine ⟨fun _ => ?_, hK _ ?_⟩; (first | (with_reducible exact cNa _ _) | (with_reducible exact cNb _ _) | (with_reducible exact cLa _ _) | (with_reducible exact cLb _ _)); clear hK K))
    refine wpQuietIn_nil ?_
    intro W3 hW3
    obtain ⟨⟨dq, osq⟩, rfl⟩ := hW3
    have hC3 := HC.out.below (below_regrown W2 dq osq)
    generalize grow (redrawn W2 dq) osq = W3 at *
    have HC3 := Lib.hid hC3
    have c1 := hC3.b1.cell 0
    have f1 := hC3.b1.frozen 0
    simp only [List.getElem?_toArray, List.getElem?_cons_zero] at c1
    clear hC3 cNa cNb cLa cLb k0 hNx HC
    gi_wp2
    refine ⟨.bool res, ?_, rfl, HC3.out.bel.setCell (by simp) _⟩
    rw [HR.out]
    have hc : (W3.setCell ⟨W.heap.size + 1, 0, none⟩ (.bool false)).cell? ⟨W.heap.size + 1, 0, none⟩ = some (.bool false) := by
      have := (HC3.out.b1.set_ 0 (.bool false)).cell 0
      simpa using this
    simp [results, Try.f30, go_sem, hc]
end T6
end Go.Proofs.Ytghkacciihocdaa

namespace Go.Proofs.Ytghkacciihocdaa
open Go Go.RowKit Go.Shelf Go.Sort
attribute [local go_sem] Oper.semAt_some
namespace T6

theorem copy0_any (w : World) : Calls Try.prog 29 #[.pointer none] w fun e w' => e = .returned (.pointer none) ∧ w = w' := by
  go_enter Try.func29, Try.ntmps29
  go_wp2_with fail
  refine (isNone0_any _).mono ?_
  rintro e w1 ⟨rfl, rfl⟩
  go_wp2_with fail
  go_ret
  exact ⟨rfl, rfl⟩
/-- The key number i: i times 4096, 20 bits. -/
def kI (i : Nat) : Key := bitsOf ((i : Int) * 4096) 20
theorem right20 (x : Int) : right (x * 4096) 20 := by
  refine ⟨by decide, by decide, ?_⟩
  have h : wgt (20 : Int).toNat = 4096 := by decide
  unfold cutTo top
  rw [h]
  omega
theorem kI_is (i : Nat) (h : i < 1048576) : kx (kI i) = (i : Int) * 4096 ∧ kn (kI i) = 20 ∧ (kI i).length ≤ 32 :=
  kp_bitsOf (by omega) (by omega) (right20 i)
theorem kI_klt {i j : Nat} (hi : i < 1048576) (hj : j < 1048576) : klt (kI i) (kI j) = decide (i < j) := by
  have a := kI_is i hi
  have b := kI_is j hj
  have h := ord_klt a.2.2 b.2.2
  rw [a.1, a.2.1, b.1, b.2.1] at h
  unfold ordF at h
  by_cases hl : i < j
  · rw [decide_eq_true hl]
    refine h.1 ?_
    rw [if_neg (by omega), if_pos (.inl (by omega))]
    decide
  · rw [decide_eq_false hl]
    cases hk : klt (kI i) (kI j) with
    | false => rfl
    | true =>
      have := h.2 hk
      split at this
      · cases this
      · rw [if_neg (by omega)] at this
        cases this
/-- The first n of them, each with its number. -/
def LI (n : Nat) : List (Key × Int) := (List.range n).map (fun i => (kI i, (i : Int)))
theorem LI_len (n : Nat) : (LI n).length = n := by simp [LI]
theorem LI_get {n j : Nat} (hj : j < 1048576) (h : n ≤ j) : getR (LI n) (kI j) = none := get_none.2 fun v hv => by
  simp only [LI, List.mem_map, List.mem_range] at hv
  obtain ⟨i, hi, e⟩ := hv
  simp only [Prod.mk.injEq] at e
  have := kI_klt (i := i) (j := j) (by omega) hj
  rw [e.1, klt_irrefl] at this
  have := of_decide_eq_false this.symm
  omega
theorem LI_zero {n : Nat} (hn : 0 < n) (hs : SRow (LI n)) : getR (LI n) (kI 0) = some 0 := (get_some hs).2 (by
  simp only [LI, List.mem_map, List.mem_range]
  exact ⟨0, hn, rfl⟩)
theorem LI_put {n j : Nat} (hj : j < 1048576) (h : n ≤ j) (v : Int) : putL (LI n) (kI j) v = LI n ++ [(kI j, v)] := by
  unfold putL
  have h1 : (LI n).filter (fun r => klt r.1 (kI j)) = LI n := List.filter_eq_self.2 fun r hr => by
    simp only [LI, List.mem_map, List.mem_range] at hr
    obtain ⟨i, hi, rfl⟩ := hr
    simp only [kI_klt (i := i) (j := j) (by omega) hj]
    exact decide_eq_true (by omega)
  have h2 : (LI n).filter (fun r => klt (kI j) r.1) = [] := filter_none fun r hr => by
    simp only [LI, List.mem_map, List.mem_range] at hr
    obtain ⟨i, hi, rfl⟩ := hr
    simp only [kI_klt (i := j) (j := i) hj (by omega)]
    exact decide_eq_false (by omega)
  rw [h1, h2]
theorem LI_next {n : Nat} (hn : n ≤ 600) : putL (LI n) (kI n) n = LI (n + 1) := by
  rw [LI_put (by omega) (Nat.le_refl n)]
  simp [LI, List.range_succ]
end T6
end Go.Proofs.Ytghkacciihocdaa

namespace Go.Proofs.Ytghkacciihocdaa
open Go Go.RowKit Go.Shelf Go.Sort
attribute [local go_sem] Oper.semAt_some
namespace T6

theorem rows0_any (v : Value) (w : World) (h : SeqR w v []) : Calls Try.prog 20 #[v, .slice none 0 0, .int .i64 1] w fun e w' => e = .returned (.bool true) ∧ Below w.heap.size w w' := by
  obtain ⟨l, hl, bs, A, c, rfl, h1, h2⟩ := h
  obtain rfl : l = [] := List.map_eq_nil_iff.1 hl
  exact rows6_any bs A c [] none 0 [] 1 (by decide) (by decide) (by decide) rfl w ⟨h1, h2⟩ (LiesS.nil _ _)
set_option maxRecDepth 100000 in
set_option maxHeartbeats 6400000 in
theorem law06_none (c x n v a more : Int) (x0 : 0 ≤ x) (x1 : x < 4294967296) (a0 : 0 ≤ a) (a1 : a < 4294967296) (w : World) :
    Calls Try.prog 6 #[.agg #[.int .i64 c, .int .u32 x, .int .i64 n, .int .i64 v], .int .u32 a, .int .i64 more] w fun e w' => e = .returned (.bool true) ∧ Below w.heap.size w w' := by
  have hb0 := box_below w (.cells #[.int .i64 c, .int .u32 x, .int .i64 n, .int .i64 v] 36)
  have hx0 := Blk.new w 36 #[.int .i64 c, .int .u32 x, .int .i64 n, .int .i64 v]
  have HB0 := Lib.hid hb0
  have HX0 := Lib.hid hx0
  clear hb0 hx0
  go_enter Try.func6, Try.ntmps6
  by_cases h1 : more < -1
  · go_wp2_with fail
    refine (works6_any _).mono ?_
    rintro e w1 ⟨rfl, hb1⟩
    have HB1 := Lib.hid (HB0.out.trans (hb1.mono HB0.out.size))
    clear hb1
    go_wp2_with fail
    go_ret
    exact ⟨rfl, HB1.out⟩
  by_cases h2 : 1 < more
  · go_wp2_with fail
    refine (works6_any _).mono ?_
    rintro e w1 ⟨rfl, hb1⟩
    have HB1 := Lib.hid (HB0.out.trans (hb1.mono HB0.out.size))
    clear hb1
    go_wp2_with fail
    go_ret
    exact ⟨rfl, HB1.out⟩
  have k1 := HX0.out.cell 1
  have k2 := HX0.out.cell 2
  have k3 := HX0.out.cell 3
  simp only [List.getElem?_toArray, List.getElem?_cons_zero, List.getElem?_cons_succ] at k1 k2 k3
  go_wp2_with fail
  generalize (w.alloc (.cells #[.int .i64 c, .int .u32 x, .int .i64 n, .int .i64 v] 36)) = W0 at *
  refine (putNo_any none x n x0 x1 v W0 (.inl rfl)).mono ?_
  rintro e W1 ⟨rfl, hb⟩
  have HB1 := Lib.hid (HB0.out.trans (hb.mono HB0.out.size))
  have HX1 := Lib.hid (HX0.out.below hb HX0.out.lt)
  clear hb HB0 HX0 k1 k2 k3
  have k1 := HX1.out.cell 1
  have k2 := HX1.out.cell 2
  have k3 := HX1.out.cell 3
  simp only [List.getElem?_toArray, List.getElem?_cons_zero, List.getElem?_cons_succ] at k1 k2 k3
  go_wp2_with fail
  refine (takeNo_any none x n x0 x1 W1 (.inl rfl)).mono ?_
  rintro e W2 ⟨rfl, hb⟩
  have HB2 := Lib.hid (HB1.out.trans (hb.mono HB1.out.size))
  have HX2 := Lib.hid (HX1.out.below hb HX1.out.lt)
  clear hb HB1 HX1 k1 k2 k3
  have k1 := HX2.out.cell 1
  have k2 := HX2.out.cell 2
  have k3 := HX2.out.cell 3
  simp only [List.getElem?_toArray, List.getElem?_cons_zero, List.getElem?_cons_succ] at k1 k2 k3
  go_wp2_with fail
  refine (getNo_any none x n x0 x1 W2 (.inl rfl)).mono ?_
  rintro e W3 ⟨rfl, hb⟩
  have HB3 := Lib.hid (HB2.out.trans (hb.mono HB2.out.size))
  have HX3 := Lib.hid (HX2.out.below hb HX2.out.lt)
  clear hb HB2 HX2 k1 k2 k3
  have k1 := HX3.out.cell 1
  have k2 := HX3.out.cell 2
  have k3 := HX3.out.cell 3
  simp only [List.getElem?_toArray, List.getElem?_cons_zero, List.getElem?_cons_succ] at k1 k2 k3
  go_wp2_with fail
  refine (findNo_any a a0 a1 W3).mono ?_
  rintro e W4 ⟨rfl, hb⟩
  have HB4 := Lib.hid (HB3.out.trans (hb.mono HB3.out.size))
  have HX4 := Lib.hid (HX3.out.below hb HX3.out.lt)
  clear hb HB3 HX3 k1 k2 k3
  have k1 := HX4.out.cell 1
  have k2 := HX4.out.cell 2
  have k3 := HX4.out.cell 3
  simp only [List.getElem?_toArray, List.getElem?_cons_zero, List.getElem?_cons_succ] at k1 k2 k3
  go_wp2_with fail
  have hb := box_below W4 (.cells #[.int .u32 0, .int .i64 0] 34)
  have HB5 := Lib.hid (HB4.out.trans (hb.mono HB4.out.size))
  have HX5 := Lib.hid (HX4.out.below hb HX4.out.lt)
  clear hb HB4 HX4 k1 k2 k3
  generalize (W4.alloc (.cells #[.int .u32 0, .int .i64 0] 34)) = W5 at *
  have k1 := HX5.out.cell 1
  have k2 := HX5.out.cell 2
  have k3 := HX5.out.cell 3
  simp only [List.getElem?_toArray, List.getElem?_cons_zero, List.getElem?_cons_succ] at k1 k2 k3
  simp only [show noE none = 1 from rfl]
  refine (num6_any 1 _).mono ?_
  rintro e Vs ⟨rfl, rfl⟩
  go_wp2_with fail
  refine (num6_any 1 _).mono ?_
  rintro e Vs ⟨rfl, rfl⟩
  go_wp2_with fail
  refine (fromM_any x n w none [] (by decide) W5 (.inl ⟨rfl, rfl⟩)).mono ?_
  rintro e W6 ⟨q, rfl, hs, hb⟩
  have HS := Lib.hid hs
  clear hs
  have HB6 := Lib.hid (HB5.out.trans (hb.mono HB5.out.size))
  have HX6 := Lib.hid (HX5.out.below hb HX5.out.lt)
  clear hb HB5 HX5 k1 k2 k3
  have k1 := HX6.out.cell 1
  have k2 := HX6.out.cell 2
  have k3 := HX6.out.cell 3
  simp only [List.getElem?_toArray, List.getElem?_cons_zero, List.getElem?_cons_succ] at k1 k2 k3
  go_wp2_with fail
  refine (rows0_any q W6 HS.out).mono ?_
  rintro e W7 ⟨rfl, hb⟩
  clear HS
  have HB7 := Lib.hid (HB6.out.trans (hb.mono HB6.out.size))
  have HX7 := Lib.hid (HX6.out.below hb HX6.out.lt)
  clear hb HB6 HX6 k1 k2 k3
  have k1 := HX7.out.cell 1
  have k2 := HX7.out.cell 2
  have k3 := HX7.out.cell 3
  simp only [List.getElem?_toArray, List.getElem?_cons_zero, List.getElem?_cons_succ] at k1 k2 k3
  go_wp2_with fail
  refine (above6No_any none x n x0 x1 W7 (.inl rfl)).mono ?_
  rintro e W8 ⟨q2, rfl, hs, hb⟩
  have HS := Lib.hid (show SeqR W8 q2 [] from ⟨[], rfl, hs⟩)
  clear hs
  have HB8 := Lib.hid (HB7.out.trans (hb.mono HB7.out.size))
  have HX8 := Lib.hid (HX7.out.below hb HX7.out.lt)
  clear hb HB7 HX7 k1 k2 k3
  have k1 := HX8.out.cell 1
  have k2 := HX8.out.cell 2
  have k3 := HX8.out.cell 3
  simp only [List.getElem?_toArray, List.getElem?_cons_zero, List.getElem?_cons_succ] at k1 k2 k3
  go_wp2_with fail
  refine (rows0_any q2 W8 HS.out).mono ?_
  rintro e W9 ⟨rfl, hb⟩
  clear HS
  have HB9 := Lib.hid (HB8.out.trans (hb.mono HB8.out.size))
  have HX9 := Lib.hid (HX8.out.below hb HX8.out.lt)
  clear hb HB8 HX8 k1 k2 k3
  have k1 := HX9.out.cell 1
  have k2 := HX9.out.cell 2
  have k3 := HX9.out.cell 3
  simp only [List.getElem?_toArray, List.getElem?_cons_zero, List.getElem?_cons_succ] at k1 k2 k3
  go_wp2_with fail
  refine (len0_any _).mono ?_
  rintro e Vs ⟨rfl, rfl⟩
  go_wp2_with fail
  refine (nodes6_any0 W9).mono ?_
  rintro e W10 ⟨rfl, hb⟩
  have HB10 := Lib.hid (HB9.out.trans (hb.mono HB9.out.size))
  have HX10 := Lib.hid (HX9.out.below hb HX9.out.lt)
  clear hb HB9 HX9 k1 k2 k3
  have k1 := HX10.out.cell 1
  have k2 := HX10.out.cell 2
  have k3 := HX10.out.cell 3
  simp only [List.getElem?_toArray, List.getElem?_cons_zero, List.getElem?_cons_succ] at k1 k2 k3
  go_wp2_with fail
  refine (depthT_any0 W10).mono ?_
  rintro e W11 ⟨rfl, hb⟩
  have HB11 := Lib.hid (HB10.out.trans (hb.mono HB10.out.size))
  have HX11 := Lib.hid (HX10.out.below hb HX10.out.lt)
  clear hb HB10 HX10 k1 k2 k3
  have k1 := HX11.out.cell 1
  have k2 := HX11.out.cell 2
  have k3 := HX11.out.cell 3
  simp only [List.getElem?_toArray, List.getElem?_cons_zero, List.getElem?_cons_succ] at k1 k2 k3
  go_wp2_with fail
  refine (copy0_any _).mono ?_
  rintro e Vs ⟨rfl, rfl⟩
  go_wp2_with fail
  refine (same6_any w none none [] [] (by decide) W11 HB11.out.size (.inl ⟨rfl, rfl⟩) (.inl ⟨rfl, rfl⟩)).mono ?_
  rintro e W12 ⟨rfl, hb⟩
  have HB12 := Lib.hid (HB11.out.trans (hb.mono HB11.out.size))
  have HX12 := Lib.hid (HX11.out.below hb HX11.out.lt)
  clear hb HB11 HX11 k1 k2 k3
  have k1 := HX12.out.cell 1
  have k2 := HX12.out.cell 2
  have k3 := HX12.out.cell 3
  simp only [List.getElem?_toArray, List.getElem?_cons_zero, List.getElem?_cons_succ] at k1 k2 k3
  go_wp2_with fail
  refine (newT_any w W12 HB12.out).mono ?_
  rintro e W13 ⟨rfl, ho, hb⟩
  have HO := Lib.hid ho
  clear ho
  have HB13 := Lib.hid (HB12.out.trans (hb.mono HB12.out.size))
  have HX13 := Lib.hid (HX12.out.below hb HX12.out.lt)
  clear hb HB12 HX12 k1 k2 k3
  have k1 := HX13.out.cell 1
  have k2 := HX13.out.cell 2
  have k3 := HX13.out.cell 3
  simp only [List.getElem?_toArray, List.getElem?_cons_zero, List.getElem?_cons_succ] at k1 k2 k3
  go_wp2_with fail
  refine (same6_any w (some ⟨W12.heap.size, 0, none⟩) none [] [] (by decide) W13 HB13.out.size (.inr ⟨_, rfl, HO.out⟩) (.inl ⟨rfl, rfl⟩)).mono ?_
  rintro e W14 ⟨rfl, hb⟩
  clear HO
  have HB14 := Lib.hid (HB13.out.trans (hb.mono HB13.out.size))
  have HX14 := Lib.hid (HX13.out.below hb HX13.out.lt)
  clear hb HB13 HX13 k1 k2 k3
  have k1 := HX14.out.cell 1
  have k2 := HX14.out.cell 2
  have k3 := HX14.out.cell 3
  simp only [List.getElem?_toArray, List.getElem?_cons_zero, List.getElem?_cons_succ] at k1 k2 k3
  go_wp2_with fail
  refine (newT_any w W14 HB14.out).mono ?_
  rintro e W15 ⟨rfl, ho, hb⟩
  have HO := Lib.hid ho
  clear ho
  have HB15 := Lib.hid (HB14.out.trans (hb.mono HB14.out.size))
  have HX15 := Lib.hid (HX14.out.below hb HX14.out.lt)
  clear hb HB14 HX14 k1 k2 k3
  have k1 := HX15.out.cell 1
  have k2 := HX15.out.cell 2
  have k3 := HX15.out.cell 3
  simp only [List.getElem?_toArray, List.getElem?_cons_zero, List.getElem?_cons_succ] at k1 k2 k3
  go_wp2_with fail
  generalize W14.heap.size = g at *
  obtain ⟨N, hN, hN0, hN1⟩ : ∃ N : Nat, (N : Int) = 511 + more ∧ 510 ≤ N ∧ N ≤ 512 := ⟨(511 + more).toNat, by omega, by omega, by omega⟩
  clear k1 k2 k3 HX15 HB15
  go_loopw [20, 21, 22, 23] (fun i b1 b2 b3 wr => ∃ k : Nat, k ≤ N ∧ i = .int .i64 k ∧ Hid (OwnT w g (LI k) wr)) (fun i _ _ _ _ => N - (intOf i).toNat)
  case atStart => exact ⟨0, by omega, rfl, HO⟩
  case round =>
    obtain ⟨k, hk, rfl, HOk⟩ := hrel
    by_cases hlt : k < N
    · have hlt2 : (k : Int) < 511 + more := by omega
      have hk0 : (k : Int) ≤ 512 := by omega
      go_wp2_with fail
      refine (of6_any ((k : Int) * 4096) 20 wr).mono ?_
      rintro e wa ⟨rfl, hba⟩
      have HOa := Lib.hid (HOk.out.below hba)
      have hki := kI_is k (by omega)
      have HP := Lib.hid (putT_any (kI k) hki.2.2 (k : Int) w g (LI k) (by rw [LI_len]; omega) (.inr (by rw [LI_len]; omega)) wa HOa.out)
      rw [hki.1, hki.2.1, LI_get (by omega) (Nat.le_refl k), LI_next (by omega)] at HP
      clear hba HOk hki
      go_wp2_with fail
      refine HP.out.mono ?_
      rintro e wb ⟨rfl, hob, _⟩
      have HOb := Lib.hid hob
      clear hob HOa HP
      simp only [valO, Option.getD, Option.isSome]
      go_wp2_with fail
      refine (num6_any 0 _).mono ?_
      rintro e wx ⟨rfl, rfl⟩
      go_wp2_with fail
      go_roundw
      case rel => exact ⟨k + 1, by omega, by go_num, HOb⟩
      case measure => simp [intOf]; omega
    · have hlt2 : ¬ (k : Int) < 511 + more := by omega
      obtain rfl : k = N := by omega
      have hkl0 : kx (kI 1048575) = 4294963200 := by have := (kI_is 1048575 (by decide)).1; omega
      have hkl1 : kn (kI 1048575) = 20 := (kI_is 1048575 (by decide)).2.1
      have hk00 : kx (kI 0) = 0 := by have := (kI_is 0 (by decide)).1; omega
      have hk01 : kn (kI 0) = 20 := (kI_is 0 (by decide)).2.1
      go_wp2_with fail
      by_cases hN5 : k = 512
      · refine (of6_any 4294963200 20 wr).mono ?_
        rintro e wa ⟨rfl, hba⟩
        have HOa := Lib.hid (HOk.out.below hba)
        obtain rfl : k = 512 := hN5
        have hmr : (more == 1) = true := by simp; omega
        have hmm : min 512 (512 + more) = 512 := by omega
        clear hN hN0 hN1 hlt hlt2 hk
        have HP := Lib.hid (putTFull_any (kI 1048575) (kI_is 1048575 (by decide)).2.2 7 w g (LI 512) (LI_len 512) (LI_get (by decide) (by decide)) wa HOa.out)
        rw [hkl0, hkl1] at HP
        have hmem : (kI 0, (0 : Int)) ∈ LI 512 := by
          simp only [LI, List.mem_map, List.mem_range]
          exact ⟨0, by omega, rfl⟩
        have hl9 : (LI 512).length = 512 := LI_len 512
        generalize LI 512 = L9 at *
        clear hba HOk
        go_wp2_with fail
        refine HP.out.mono ?_
        rintro e wb ⟨rfl, hob, _⟩
        have HOb := Lib.hid hob
        clear hob HOa HP
        go_wp2_with fail
        refine (of6_any 0 20 _).mono ?_
        rintro e wa ⟨rfl, hba⟩
        have HOa := Lib.hid (HOb.out.below hba)
        have hg0 : getR L9 (kI 0) = some 0 := (get_some HOa.out.srow).2 hmem
        have hlen2 := put_len HOa.out.srow (kI 0) 8
        rw [hg0] at hlen2
        have HP := Lib.hid (putT_any (kI 0) (kI_is 0 (by decide)).2.2 8 w g L9 (by omega) (.inl (by rw [hg0]; rfl)) wa HOa.out)
        rw [hk00, hk01, hg0] at HP
        simp only [Option.isSome, if_true] at hlen2
        clear hba HOb hg0
        go_wp2_with fail
        refine HP.out.mono ?_
        rintro e wb ⟨rfl, hob, _⟩
        have HOb := Lib.hid hob
        clear hob HOa HP
        simp only [valO, Option.getD, Option.isSome]
        have HLN := Lib.hid (lenT_any w g (putL L9 (kI 0) 8) wb HOb.out)
        rw [hlen2, hl9, show ((512 : Nat) : Int) = 512 from rfl] at HLN
        clear hlen2 hl9 hmem
        go_wp2_with fail
        refine (num6_any 3 _).mono ?_
        rintro e wx ⟨rfl, rfl⟩
        go_wp2_with fail
        refine (num6_any 0 _).mono ?_
        rintro e wx ⟨rfl, rfl⟩
        go_wp2_with fail
        refine HLN.out.mono ?_
        rintro e wx ⟨rfl, rfl⟩
        go_wp2_with fail
        refine (works6_any _).mono ?_
        rintro e wz ⟨rfl, hbz⟩
        have HBZ := Lib.hid (HOb.out.bel.trans (hbz.mono HOb.out.bel.size))
        clear hbz
        go_wp2_with fail
        go_ret
        exact ⟨rfl, HBZ.out⟩
      · refine (of6_any 4294963200 20 wr).mono ?_
        rintro e wa ⟨rfl, hba⟩
        have HOa := Lib.hid (HOk.out.below hba)
        have hmr : (more == 1) = false := by simp; omega
        have hl9 : (LI k ++ [(kI 1048575, (7 : Int))]).length = k + 1 := by rw [List.length_append, LI_len]; rfl
        have HP := Lib.hid (putT_any (kI 1048575) (kI_is 1048575 (by decide)).2.2 7 w g (LI k) (by rw [LI_len]; omega) (.inr (by rw [LI_len]; omega)) wa HOa.out)
        rw [hkl0, hkl1, LI_get (by decide) (by omega), LI_put (by decide) (by omega)] at HP
        have hmem : (kI 0, (0 : Int)) ∈ LI k ++ [(kI 1048575, (7 : Int))] := by
          refine List.mem_append_left _ ?_
          simp only [LI, List.mem_map, List.mem_range]
          exact ⟨0, by omega, rfl⟩
        generalize LI k ++ [(kI 1048575, (7 : Int))] = L9 at *
        clear hba HOk
        go_wp2_with fail
        refine HP.out.mono ?_
        rintro e wb ⟨rfl, hob, _⟩
        have HOb := Lib.hid hob
        clear hob HOa HP
        simp only [valO, Option.getD, Option.isSome]
        go_wp2_with fail
        refine (of6_any 0 20 _).mono ?_
        rintro e wa ⟨rfl, hba⟩
        have HOa := Lib.hid (HOb.out.below hba)
        have hg0 : getR L9 (kI 0) = some 0 := (get_some HOa.out.srow).2 hmem
        have hlen2 := put_len HOa.out.srow (kI 0) 8
        rw [hg0] at hlen2
        have HP := Lib.hid (putT_any (kI 0) (kI_is 0 (by decide)).2.2 8 w g L9 (by omega) (.inl (by rw [hg0]; rfl)) wa HOa.out)
        rw [hk00, hk01, hg0] at HP
        simp only [Option.isSome, if_true] at hlen2
        clear hba HOb hg0
        go_wp2_with fail
        refine HP.out.mono ?_
        rintro e wb ⟨rfl, hob, _⟩
        have HOb := Lib.hid hob
        clear hob HOa HP
        simp only [valO, Option.getD, Option.isSome]
        have HLN := Lib.hid (lenT_any w g (putL L9 (kI 0) 8) wb HOb.out)
        rw [hlen2] at HLN
        go_wp2_with fail
        refine (num6_any 0 _).mono ?_
        rintro e wx ⟨rfl, rfl⟩
        go_wp2_with fail
        refine (num6_any 0 _).mono ?_
        rintro e wx ⟨rfl, rfl⟩
        go_wp2_with fail
        refine HLN.out.mono ?_
        rintro e wx ⟨rfl, rfl⟩
        go_wp2_with fail
        refine (works6_any _).mono ?_
        rintro e wz ⟨rfl, hbz⟩
        have HBZ := Lib.hid (HOb.out.bel.trans (hbz.mono HOb.out.bel.size))
        clear hbz
        go_wp2_with fail
        go_ret
        exact ⟨rfl, HBZ.out⟩
end T6
end Go.Proofs.Ytghkacciihocdaa
