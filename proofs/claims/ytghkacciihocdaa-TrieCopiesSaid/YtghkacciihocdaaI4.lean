/- Layer 6's program: Common at bits; toward. -/
import Derived.Test.YtghkacciihocdaaI3
import Derived.Test.YtghkacciihocdaaS6
namespace Go.Proofs.Ytghkacciihocdaa
open Go Go.RowKit Go.Sort
attribute [local go_sem] Oper.semAt_some
attribute [local irreducible] wpQuiet
namespace T6

theorem comK_lcp {a b : Key} (ha : a.length ≤ 32) (hb : b.length ≤ 32) {k : Nat} (h : ComK (kx a) (kn a) (kx b) (kn b) k) : cutTo (kx a) k = kx (lcp a b) ∧ (k : Int) = kn (lcp a b) := by
  obtain ⟨h1, h2, h3, h4⟩ := h
  unfold kn at h1 h2 h4
  have h1' : k ≤ a.length := by omega
  have h2' : k ≤ b.length := by omega
  have l1 := (lcp_left a b).length_le
  have l2 := (lcp_right a b).length_le
  have e : k = (lcp a b).length := by
    rcases Nat.lt_trichotomy k (lcp a b).length with hlt | he | hgt
    · exfalso
      refine h4 (by omega) (by omega) ?_
      rw [kx_bit ha (by omega), kx_bit hb (by omega), lcp_next hlt]
    · exact he
    · exfalso
      have h5 := h3 (lcp a b).length hgt
      rw [kx_bit ha (by omega), kx_bit hb (by omega)] at h5
      exact lcp_end (by omega) (by omega) (bool_of h5 (by simp; omega) (by simp; omega))
  subst e
  exact ⟨by rw [cut_take ha l1, prefix_take (lcp_left a b)], rfl⟩
theorem common6_any (a b : Key) (ha : a.length ≤ 32) (hb : b.length ≤ 32) (w : World) :
    Calls Try.prog 81 #[pfx (kx a) (kn a), pfx (kx b) (kn b)] w fun e w' => e = .returned (.tuple #[pfx (kx (lcp a b)) (kn (lcp a b)), .int .i64 0]) ∧ Below w.heap.size w w' := by
  have ra := kx_range ha
  have rb := kx_range hb
  refine (common_any (kx a) (kn a) (kx b) (kn b) ra.1 ra.2 rb.1 rb.2 (kp_right ha) (kp_right hb) w).mono ?_
  rintro e w' ⟨⟨k, hk, rfl⟩, hbw⟩
  obtain ⟨e1, e2⟩ := comK_lcp ha hb hk
  rw [e1, e2]
  exact ⟨rfl, hbw⟩
theorem eqPfx_run (x n y m : Int) (w : World) : (binOp .eql 34 (pfx x n) (pfx y m)).run Try.prog w = .ok (.bool (x == y && n == m)) w := by
  simp [go_sem, pfx]
  by_cases h1 : x = y <;> by_cases h2 : n = m <;> simp [h1, h2]
theorem kp_eq {a b : Key} (ha : a.length ≤ 32) (hb : b.length ≤ 32) : (kx a == kx b && kn a == kn b) = decide (a = b) := by
  by_cases h : a = b
  · subst h; simp
  · rw [decide_eq_false h]
    by_cases h1 : kx a = kx b
    · by_cases h2 : kn a = kn b
      · exact absurd (kp_inj ha hb h1 h2) h
      · simp [h2]
    · simp [h1]
theorem toward0_any (p : Key) (w : World) :
    Calls Try.prog 67 #[.pointer none, pfx (kx p) (kn p)] w fun e w' => (∃ b, w.heap.size ≤ b ∧ e = .returned (.pointer (some ⟨b, 0, none⟩)) ∧ Blk w' b 81 (cellsN p false 0 .nil .nil)) ∧ Below w.heap.size w w' := by
  have b2 := Blk.new w 34 #[.int .u32 (kx p), .int .i64 (kn p)]
  have d0 := b2.cell 0
  have d1 := b2.cell 1
  simp only [List.getElem?_toArray, List.getElem?_cons_zero, List.getElem?_cons_succ] at d0 d1
  clear b2
  go_enter Try.func67, Try.ntmps67
  go_wp2_with fail
  go_ret
  refine ⟨⟨_, ?_, rfl, ?_⟩, (box_below w _).trans ((box_below _ _).mono (by simp))⟩
  · simp
  · have := Blk.new (w.alloc (.cells #[.int .u32 (kx p), .int .i64 (kn p)] 34)) 81 (cellsN p false 0 .nil .nil)
    simpa [cellsN, ptr] using this
/-- Where the node that stands in a node's place lies, what it holds, and what is beneath it. -/
theorem ready_go {P : Program} {md : Region.Mode} {ops : Array Oper} {Q : Exit → Act → World → Prop} {S : World → Prop} {fuel : Nat} {listed : Array Bool} {a : Act} {w : World} {i : Nat} {o : Oper} (hr : Region.ready md ops listed = [i]) (ho : ops[i]? = some o)
    (hw : Region.wanted o (yielded ops a.tmps) = true) (h : ∀ K' : Act → World → Prop, Shut (∀ a w, S w → (S w → wpAnyH P md ops Q S fuel (listed.setIfInBounds i true) a w) → K' a w) → Oper.wp P o a w K' Q) : wpAnyH P md ops Q S (fuel + 1) listed a w := ready_call hr ho hw h
theorem lcp_same_iff {k p : Key} : lcp k p = k ↔ k <+: p := ⟨fun h => h ▸ lcp_right k p, lcp_of_prefix⟩

set_option maxRecDepth 100000 in
set_option maxHeartbeats 3200000 in
theorem toward_any (k p : Key) (hk : k.length ≤ 32) (hp : p.length ≤ 32) (h : Bool) (v : Int) (l r : Tr) (b : Nat) (w : World) (hb : Blk w b 81 (cellsN k h v l r)) :
    Calls Try.prog 67 #[.pointer (some ⟨b, 0, none⟩), pfx (kx p) (kn p)] w fun e w' =>
      ((k <+: p ∧ e = .returned (.pointer (some ⟨b, 0, none⟩))) ∨
       (¬ k <+: p ∧ ∃ f x, w.heap.size ≤ f ∧ lcp k p ++ [x] <+: k ∧ e = .returned (.pointer (some ⟨f, 0, none⟩)) ∧
         Blk w' f 81 (cellsN (lcp k p) false 0 (if x then .nil else .node b k h v l r) (if x then .node b k h v l r else .nil)))) ∧ Below w.heap.size w w' := by
  have HB := Lib.hid (box_below w (.cells #[.int .u32 (kx p), .int .i64 (kn p)] 34))
  have b2 := Blk.new w 34 #[.int .u32 (kx p), .int .i64 (kn p)]
  have hb' := hb.below HB.out hb.lt
  have hlc : (lcp k p).length ≤ 32 := Nat.le_trans (lcp_left k p).length_le hk
  have HC := Lib.hid (fun W => common6_any k p hk hp W)
  have HE := Lib.hid (fun W => eqPfx_run (kx (lcp k p)) (kn (lcp k p)) (kx k) (kn k) W)
  rw [kp_eq hlc hk] at HE
  have HD := Lib.hid (show decide (lcp k p = k) = decide (k <+: p) by simp only [lcp_same_iff])
  have HN : Hid (¬ k <+: p → ∃ x, lcp k p ++ [x] <+: k) := Lib.hid (fun hn => by
    rcases lcp_cases k p with h1 | h1 | ⟨c, x, m, n, e1, e2, e3⟩
    · exact absurd h1 hn
    · rw [lcp_comm, lcp_of_prefix h1]
      obtain ⟨m, rfl⟩ := h1
      cases m with
      | nil => exact absurd (by simp) hn
      | cons x m => exact ⟨x, ⟨m, by simp⟩⟩
    · exact ⟨x, ⟨m, by rw [e3, e1]; simp⟩⟩)
  have hpl := hb.lt
  have HBB := Lib.hid hb'
  have HS0 : Hid (∀ w', Below (w.alloc (.cells #[.int .u32 (kx p), .int .i64 (kn p)] 34)).heap.size (w.alloc (.cells #[.int .u32 (kx p), .int .i64 (kn p)] 34)) w' →
      w'.cell? ⟨b, 0, none⟩ = some (.int .u32 (kx k)) ∧ w'.cell? ⟨b, 1, none⟩ = some (.int .i64 (kn k)) ∧ w'.cell? ⟨w.heap.size, 0, none⟩ = some (.int .u32 (kx p)) ∧ w'.cell? ⟨w.heap.size, 1, none⟩ = some (.int .i64 (kn p))) := Lib.hid (fun w' hw => by
    have h1 := cellN (hb'.below hw hb'.lt)
    have h2 := b2.below hw b2.lt
    exact ⟨h1.1, h1.2.1, h2.cell 0, h2.cell 1⟩)
  have HBK : Hid (∀ (f : Nat) (x : Bool) (W : World), lcp k p ++ [x] <+: k → Blk W f 81 (cellsN (lcp k p) false 0 .nil .nil) → Calls Try.prog 79 #[.pointer (some ⟨f, 0, none⟩), pfx (kx k) (kn k)] W fun e w' => e = .returned (.pointer (some ⟨f, side x, none⟩)) ∧ Below W.heap.size W w') :=
    Lib.hid (fun f x W h1 h2 => beneath6_any (lcp k p) k x hk h1 false 0 .nil .nil f W h2)
  have HCN : Hid (∀ (c : Key), cellsN c false 0 .nil .nil = #[.int .u32 (kx c), .int .i64 (kn c), .bool false, .int .i64 0, .pointer none, .pointer none]) := Lib.hid (fun c => rfl)
  clear hb hb' b2 hk hp hlc
  rw [HD.out] at HE
  generalize lcp k p = c at *
  by_cases hq : k <+: p
  · have HQ := Lib.hid hq
    rw [decide_eq_true hq] at HE
    clear hq HD
    go_enter Try.func67, Try.ntmps67
    go_wp2_with fail
    have hsz : (w.alloc (.cells #[.int .u32 (kx p), .int .i64 (kn p)] 34)).heap.size = w.heap.size + 1 := by simp
    generalize (w.alloc (.cells #[.int .u32 (kx p), .int .i64 (kn p)] 34)) = W0 at *
    have hs0 : Below W0.heap.size W0 W0.drew := below_drew W0
    refine wp_region_noPanic ?_
    refine wp_region_held_drew (S := fun W => Below W0.heap.size W0 W) (by kernel_rfl) hs0 ?_
    intro _
    have HS := HS0
    generalize W0.drew = w0 at *
    refine wpAnyH_take (i := 0) (v := ?v14) (by rw [List.getElem?_toArray]; exact rfl) (by kernel_rfl) (by kernel_rfl) (by kernel_rfl) (fun _ _ _ h => h) (Or.inl ⟨by rfl, ?hy14⟩) (by assumption) ?rest14
    case hy14 => intro w hSw; (try dsimp only at hSw); obtain ⟨k0, k1, k2, k3⟩ := HS.out w hSw; go_simp; (try with_reducible rfl)
    try simp only [Act.put, List.setIfInBounds_toArray, List.set_cons_zero, List.set_cons_succ]
    refine wpAnyH_take (i := 1) (v := ?v15) (by rw [List.getElem?_toArray]; exact rfl) (by kernel_rfl) (by kernel_rfl) (by kernel_rfl) (fun _ _ _ h => h) (Or.inl ⟨by rfl, ?hy15⟩) (by assumption) ?rest15
    case hy15 => intro w hSw; (try dsimp only at hSw); obtain ⟨k0, k1, k2, k3⟩ := HS.out w hSw; go_simp; (try with_reducible rfl)
    try simp only [Act.put, List.setIfInBounds_toArray, List.set_cons_zero, List.set_cons_succ]
    refine wpAnyH_take (i := 2) (v := ?v16) (by rw [List.getElem?_toArray]; exact rfl) (by kernel_rfl) (by kernel_rfl) (by kernel_rfl) (fun _ _ _ h => h) (Or.inl ⟨by rfl, ?hy16⟩) (by assumption) ?rest16
    case hy16 => intro w hSw; (try dsimp only at hSw); obtain ⟨k0, k1, k2, k3⟩ := HS.out w hSw; go_simp; (try with_reducible rfl)
    try simp only [Act.put, List.setIfInBounds_toArray, List.set_cons_zero, List.set_cons_succ]
    refine wpAnyH_take (i := 3) (v := ?v17) (by rw [List.getElem?_toArray]; exact rfl) (by kernel_rfl) (by kernel_rfl) (by kernel_rfl) (fun _ _ _ h => h) (Or.inl ⟨by rfl, ?hy17⟩) (by assumption) ?rest17
    case hy17 => intro w hSw; (try dsimp only at hSw); obtain ⟨k0, k1, k2, k3⟩ := HS.out w hSw; go_simp; (try with_reducible rfl)
    try simp only [Act.put, List.setIfInBounds_toArray, List.set_cons_zero, List.set_cons_succ]
    refine wpAnyH_take (i := 4) (v := ?v18) (by rw [List.getElem?_toArray]; exact rfl) (by kernel_rfl) (by kernel_rfl) (by kernel_rfl) (fun _ _ _ h => h) (Or.inl ⟨by rfl, ?hy18⟩) (by assumption) ?rest18
    case hy18 => intro w hSw; (try dsimp only at hSw); obtain ⟨k0, k1, k2, k3⟩ := HS.out w hSw; go_simp; (try with_reducible rfl)
    try simp only [Act.put, List.setIfInBounds_toArray, List.set_cons_zero, List.set_cons_succ]
    refine ready_pair (i := 5) (j := 9) (by kernel_rfl) (by rw [List.getElem?_toArray]; exact rfl) (by rw [List.getElem?_toArray]; exact rfl) (by kernel_rfl) (by kernel_rfl) (fun K1 hK1 => ?_) (fun K1 hK1 => ?_)
    · go_simp
      refine (HC.out _).mono ?_
      rintro e w1 ⟨rfl, hbq⟩
      go_simp
      have hs1 := hs0.trans (hbq.mono hs0.size)
      refine hK1.out _ _ hs1 (fun hS1 => ?_)
      clear hK1 K1
      try simp only [Act.put, List.setIfInBounds_toArray, List.set_cons_zero, List.set_cons_succ]
      refine wpAnyH_take (i := 6) (v := ?v19) (by rw [List.getElem?_toArray]; exact rfl) (by kernel_rfl) (by kernel_rfl) (by kernel_rfl) (fun _ _ _ h => h) (Or.inl ⟨by rfl, ?hy19⟩) (by assumption) ?rest19
      case hy19 => intro w hSw; (try dsimp only at hSw); go_simp; (try with_reducible rfl)
      try simp only [Act.put, List.setIfInBounds_toArray, List.set_cons_zero, List.set_cons_succ]
      refine wpAnyH_take (i := 7) (v := ?v20) (by rw [List.getElem?_toArray]; exact rfl) (by kernel_rfl) (by kernel_rfl) (by kernel_rfl) (fun _ _ _ h => h) (Or.inl ⟨by rfl, ?hy20⟩) (by assumption) ?rest20
      case hy20 => intro w hSw; (try dsimp only at hSw); go_simp; (try with_reducible rfl)
      try simp only [Act.put, List.setIfInBounds_toArray, List.set_cons_zero, List.set_cons_succ]
      refine wpAnyH_take (i := 8) (v := ?v21) (by rw [List.getElem?_toArray]; exact rfl) (by kernel_rfl) (by kernel_rfl) (by kernel_rfl) (fun _ _ _ h => h) (Or.inl ⟨by rfl, ?hy21⟩) (by assumption) ?rest21
      case hy21 => intro w hSw; (try dsimp only at hSw); go_simp; (try with_reducible rfl)
      try simp only [Act.put, List.setIfInBounds_toArray, List.set_cons_zero, List.set_cons_succ]
      refine ready_call (i := 9) (by kernel_rfl) (by rw [List.getElem?_toArray]; exact rfl) (by kernel_rfl) (fun K1 hK1 => ?_)
      go_simp
      have hs2 := hs1.trans ((box_below w1 (.cells #[.int .u32 0, .int .i64 0] 34)).mono hs1.size)
      have hn2 := Blk.new w1 34 #[.int .u32 0, .int .i64 0]
      have hg2 : W0.heap.size ≤ w1.heap.size := hs1.size
      refine hK1.out _ _ hs2 (fun hS2 => ?_)
      clear hK1 K1
      try simp only [Act.put, List.setIfInBounds_toArray, List.set_cons_zero, List.set_cons_succ]
      generalize (w1.alloc (.cells #[.int .u32 0, .int .i64 0] 34)) = w2 at *
      generalize w1.heap.size = g2 at *
      have hSS := hS2
      have n0 := hn2.cell 0
      have n1 := hn2.cell 1
      simp only [List.getElem?_toArray, List.getElem?_cons_zero, List.getElem?_cons_succ] at n0 n1
      have f0 := hn2.frozen 0
      have f1 := hn2.frozen 1
      refine ready_call (i := 10) (by kernel_rfl) (by rw [List.getElem?_toArray]; exact rfl) (by kernel_rfl) (fun K1 hK1 => ?_)
      go_simp
      have hw3 : Below W0.heap.size W0 ((w2.setCell ⟨g2, 0, none⟩ (.int .u32 (kx c))).setCell ⟨g2, 1, none⟩ (.int .i64 (kn c))) := (hSS.setCell (p := ⟨g2, 0, none⟩) hg2 _).setCell (p := ⟨g2, 1, none⟩) hg2 _
      have hn4 : Blk ((w2.setCell ⟨g2, 0, none⟩ (.int .u32 (kx c))).setCell ⟨g2, 1, none⟩ (.int .i64 (kn c))) g2 34 #[.int .u32 (kx c), .int .i64 (kn c)] := by
        have := (hn2.set_ 0 (.int .u32 (kx c))).set_ 1 (.int .i64 (kn c))
        simpa using this
      refine hK1.out _ _ hw3 (fun _ => ?_)
      clear hK1 K1 n0 n1 f0 f1
      try simp only [Act.put, List.setIfInBounds_toArray, List.set_cons_zero, List.set_cons_succ]
      generalize ((w2.setCell ⟨g2, 0, none⟩ (.int .u32 (kx c))).setCell ⟨g2, 1, none⟩ (.int .i64 (kn c))) = w4 at *
      refine wpAnyH_take (i := 11) (v := ?v22) (by rw [List.getElem?_toArray]; exact rfl) (by kernel_rfl) (by kernel_rfl) (by kernel_rfl) (fun _ _ _ h => h) (Or.inl ⟨by rfl, ?hy22⟩) (by assumption) ?rest22
      case hy22 => intro w hSw; (try dsimp only at hSw); go_simp; (try with_reducible rfl)
      try simp only [Act.put, List.setIfInBounds_toArray, List.set_cons_zero, List.set_cons_succ]
      refine wpAnyH_done (by kernel_rfl) ?_ _
      refine NoPanic.normal ?_
      go_wp2_with fail
      obtain ⟨c0, c1, d0, d1⟩ := HS.out w4 hw3
      have n0 := hn4.cell 0
      have n1 := hn4.cell 1
      simp only [List.getElem?_toArray, List.getElem?_cons_zero, List.getElem?_cons_succ] at n0 n1
      have k00 := cell_regrown c0
      have k01 := cell_regrown c1
      have k10 := cell_regrown d0
      have k11 := cell_regrown d1
      have k20 := cell_regrown n0
      have k21 := cell_regrown n1
      have HBW := Lib.hid (HB.out.trans (hw3.mono HB.out.size))
      have he := HE.out
      clear c0 c1 d0 d1 n0 n1
      refine wp_region_quiet_below (by kernel_rfl) (by kernel_rfl) ?_
      repeat (quiet_step (fail))
      refine wpQuiet_nil ?_
      intro w3 hw3
      obtain ⟨⟨dq, osq⟩, rfl⟩ := hw3
      have hbq := below_regrown w4 dq osq
      have HB4 := Lib.hid (HBW.out.trans (hbq.mono HBW.out.size))
      have HB5 := Lib.hid (hw3.trans (hbq.mono hw3.size))
      have hn5 := hn4.below hbq hn4.lt
      generalize grow (redrawn w4 dq) osq = w5 at *
      clear k00 k01 k10 k11 k20 k21 he hbq
      go_wp2_with fail
      go_ret
      exact ⟨.inl ⟨HQ.out, rfl⟩, HB4.out⟩
    · go_simp
      have hs1 := hs0.trans ((box_below w0 (.cells #[.int .u32 0, .int .i64 0] 34)).mono hs0.size)
      have hn1 := Blk.new w0 34 #[.int .u32 0, .int .i64 0]
      have hg1 : W0.heap.size ≤ w0.heap.size := hs0.size
      refine hK1.out _ _ hs1 (fun hS1 => ?_)
      clear hK1 K1
      try simp only [Act.put, List.setIfInBounds_toArray, List.set_cons_zero, List.set_cons_succ]
      generalize (w0.alloc (.cells #[.int .u32 0, .int .i64 0] 34)) = wA at *
      generalize w0.heap.size = g2 at *
      refine ready_call (i := 5) (by kernel_rfl) (by rw [List.getElem?_toArray]; exact rfl) (by kernel_rfl) (fun K1 hK1 => ?_)
      go_simp
      refine (HC.out _).mono ?_
      rintro e w2 ⟨rfl, hbq⟩
      go_simp
      have hs3 := hs1.trans (hbq.mono hs1.size)
      have hn3 := hn1.below hbq hn1.lt
      refine hK1.out _ _ hs3 (fun hS3 => ?_)
      clear hK1 K1
      try simp only [Act.put, List.setIfInBounds_toArray, List.set_cons_zero, List.set_cons_succ]
      refine wpAnyH_take (i := 6) (v := ?v23) (by rw [List.getElem?_toArray]; exact rfl) (by kernel_rfl) (by kernel_rfl) (by kernel_rfl) (fun _ _ _ h => h) (Or.inl ⟨by rfl, ?hy23⟩) (by assumption) ?rest23
      case hy23 => intro w hSw; (try dsimp only at hSw); go_simp; (try with_reducible rfl)
      try simp only [Act.put, List.setIfInBounds_toArray, List.set_cons_zero, List.set_cons_succ]
      refine wpAnyH_take (i := 7) (v := ?v24) (by rw [List.getElem?_toArray]; exact rfl) (by kernel_rfl) (by kernel_rfl) (by kernel_rfl) (fun _ _ _ h => h) (Or.inl ⟨by rfl, ?hy24⟩) (by assumption) ?rest24
      case hy24 => intro w hSw; (try dsimp only at hSw); go_simp; (try with_reducible rfl)
      try simp only [Act.put, List.setIfInBounds_toArray, List.set_cons_zero, List.set_cons_succ]
      refine wpAnyH_take (i := 8) (v := ?v25) (by rw [List.getElem?_toArray]; exact rfl) (by kernel_rfl) (by kernel_rfl) (by kernel_rfl) (fun _ _ _ h => h) (Or.inl ⟨by rfl, ?hy25⟩) (by assumption) ?rest25
      case hy25 => intro w hSw; (try dsimp only at hSw); go_simp; (try with_reducible rfl)
      try simp only [Act.put, List.setIfInBounds_toArray, List.set_cons_zero, List.set_cons_succ]
      have hn2 := hn3
      have hSS := hS3
      have hg2 := hg1
      have n0 := hn2.cell 0
      have n1 := hn2.cell 1
      simp only [List.getElem?_toArray, List.getElem?_cons_zero, List.getElem?_cons_succ] at n0 n1
      have f0 := hn2.frozen 0
      have f1 := hn2.frozen 1
      refine ready_call (i := 10) (by kernel_rfl) (by rw [List.getElem?_toArray]; exact rfl) (by kernel_rfl) (fun K1 hK1 => ?_)
      go_simp
      have hw3 : Below W0.heap.size W0 ((w2.setCell ⟨g2, 0, none⟩ (.int .u32 (kx c))).setCell ⟨g2, 1, none⟩ (.int .i64 (kn c))) := (hSS.setCell (p := ⟨g2, 0, none⟩) hg2 _).setCell (p := ⟨g2, 1, none⟩) hg2 _
      have hn4 : Blk ((w2.setCell ⟨g2, 0, none⟩ (.int .u32 (kx c))).setCell ⟨g2, 1, none⟩ (.int .i64 (kn c))) g2 34 #[.int .u32 (kx c), .int .i64 (kn c)] := by
        have := (hn2.set_ 0 (.int .u32 (kx c))).set_ 1 (.int .i64 (kn c))
        simpa using this
      refine hK1.out _ _ hw3 (fun _ => ?_)
      clear hK1 K1 n0 n1 f0 f1
      try simp only [Act.put, List.setIfInBounds_toArray, List.set_cons_zero, List.set_cons_succ]
      generalize ((w2.setCell ⟨g2, 0, none⟩ (.int .u32 (kx c))).setCell ⟨g2, 1, none⟩ (.int .i64 (kn c))) = w4 at *
      refine wpAnyH_take (i := 11) (v := ?v26) (by rw [List.getElem?_toArray]; exact rfl) (by kernel_rfl) (by kernel_rfl) (by kernel_rfl) (fun _ _ _ h => h) (Or.inl ⟨by rfl, ?hy26⟩) (by assumption) ?rest26
      case hy26 => intro w hSw; (try dsimp only at hSw); go_simp; (try with_reducible rfl)
      try simp only [Act.put, List.setIfInBounds_toArray, List.set_cons_zero, List.set_cons_succ]
      refine wpAnyH_done (by kernel_rfl) ?_ _
      refine NoPanic.normal ?_
      go_wp2_with fail
      obtain ⟨c0, c1, d0, d1⟩ := HS.out w4 hw3
      have n0 := hn4.cell 0
      have n1 := hn4.cell 1
      simp only [List.getElem?_toArray, List.getElem?_cons_zero, List.getElem?_cons_succ] at n0 n1
      have k00 := cell_regrown c0
      have k01 := cell_regrown c1
      have k10 := cell_regrown d0
      have k11 := cell_regrown d1
      have k20 := cell_regrown n0
      have k21 := cell_regrown n1
      have HBW := Lib.hid (HB.out.trans (hw3.mono HB.out.size))
      have he := HE.out
      clear c0 c1 d0 d1 n0 n1
      refine wp_region_quiet_below (by kernel_rfl) (by kernel_rfl) ?_
      repeat (quiet_step (fail))
      refine wpQuiet_nil ?_
      intro w3 hw3
      obtain ⟨⟨dq, osq⟩, rfl⟩ := hw3
      have hbq := below_regrown w4 dq osq
      have HB4 := Lib.hid (HBW.out.trans (hbq.mono HBW.out.size))
      have HB5 := Lib.hid (hw3.trans (hbq.mono hw3.size))
      have hn5 := hn4.below hbq hn4.lt
      generalize grow (redrawn w4 dq) osq = w5 at *
      clear k00 k01 k10 k11 k20 k21 he hbq
      go_wp2_with fail
      go_ret
      exact ⟨.inl ⟨HQ.out, rfl⟩, HB4.out⟩
  · have HQ := Lib.hid hq
    rw [decide_eq_false hq] at HE
    clear hq HD
    go_enter Try.func67, Try.ntmps67
    go_wp2_with fail
    have hsz : (w.alloc (.cells #[.int .u32 (kx p), .int .i64 (kn p)] 34)).heap.size = w.heap.size + 1 := by simp
    generalize (w.alloc (.cells #[.int .u32 (kx p), .int .i64 (kn p)] 34)) = W0 at *
    have hs0 : Below W0.heap.size W0 W0.drew := below_drew W0
    refine wp_region_noPanic ?_
    refine wp_region_held_drew (S := fun W => Below W0.heap.size W0 W) (by kernel_rfl) hs0 ?_
    intro _
    have HS := HS0
    generalize W0.drew = w0 at *
    refine wpAnyH_take (i := 0) (v := ?v27) (by rw [List.getElem?_toArray]; exact rfl) (by kernel_rfl) (by kernel_rfl) (by kernel_rfl) (fun _ _ _ h => h) (Or.inl ⟨by rfl, ?hy27⟩) (by assumption) ?rest27
    case hy27 => intro w hSw; (try dsimp only at hSw); obtain ⟨k0, k1, k2, k3⟩ := HS.out w hSw; go_simp; (try with_reducible rfl)
    try simp only [Act.put, List.setIfInBounds_toArray, List.set_cons_zero, List.set_cons_succ]
    refine wpAnyH_take (i := 1) (v := ?v28) (by rw [List.getElem?_toArray]; exact rfl) (by kernel_rfl) (by kernel_rfl) (by kernel_rfl) (fun _ _ _ h => h) (Or.inl ⟨by rfl, ?hy28⟩) (by assumption) ?rest28
    case hy28 => intro w hSw; (try dsimp only at hSw); obtain ⟨k0, k1, k2, k3⟩ := HS.out w hSw; go_simp; (try with_reducible rfl)
    try simp only [Act.put, List.setIfInBounds_toArray, List.set_cons_zero, List.set_cons_succ]
    refine wpAnyH_take (i := 2) (v := ?v29) (by rw [List.getElem?_toArray]; exact rfl) (by kernel_rfl) (by kernel_rfl) (by kernel_rfl) (fun _ _ _ h => h) (Or.inl ⟨by rfl, ?hy29⟩) (by assumption) ?rest29
    case hy29 => intro w hSw; (try dsimp only at hSw); obtain ⟨k0, k1, k2, k3⟩ := HS.out w hSw; go_simp; (try with_reducible rfl)
    try simp only [Act.put, List.setIfInBounds_toArray, List.set_cons_zero, List.set_cons_succ]
    refine wpAnyH_take (i := 3) (v := ?v30) (by rw [List.getElem?_toArray]; exact rfl) (by kernel_rfl) (by kernel_rfl) (by kernel_rfl) (fun _ _ _ h => h) (Or.inl ⟨by rfl, ?hy30⟩) (by assumption) ?rest30
    case hy30 => intro w hSw; (try dsimp only at hSw); obtain ⟨k0, k1, k2, k3⟩ := HS.out w hSw; go_simp; (try with_reducible rfl)
    try simp only [Act.put, List.setIfInBounds_toArray, List.set_cons_zero, List.set_cons_succ]
    refine wpAnyH_take (i := 4) (v := ?v31) (by rw [List.getElem?_toArray]; exact rfl) (by kernel_rfl) (by kernel_rfl) (by kernel_rfl) (fun _ _ _ h => h) (Or.inl ⟨by rfl, ?hy31⟩) (by assumption) ?rest31
    case hy31 => intro w hSw; (try dsimp only at hSw); obtain ⟨k0, k1, k2, k3⟩ := HS.out w hSw; go_simp; (try with_reducible rfl)
    try simp only [Act.put, List.setIfInBounds_toArray, List.set_cons_zero, List.set_cons_succ]
    refine ready_pair (i := 5) (j := 9) (by kernel_rfl) (by rw [List.getElem?_toArray]; exact rfl) (by rw [List.getElem?_toArray]; exact rfl) (by kernel_rfl) (by kernel_rfl) (fun K1 hK1 => ?_) (fun K1 hK1 => ?_)
    · go_simp
      refine (HC.out _).mono ?_
      rintro e w1 ⟨rfl, hbq⟩
      go_simp
      have hs1 := hs0.trans (hbq.mono hs0.size)
      refine hK1.out _ _ hs1 (fun hS1 => ?_)
      clear hK1 K1
      try simp only [Act.put, List.setIfInBounds_toArray, List.set_cons_zero, List.set_cons_succ]
      refine wpAnyH_take (i := 6) (v := ?v32) (by rw [List.getElem?_toArray]; exact rfl) (by kernel_rfl) (by kernel_rfl) (by kernel_rfl) (fun _ _ _ h => h) (Or.inl ⟨by rfl, ?hy32⟩) (by assumption) ?rest32
      case hy32 => intro w hSw; (try dsimp only at hSw); go_simp; (try with_reducible rfl)
      try simp only [Act.put, List.setIfInBounds_toArray, List.set_cons_zero, List.set_cons_succ]
      refine wpAnyH_take (i := 7) (v := ?v33) (by rw [List.getElem?_toArray]; exact rfl) (by kernel_rfl) (by kernel_rfl) (by kernel_rfl) (fun _ _ _ h => h) (Or.inl ⟨by rfl, ?hy33⟩) (by assumption) ?rest33
      case hy33 => intro w hSw; (try dsimp only at hSw); go_simp; (try with_reducible rfl)
      try simp only [Act.put, List.setIfInBounds_toArray, List.set_cons_zero, List.set_cons_succ]
      refine wpAnyH_take (i := 8) (v := ?v34) (by rw [List.getElem?_toArray]; exact rfl) (by kernel_rfl) (by kernel_rfl) (by kernel_rfl) (fun _ _ _ h => h) (Or.inl ⟨by rfl, ?hy34⟩) (by assumption) ?rest34
      case hy34 => intro w hSw; (try dsimp only at hSw); go_simp; (try with_reducible rfl)
      try simp only [Act.put, List.setIfInBounds_toArray, List.set_cons_zero, List.set_cons_succ]
      refine ready_call (i := 9) (by kernel_rfl) (by rw [List.getElem?_toArray]; exact rfl) (by kernel_rfl) (fun K1 hK1 => ?_)
      go_simp
      have hs2 := hs1.trans ((box_below w1 (.cells #[.int .u32 0, .int .i64 0] 34)).mono hs1.size)
      have hn2 := Blk.new w1 34 #[.int .u32 0, .int .i64 0]
      have hg2 : W0.heap.size ≤ w1.heap.size := hs1.size
      refine hK1.out _ _ hs2 (fun hS2 => ?_)
      clear hK1 K1
      try simp only [Act.put, List.setIfInBounds_toArray, List.set_cons_zero, List.set_cons_succ]
      generalize (w1.alloc (.cells #[.int .u32 0, .int .i64 0] 34)) = w2 at *
      generalize w1.heap.size = g2 at *
      have hSS := hS2
      have n0 := hn2.cell 0
      have n1 := hn2.cell 1
      simp only [List.getElem?_toArray, List.getElem?_cons_zero, List.getElem?_cons_succ] at n0 n1
      have f0 := hn2.frozen 0
      have f1 := hn2.frozen 1
      refine ready_call (i := 10) (by kernel_rfl) (by rw [List.getElem?_toArray]; exact rfl) (by kernel_rfl) (fun K1 hK1 => ?_)
      go_simp
      have hw3 : Below W0.heap.size W0 ((w2.setCell ⟨g2, 0, none⟩ (.int .u32 (kx c))).setCell ⟨g2, 1, none⟩ (.int .i64 (kn c))) := (hSS.setCell (p := ⟨g2, 0, none⟩) hg2 _).setCell (p := ⟨g2, 1, none⟩) hg2 _
      have hn4 : Blk ((w2.setCell ⟨g2, 0, none⟩ (.int .u32 (kx c))).setCell ⟨g2, 1, none⟩ (.int .i64 (kn c))) g2 34 #[.int .u32 (kx c), .int .i64 (kn c)] := by
        have := (hn2.set_ 0 (.int .u32 (kx c))).set_ 1 (.int .i64 (kn c))
        simpa using this
      refine hK1.out _ _ hw3 (fun _ => ?_)
      clear hK1 K1 n0 n1 f0 f1
      try simp only [Act.put, List.setIfInBounds_toArray, List.set_cons_zero, List.set_cons_succ]
      generalize ((w2.setCell ⟨g2, 0, none⟩ (.int .u32 (kx c))).setCell ⟨g2, 1, none⟩ (.int .i64 (kn c))) = w4 at *
      refine wpAnyH_take (i := 11) (v := ?v35) (by rw [List.getElem?_toArray]; exact rfl) (by kernel_rfl) (by kernel_rfl) (by kernel_rfl) (fun _ _ _ h => h) (Or.inl ⟨by rfl, ?hy35⟩) (by assumption) ?rest35
      case hy35 => intro w hSw; (try dsimp only at hSw); go_simp; (try with_reducible rfl)
      try simp only [Act.put, List.setIfInBounds_toArray, List.set_cons_zero, List.set_cons_succ]
      refine wpAnyH_done (by kernel_rfl) ?_ _
      refine NoPanic.normal ?_
      go_wp2_with fail
      obtain ⟨c0, c1, d0, d1⟩ := HS.out w4 hw3
      have n0 := hn4.cell 0
      have n1 := hn4.cell 1
      simp only [List.getElem?_toArray, List.getElem?_cons_zero, List.getElem?_cons_succ] at n0 n1
      have k00 := cell_regrown c0
      have k01 := cell_regrown c1
      have k10 := cell_regrown d0
      have k11 := cell_regrown d1
      have k20 := cell_regrown n0
      have k21 := cell_regrown n1
      have HBW := Lib.hid (HB.out.trans (hw3.mono HB.out.size))
      have he := HE.out
      clear c0 c1 d0 d1 n0 n1
      refine wp_region_quiet_below (by kernel_rfl) (by kernel_rfl) ?_
      repeat (quiet_step (fail))
      refine wpQuiet_nil ?_
      intro w3 hw3
      obtain ⟨⟨dq, osq⟩, rfl⟩ := hw3
      have hbq := below_regrown w4 dq osq
      have HB4 := Lib.hid (HBW.out.trans (hbq.mono HBW.out.size))
      have HB5 := Lib.hid (hw3.trans (hbq.mono hw3.size))
      have hn5 := hn4.below hbq hn4.lt
      generalize grow (redrawn w4 dq) osq = w5 at *
      clear k00 k01 k10 k11 k20 k21 he hbq
      obtain ⟨x, hx⟩ := HN.out HQ.out
      have n0 := hn5.cell 0
      have n1 := hn5.cell 1
      simp only [List.getElem?_toArray, List.getElem?_cons_zero, List.getElem?_cons_succ] at n0 n1
      have hpk := HB5.out
      have c0 := (HS.out w5 hpk).1
      have c1 := (HS.out w5 hpk).2.1
      have c0' := ((box_below w5 (.cells #[.int .u32 (kx c), .int .i64 (kn c), .bool false, .int .i64 0, .pointer none, .pointer none] 81)).cell (p := ⟨b, 0, none⟩) (World.block_lt_of_cell? _ _ c0)).trans c0
      have c1' := ((box_below w5 (.cells #[.int .u32 (kx c), .int .i64 (kn c), .bool false, .int .i64 0, .pointer none, .pointer none] 81)).cell (p := ⟨b, 1, none⟩) (World.block_lt_of_cell? _ _ c1)).trans c1
      go_wp2_with fail
      have hz6 : w.heap.size ≤ w5.heap.size := HB4.out.size
      have hfk := Blk.new w5 81 #[.int .u32 (kx c), .int .i64 (kn c), .bool false, .int .i64 0, .pointer none, .pointer none]
      have HB6 := Lib.hid (HB4.out.trans ((box_below w5 (.cells #[.int .u32 (kx c), .int .i64 (kn c), .bool false, .int .i64 0, .pointer none, .pointer none] 81)).mono HB4.out.size))
      clear c0 c1
      generalize (w5.alloc (.cells #[.int .u32 (kx c), .int .i64 (kn c), .bool false, .int .i64 0, .pointer none, .pointer none] 81)) = w6 at *
      generalize w5.heap.size = f at *
      refine (HBK.out f x _ hx hfk).mono ?_
      rintro e w7 ⟨rfl, hb7⟩
      have hf7 := hfk.below hb7 hfk.lt
      have HB7 := Lib.hid (HB6.out.trans (hb7.mono HB6.out.size))
      clear hb7 hfk
      cases x
      · have g0 := hf7.cell 4
        have g1 := hf7.frozen 4
        simp only [List.getElem?_toArray, List.getElem?_cons_zero, List.getElem?_cons_succ] at g0
        simp only [side, Bool.false_eq_true, if_false]
        go_wp2_with fail
        go_ret
        refine ⟨.inr ⟨HQ.out, f, false, hz6, hx, rfl, ?_⟩, HB7.out.setCell (p := ⟨f, 4, none⟩) hz6 _⟩
        have := hf7.set_ 4 (.pointer (some ⟨b, 0, none⟩))
        simpa [cellsN, ptr] using this
      · have g0 := hf7.cell 5
        have g1 := hf7.frozen 5
        simp only [List.getElem?_toArray, List.getElem?_cons_zero, List.getElem?_cons_succ] at g0
        simp only [side, if_true]
        go_wp2_with fail
        go_ret
        refine ⟨.inr ⟨HQ.out, f, true, hz6, hx, rfl, ?_⟩, HB7.out.setCell (p := ⟨f, 5, none⟩) hz6 _⟩
        have := hf7.set_ 5 (.pointer (some ⟨b, 0, none⟩))
        simpa [cellsN, ptr] using this
    · go_simp
      have hs1 := hs0.trans ((box_below w0 (.cells #[.int .u32 0, .int .i64 0] 34)).mono hs0.size)
      have hn1 := Blk.new w0 34 #[.int .u32 0, .int .i64 0]
      have hg1 : W0.heap.size ≤ w0.heap.size := hs0.size
      refine hK1.out _ _ hs1 (fun hS1 => ?_)
      clear hK1 K1
      try simp only [Act.put, List.setIfInBounds_toArray, List.set_cons_zero, List.set_cons_succ]
      generalize (w0.alloc (.cells #[.int .u32 0, .int .i64 0] 34)) = wA at *
      generalize w0.heap.size = g2 at *
      refine ready_call (i := 5) (by kernel_rfl) (by rw [List.getElem?_toArray]; exact rfl) (by kernel_rfl) (fun K1 hK1 => ?_)
      go_simp
      refine (HC.out _).mono ?_
      rintro e w2 ⟨rfl, hbq⟩
      go_simp
      have hs3 := hs1.trans (hbq.mono hs1.size)
      have hn3 := hn1.below hbq hn1.lt
      refine hK1.out _ _ hs3 (fun hS3 => ?_)
      clear hK1 K1
      try simp only [Act.put, List.setIfInBounds_toArray, List.set_cons_zero, List.set_cons_succ]
      refine wpAnyH_take (i := 6) (v := ?v36) (by rw [List.getElem?_toArray]; exact rfl) (by kernel_rfl) (by kernel_rfl) (by kernel_rfl) (fun _ _ _ h => h) (Or.inl ⟨by rfl, ?hy36⟩) (by assumption) ?rest36
      case hy36 => intro w hSw; (try dsimp only at hSw); go_simp; (try with_reducible rfl)
      try simp only [Act.put, List.setIfInBounds_toArray, List.set_cons_zero, List.set_cons_succ]
      refine wpAnyH_take (i := 7) (v := ?v37) (by rw [List.getElem?_toArray]; exact rfl) (by kernel_rfl) (by kernel_rfl) (by kernel_rfl) (fun _ _ _ h => h) (Or.inl ⟨by rfl, ?hy37⟩) (by assumption) ?rest37
      case hy37 => intro w hSw; (try dsimp only at hSw); go_simp; (try with_reducible rfl)
      try simp only [Act.put, List.setIfInBounds_toArray, List.set_cons_zero, List.set_cons_succ]
      refine wpAnyH_take (i := 8) (v := ?v38) (by rw [List.getElem?_toArray]; exact rfl) (by kernel_rfl) (by kernel_rfl) (by kernel_rfl) (fun _ _ _ h => h) (Or.inl ⟨by rfl, ?hy38⟩) (by assumption) ?rest38
      case hy38 => intro w hSw; (try dsimp only at hSw); go_simp; (try with_reducible rfl)
      try simp only [Act.put, List.setIfInBounds_toArray, List.set_cons_zero, List.set_cons_succ]
      have hn2 := hn3
      have hSS := hS3
      have hg2 := hg1
      have n0 := hn2.cell 0
      have n1 := hn2.cell 1
      simp only [List.getElem?_toArray, List.getElem?_cons_zero, List.getElem?_cons_succ] at n0 n1
      have f0 := hn2.frozen 0
      have f1 := hn2.frozen 1
      refine ready_call (i := 10) (by kernel_rfl) (by rw [List.getElem?_toArray]; exact rfl) (by kernel_rfl) (fun K1 hK1 => ?_)
      go_simp
      have hw3 : Below W0.heap.size W0 ((w2.setCell ⟨g2, 0, none⟩ (.int .u32 (kx c))).setCell ⟨g2, 1, none⟩ (.int .i64 (kn c))) := (hSS.setCell (p := ⟨g2, 0, none⟩) hg2 _).setCell (p := ⟨g2, 1, none⟩) hg2 _
      have hn4 : Blk ((w2.setCell ⟨g2, 0, none⟩ (.int .u32 (kx c))).setCell ⟨g2, 1, none⟩ (.int .i64 (kn c))) g2 34 #[.int .u32 (kx c), .int .i64 (kn c)] := by
        have := (hn2.set_ 0 (.int .u32 (kx c))).set_ 1 (.int .i64 (kn c))
        simpa using this
      refine hK1.out _ _ hw3 (fun _ => ?_)
      clear hK1 K1 n0 n1 f0 f1
      try simp only [Act.put, List.setIfInBounds_toArray, List.set_cons_zero, List.set_cons_succ]
      generalize ((w2.setCell ⟨g2, 0, none⟩ (.int .u32 (kx c))).setCell ⟨g2, 1, none⟩ (.int .i64 (kn c))) = w4 at *
      refine wpAnyH_take (i := 11) (v := ?v39) (by rw [List.getElem?_toArray]; exact rfl) (by kernel_rfl) (by kernel_rfl) (by kernel_rfl) (fun _ _ _ h => h) (Or.inl ⟨by rfl, ?hy39⟩) (by assumption) ?rest39
      case hy39 => intro w hSw; (try dsimp only at hSw); go_simp; (try with_reducible rfl)
      try simp only [Act.put, List.setIfInBounds_toArray, List.set_cons_zero, List.set_cons_succ]
      refine wpAnyH_done (by kernel_rfl) ?_ _
      refine NoPanic.normal ?_
      go_wp2_with fail
      obtain ⟨c0, c1, d0, d1⟩ := HS.out w4 hw3
      have n0 := hn4.cell 0
      have n1 := hn4.cell 1
      simp only [List.getElem?_toArray, List.getElem?_cons_zero, List.getElem?_cons_succ] at n0 n1
      have k00 := cell_regrown c0
      have k01 := cell_regrown c1
      have k10 := cell_regrown d0
      have k11 := cell_regrown d1
      have k20 := cell_regrown n0
      have k21 := cell_regrown n1
      have HBW := Lib.hid (HB.out.trans (hw3.mono HB.out.size))
      have he := HE.out
      clear c0 c1 d0 d1 n0 n1
      refine wp_region_quiet_below (by kernel_rfl) (by kernel_rfl) ?_
      repeat (quiet_step (fail))
      refine wpQuiet_nil ?_
      intro w3 hw3
      obtain ⟨⟨dq, osq⟩, rfl⟩ := hw3
      have hbq := below_regrown w4 dq osq
      have HB4 := Lib.hid (HBW.out.trans (hbq.mono HBW.out.size))
      have HB5 := Lib.hid (hw3.trans (hbq.mono hw3.size))
      have hn5 := hn4.below hbq hn4.lt
      generalize grow (redrawn w4 dq) osq = w5 at *
      clear k00 k01 k10 k11 k20 k21 he hbq
      obtain ⟨x, hx⟩ := HN.out HQ.out
      have n0 := hn5.cell 0
      have n1 := hn5.cell 1
      simp only [List.getElem?_toArray, List.getElem?_cons_zero, List.getElem?_cons_succ] at n0 n1
      have hpk := HB5.out
      have c0 := (HS.out w5 hpk).1
      have c1 := (HS.out w5 hpk).2.1
      have c0' := ((box_below w5 (.cells #[.int .u32 (kx c), .int .i64 (kn c), .bool false, .int .i64 0, .pointer none, .pointer none] 81)).cell (p := ⟨b, 0, none⟩) (World.block_lt_of_cell? _ _ c0)).trans c0
      have c1' := ((box_below w5 (.cells #[.int .u32 (kx c), .int .i64 (kn c), .bool false, .int .i64 0, .pointer none, .pointer none] 81)).cell (p := ⟨b, 1, none⟩) (World.block_lt_of_cell? _ _ c1)).trans c1
      go_wp2_with fail
      have hz6 : w.heap.size ≤ w5.heap.size := HB4.out.size
      have hfk := Blk.new w5 81 #[.int .u32 (kx c), .int .i64 (kn c), .bool false, .int .i64 0, .pointer none, .pointer none]
      have HB6 := Lib.hid (HB4.out.trans ((box_below w5 (.cells #[.int .u32 (kx c), .int .i64 (kn c), .bool false, .int .i64 0, .pointer none, .pointer none] 81)).mono HB4.out.size))
      clear c0 c1
      generalize (w5.alloc (.cells #[.int .u32 (kx c), .int .i64 (kn c), .bool false, .int .i64 0, .pointer none, .pointer none] 81)) = w6 at *
      generalize w5.heap.size = f at *
      refine (HBK.out f x _ hx hfk).mono ?_
      rintro e w7 ⟨rfl, hb7⟩
      have hf7 := hfk.below hb7 hfk.lt
      have HB7 := Lib.hid (HB6.out.trans (hb7.mono HB6.out.size))
      clear hb7 hfk
      cases x
      · have g0 := hf7.cell 4
        have g1 := hf7.frozen 4
        simp only [List.getElem?_toArray, List.getElem?_cons_zero, List.getElem?_cons_succ] at g0
        simp only [side, Bool.false_eq_true, if_false]
        go_wp2_with fail
        go_ret
        refine ⟨.inr ⟨HQ.out, f, false, hz6, hx, rfl, ?_⟩, HB7.out.setCell (p := ⟨f, 4, none⟩) hz6 _⟩
        have := hf7.set_ 4 (.pointer (some ⟨b, 0, none⟩))
        simpa [cellsN, ptr] using this
      · have g0 := hf7.cell 5
        have g1 := hf7.frozen 5
        simp only [List.getElem?_toArray, List.getElem?_cons_zero, List.getElem?_cons_succ] at g0
        simp only [side, if_true]
        go_wp2_with fail
        go_ret
        refine ⟨.inr ⟨HQ.out, f, true, hz6, hx, rfl, ?_⟩, HB7.out.setCell (p := ⟨f, 5, none⟩) hz6 _⟩
        have := hf7.set_ 5 (.pointer (some ⟨b, 0, none⟩))
        simpa [cellsN, ptr] using this
end T6
end Go.Proofs.Ytghkacciihocdaa
