/- Layer 4's program: Bytes: six calls in whatever order. -/
import Derived.Test.YtehhablobfaplaaDoorW6
import Derived.Test.YtehhablobfaplaaDoorU1
import Derived.Test.YtehhablobfaplaaDoorN2
import Derived.Lib.SmallJoins
namespace Go.Proofs.YtehhablobfaplaaDoor
open Go Go.RowKit Go.Sort
attribute [local go_sem] Oper.semAt_some

/-- What is held in Bytes' region: its entry lies; nothing that was there is turned. -/
def B4S (w W : World) (f t a m n k : Int) (w' : World) : Prop := w'.cell? ⟨w.heap.size, 0, none⟩ = some (.int .i64 f) ∧ w'.cell? ⟨w.heap.size, 1, none⟩ = some (.int .i64 t) ∧ w'.cell? ⟨w.heap.size, 2, none⟩ = some (.int .u32 a) ∧ w'.cell? ⟨w.heap.size, 3, none⟩ = some (.int .u32 m) ∧ w'.cell? ⟨w.heap.size, 4, none⟩ = some (.int .u32 n) ∧ w'.cell? ⟨w.heap.size, 5, none⟩ = some (.int .u32 k) ∧ Hid (Below W.heap.size W w')
/-- What a call of put left. -/
def PutG (n : Int) (k : Nat) (v : Value) (w : World) : Prop := ∃ p c, v = .slice p k c ∧ k ≤ c ∧ ByS w p (be k n)
theorem PutG.below {n : Int} {k : Nat} {v : Value} {w w' : World} (h : PutG n k v w) (hb : Below w.heap.size w w') : PutG n k v w' := by
  obtain ⟨p, c, e, hc, hy⟩ := h
  exact ⟨p, c, e, hc, hy.below hb⟩

theorem put2_g (n : Int) (h0 : 0 ≤ n) (h1 : n < 65536) (w : World) (hf : Fit3 w) :
    Calls Tryd.prog 48 #[.int .u32 n, .int .i64 2] w fun e w' => ∃ v, e = .returned v ∧ PutG n 2 v w' ∧ Below w.heap.size w w' := by
  have h2 : n < 256 ^ 2 := by
    have : (256 : Int) ^ 2 = 65536 := by decide
    omega
  refine (put4_any n 2 (by omega) h0 h2 (by omega) w hf).mono ?_
  rintro e w' ⟨p, c, he, hc, hy, hb⟩
  exact ⟨_, he, ⟨p, c, rfl, hc, hy⟩, hb⟩
theorem put4_g (n : Int) (h0 : 0 ≤ n) (h1 : n < 4294967296) (w : World) (hf : Fit3 w) :
    Calls Tryd.prog 48 #[.int .u32 n, .int .i64 4] w fun e w' => ∃ v, e = .returned v ∧ PutG n 4 v w' ∧ Below w.heap.size w w' := by
  have h2 : n < 256 ^ 4 := by
    have : (256 : Int) ^ 4 = 4294967296 := by decide
    omega
  refine (put4_any n 4 (by omega) h0 h2 (by omega) w hf).mono ?_
  rintro e w' ⟨p, c, he, hc, hy, hb⟩
  exact ⟨_, he, ⟨p, c, rfl, hc, hy⟩, hb⟩

set_option maxRecDepth 1000000 in
set_option maxHeartbeats 6400000 in
theorem bytes4_any (e : Ent) (ho : e.Ok) (w : World) (hf : Fit3 w) :
    Calls Tryd.prog 26 #[entV e] w fun r w' => (if rightE e then ∃ v, r = .returned (.tuple #[v, .int .i64 0]) ∧ OwnB w.heap.size w' v (bytesE e) else r = .returned (.tuple #[.slice none 0 0, .int .i64 2])) ∧ Below w.heap.size w w' := by
  have hd := rightE_short e
  have HSH := Lib.hid (fun (x : Int) W => short_any x W)
  obtain ⟨f, t, a, m, n, k⟩ := e
  obtain ⟨a0, a1, m0, m1, n0, n1, k0, k1⟩ := ho
  dsimp only at a0 a1 m0 m1 n0 n1 k0 k1 hd
  have HBW := Lib.hid (bigE w (.cells #[.int .i64 f, .int .i64 t, .int .u32 a, .int .u32 m, .int .u32 n, .int .u32 k] 55))
  have HBL := Lib.hid (Blk.new w 55 #[.int .i64 f, .int .i64 t, .int .u32 a, .int .u32 m, .int .u32 n, .int .u32 k])
  have HF := Lib.hid hf
  clear hf
  by_cases hr : rightE ⟨f, t, a, m, n, k⟩
  · have hfs : shortB f = true := by have := hd.symm.trans (decide_eq_true hr); simp at this; exact this.1
    have hts : shortB t = true := by have := hd.symm.trans (decide_eq_true hr); simp at this; exact this.2
    have hSf := Lib.hid (HSH.out f)
    have hSt := Lib.hid (HSH.out t)
    rw [hfs] at hSf
    rw [hts] at hSt
    have hr' := hr
    obtain ⟨f0, f1, t0, t1⟩ := hr'
    dsimp only at f0 f1 t0 t1
    simp only [if_pos hr]
    have wf : IntKind.u32.wrap f = f := by rw [IntKind.wrap_u32]; omega
    have wt : IntKind.u32.wrap t = t := by rw [IntKind.wrap_u32]; omega
    have HP0 := Lib.hid (fun W (hF : Fit3 W) => put2_g f f0 (by omega : f < 65536) W hF)
    have HP1 := Lib.hid (fun W (hF : Fit3 W) => put2_g t t0 (by omega : t < 65536) W hF)
    have HP2 := Lib.hid (fun W (hF : Fit3 W) => put4_g a a0 a1 W hF)
    have HP3 := Lib.hid (fun W (hF : Fit3 W) => put4_g m m0 m1 W hF)
    have HP4 := Lib.hid (fun W (hF : Fit3 W) => put4_g n n0 n1 W hF)
    have HP5 := Lib.hid (fun W (hF : Fit3 W) => put4_g k k0 k1 W hF)
    clear hd hfs hts HSH
    go_enter Tryd.func26, Tryd.ntmps26
    go_wp2_with (first | (go_at_call 46; refine (hSf.out _).mono ?_; rintro e w1 ⟨rfl, rfl⟩) | (go_at_call 46; refine (hSt.out _).mono ?_; rintro e w1 ⟨rfl, rfl⟩))
    generalize hWW : w.alloc (.cells #[.int .i64 f, .int .i64 t, .int .u32 a, .int .u32 m, .int .u32 n, .int .u32 k] 55) = W at *
    have hsz : W.heap.size = w.heap.size + 1 := by rw [← hWW]; simp
    have HSZ := Lib.hid hsz
    clear hWW hsz hSf hSt f0 f1 t0 t1 a0 a1 m0 m1 n0 n1 k0 k1
    have hS0 : B4S w W f t a m n k W.drew := by
      have h := HBL.out
      exact ⟨h.cell 0, h.cell 1, h.cell 2, h.cell 3, h.cell 4, h.cell 5, ⟨rfl, rfl, rfl, Nat.le_refl _, fun _ _ => rfl⟩⟩
    have HK : Hid (∀ w1 w2, B4S w W f t a m n k w1 → Below w1.heap.size w1 w2 → B4S w W f t a m n k w2) := fun w1 w2 h hb => by
      obtain ⟨h0, h1, h2, h3, h4, h5, h6⟩ := h
      exact ⟨(hb.cell (World.block_lt_of_cell? _ _ h0)).trans h0, (hb.cell (World.block_lt_of_cell? _ _ h1)).trans h1, (hb.cell (World.block_lt_of_cell? _ _ h2)).trans h2, (hb.cell (World.block_lt_of_cell? _ _ h3)).trans h3, (hb.cell (World.block_lt_of_cell? _ _ h4)).trans h4, (hb.cell (World.block_lt_of_cell? _ _ h5)).trans h5, h6.out.trans (hb.mono h6.out.size)⟩
    have HFW : Hid (∀ w1, B4S w W f t a m n k w1 → Fit3 w1) := fun w1 h => (HF.out.below HBW.out).below h.2.2.2.2.2.2.out
    refine wp_region_noPanic ?_
    refine wp_region_held_drew (S := B4S w W f t a m n k) (by kernel_rfl) hS0 ?_
    intro hS1
    clear hS0
    refine wpAnyH_take (i := 0) (v := ?v1) (by rw [List.getElem?_toArray]; exact rfl) (by kernel_rfl) (by kernel_rfl) (by kernel_rfl) (fun _ _ _ h => h) (Or.inl ⟨by rfl, ?hy1⟩) (by assumption) ?rest1
    case hy1 => intro w hSw; (try dsimp only at hSw); (try unfold B4S at hSw); go_simp; (try with_reducible rfl)
    try simp only [Act.put, List.setIfInBounds_toArray, List.set_cons_zero, List.set_cons_succ]
    refine wpAnyH_take (i := 1) (v := ?v2) (by rw [List.getElem?_toArray]; exact rfl) (by kernel_rfl) (by kernel_rfl) (by kernel_rfl) (fun _ _ _ h => h) (Or.inl ⟨by rfl, ?hy2⟩) (by assumption) ?rest2
    case hy2 => intro w hSw; (try dsimp only at hSw); (try unfold B4S at hSw); go_simp; (try with_reducible rfl)
    try simp only [Act.put, List.setIfInBounds_toArray, List.set_cons_zero, List.set_cons_succ]
    refine wpAnyH_take (i := 2) (v := ?v3) (by rw [List.getElem?_toArray]; exact rfl) (by kernel_rfl) (by kernel_rfl) (by kernel_rfl) (fun _ _ _ h => h) (Or.inl ⟨by rfl, ?hy3⟩) (by assumption) ?rest3
    case hy3 => intro w hSw; (try dsimp only at hSw); (try unfold B4S at hSw); go_simp; (try with_reducible rfl)
    try simp only [Act.put, List.setIfInBounds_toArray, List.set_cons_zero, List.set_cons_succ]
    refine wpAnyH_take (i := 4) (v := ?v4) (by rw [List.getElem?_toArray]; exact rfl) (by kernel_rfl) (by kernel_rfl) (by kernel_rfl) (fun _ _ _ h => h) (Or.inl ⟨by rfl, ?hy4⟩) (by assumption) ?rest4
    case hy4 => intro w hSw; (try dsimp only at hSw); (try unfold B4S at hSw); go_simp; (try with_reducible rfl)
    try simp only [Act.put, List.setIfInBounds_toArray, List.set_cons_zero, List.set_cons_succ]
    refine wpAnyH_take (i := 5) (v := ?v5) (by rw [List.getElem?_toArray]; exact rfl) (by kernel_rfl) (by kernel_rfl) (by kernel_rfl) (fun _ _ _ h => h) (Or.inl ⟨by rfl, ?hy5⟩) (by assumption) ?rest5
    case hy5 => intro w hSw; (try dsimp only at hSw); (try unfold B4S at hSw); go_simp; (try with_reducible rfl)
    try simp only [Act.put, List.setIfInBounds_toArray, List.set_cons_zero, List.set_cons_succ]
    refine wpAnyH_take (i := 6) (v := ?v6) (by rw [List.getElem?_toArray]; exact rfl) (by kernel_rfl) (by kernel_rfl) (by kernel_rfl) (fun _ _ _ h => h) (Or.inl ⟨by rfl, ?hy6⟩) (by assumption) ?rest6
    case hy6 => intro w hSw; (try dsimp only at hSw); (try unfold B4S at hSw); go_simp; (try with_reducible rfl)
    try simp only [Act.put, List.setIfInBounds_toArray, List.set_cons_zero, List.set_cons_succ]
    refine wpAnyH_take (i := 8) (v := ?v7) (by rw [List.getElem?_toArray]; exact rfl) (by kernel_rfl) (by kernel_rfl) (by kernel_rfl) (fun _ _ _ h => h) (Or.inl ⟨by rfl, ?hy7⟩) (by assumption) ?rest7
    case hy7 => intro w hSw; (try dsimp only at hSw); (try unfold B4S at hSw); go_simp; (try with_reducible rfl)
    try simp only [Act.put, List.setIfInBounds_toArray, List.set_cons_zero, List.set_cons_succ]
    refine wpAnyH_take (i := 9) (v := ?v8) (by rw [List.getElem?_toArray]; exact rfl) (by kernel_rfl) (by kernel_rfl) (by kernel_rfl) (fun _ _ _ h => h) (Or.inl ⟨by rfl, ?hy8⟩) (by assumption) ?rest8
    case hy8 => intro w hSw; (try dsimp only at hSw); (try unfold B4S at hSw); go_simp; (try with_reducible rfl)
    try simp only [Act.put, List.setIfInBounds_toArray, List.set_cons_zero, List.set_cons_succ]
    refine wpAnyH_take (i := 11) (v := ?v9) (by rw [List.getElem?_toArray]; exact rfl) (by kernel_rfl) (by kernel_rfl) (by kernel_rfl) (fun _ _ _ h => h) (Or.inl ⟨by rfl, ?hy9⟩) (by assumption) ?rest9
    case hy9 => intro w hSw; (try dsimp only at hSw); (try unfold B4S at hSw); go_simp; (try with_reducible rfl)
    try simp only [Act.put, List.setIfInBounds_toArray, List.set_cons_zero, List.set_cons_succ]
    refine wpAnyH_take (i := 12) (v := ?v10) (by rw [List.getElem?_toArray]; exact rfl) (by kernel_rfl) (by kernel_rfl) (by kernel_rfl) (fun _ _ _ h => h) (Or.inl ⟨by rfl, ?hy10⟩) (by assumption) ?rest10
    case hy10 => intro w hSw; (try dsimp only at hSw); (try unfold B4S at hSw); go_simp; (try with_reducible rfl)
    try simp only [Act.put, List.setIfInBounds_toArray, List.set_cons_zero, List.set_cons_succ]
    refine wpAnyH_take (i := 14) (v := ?v11) (by rw [List.getElem?_toArray]; exact rfl) (by kernel_rfl) (by kernel_rfl) (by kernel_rfl) (fun _ _ _ h => h) (Or.inl ⟨by rfl, ?hy11⟩) (by assumption) ?rest11
    case hy11 => intro w hSw; (try dsimp only at hSw); (try unfold B4S at hSw); go_simp; (try with_reducible rfl)
    try simp only [Act.put, List.setIfInBounds_toArray, List.set_cons_zero, List.set_cons_succ]
    refine wpAnyH_take (i := 15) (v := ?v12) (by rw [List.getElem?_toArray]; exact rfl) (by kernel_rfl) (by kernel_rfl) (by kernel_rfl) (fun _ _ _ h => h) (Or.inl ⟨by rfl, ?hy12⟩) (by assumption) ?rest12
    case hy12 => intro w hSw; (try dsimp only at hSw); (try unfold B4S at hSw); go_simp; (try with_reducible rfl)
    try simp only [Act.put, List.setIfInBounds_toArray, List.set_cons_zero, List.set_cons_succ]
    refine wpAnyH_take (i := 17) (v := ?v13) (by rw [List.getElem?_toArray]; exact rfl) (by kernel_rfl) (by kernel_rfl) (by kernel_rfl) (fun _ _ _ h => h) (Or.inl ⟨by rfl, ?hy13⟩) (by assumption) ?rest13
    case hy13 => intro w hSw; (try dsimp only at hSw); (try unfold B4S at hSw); go_simp; (try with_reducible rfl)
    try simp only [Act.put, List.setIfInBounds_toArray, List.set_cons_zero, List.set_cons_succ]
    refine wpAnyH_take (i := 18) (v := ?v14) (by rw [List.getElem?_toArray]; exact rfl) (by kernel_rfl) (by kernel_rfl) (by kernel_rfl) (fun _ _ _ h => h) (Or.inl ⟨by rfl, ?hy14⟩) (by assumption) ?rest14
    case hy14 => intro w hSw; (try dsimp only at hSw); (try unfold B4S at hSw); go_simp; (try with_reducible rfl)
    try simp only [Act.put, List.setIfInBounds_toArray, List.set_cons_zero, List.set_cons_succ]
    refine ready_call (i := 3) (by kernel_rfl) (by rw [List.getElem?_toArray]; exact rfl) (by kernel_rfl) (fun K1 hK1 => ?_)
    go_simp
    refine (HP0.out _ (HFW.out _ hS1)).mono ?_
    rintro e w1 ⟨v0, rfl, ⟨p0, c0, rfl, hc0, hy0⟩, hb1⟩
    have hT1 := HK.out _ _ hS1 hb1
    have HY0 := Lib.hid hy0
    clear hy0 hc0 hb1
    refine hK1.out _ _ (hT1) (fun hS2 => ?_)
    clear hK1 K1
    try simp only [Act.put, List.setIfInBounds_toArray, List.set_cons_zero, List.set_cons_succ]
    refine ready_call (i := 7) (by kernel_rfl) (by rw [List.getElem?_toArray]; exact rfl) (by kernel_rfl) (fun K1 hK1 => ?_)
    go_simp
    refine (HP1.out _ (HFW.out _ hS2)).mono ?_
    rintro e w2 ⟨v1, rfl, ⟨p1, c1, rfl, hc1, hy1⟩, hb2⟩
    have hT2 := HK.out _ _ hS2 hb2
    have HY0 := Lib.hid (HY0.out.below hb2)
    have HY1 := Lib.hid hy1
    clear hy1 hc1 hb2
    refine hK1.out _ _ (hT2) (fun hS3 => ?_)
    clear hK1 K1
    try simp only [Act.put, List.setIfInBounds_toArray, List.set_cons_zero, List.set_cons_succ]
    clear hS2 hT2
    refine ready_call (i := 10) (by kernel_rfl) (by rw [List.getElem?_toArray]; exact rfl) (by kernel_rfl) (fun K1 hK1 => ?_)
    go_simp
    refine (HP2.out _ (HFW.out _ hS3)).mono ?_
    rintro e w3 ⟨v2, rfl, ⟨p2, c2, rfl, hc2, hy2⟩, hb3⟩
    have hT3 := HK.out _ _ hS3 hb3
    have HY0 := Lib.hid (HY0.out.below hb3)
    have HY1 := Lib.hid (HY1.out.below hb3)
    have HY2 := Lib.hid hy2
    clear hy2 hc2 hb3
    refine hK1.out _ _ (hT3) (fun hS4 => ?_)
    clear hK1 K1
    try simp only [Act.put, List.setIfInBounds_toArray, List.set_cons_zero, List.set_cons_succ]
    clear hS3 hT3
    refine ready_call (i := 13) (by kernel_rfl) (by rw [List.getElem?_toArray]; exact rfl) (by kernel_rfl) (fun K1 hK1 => ?_)
    go_simp
    refine (HP3.out _ (HFW.out _ hS4)).mono ?_
    rintro e w4 ⟨v3, rfl, ⟨p3, c3, rfl, hc3, hy3⟩, hb4⟩
    have hT4 := HK.out _ _ hS4 hb4
    have HY0 := Lib.hid (HY0.out.below hb4)
    have HY1 := Lib.hid (HY1.out.below hb4)
    have HY2 := Lib.hid (HY2.out.below hb4)
    have HY3 := Lib.hid hy3
    clear hy3 hc3 hb4
    refine hK1.out _ _ (hT4) (fun hS5 => ?_)
    clear hK1 K1
    try simp only [Act.put, List.setIfInBounds_toArray, List.set_cons_zero, List.set_cons_succ]
    clear hS4 hT4
    refine ready_call (i := 16) (by kernel_rfl) (by rw [List.getElem?_toArray]; exact rfl) (by kernel_rfl) (fun K1 hK1 => ?_)
    go_simp
    refine (HP4.out _ (HFW.out _ hS5)).mono ?_
    rintro e w5 ⟨v4, rfl, ⟨p4, c4, rfl, hc4, hy4⟩, hb5⟩
    have hT5 := HK.out _ _ hS5 hb5
    have HY0 := Lib.hid (HY0.out.below hb5)
    have HY1 := Lib.hid (HY1.out.below hb5)
    have HY2 := Lib.hid (HY2.out.below hb5)
    have HY3 := Lib.hid (HY3.out.below hb5)
    have HY4 := Lib.hid hy4
    clear hy4 hc4 hb5
    refine hK1.out _ _ (hT5) (fun hS6 => ?_)
    clear hK1 K1
    try simp only [Act.put, List.setIfInBounds_toArray, List.set_cons_zero, List.set_cons_succ]
    clear hS5 hT5
    refine ready_call (i := 19) (by kernel_rfl) (by rw [List.getElem?_toArray]; exact rfl) (by kernel_rfl) (fun K1 hK1 => ?_)
    go_simp
    refine (HP5.out _ (HFW.out _ hS6)).mono ?_
    rintro e w6 ⟨v5, rfl, ⟨p5, c5, rfl, hc5, hy5⟩, hb6⟩
    have hT6 := HK.out _ _ hS6 hb6
    have HY0 := Lib.hid (HY0.out.below hb6)
    have HY1 := Lib.hid (HY1.out.below hb6)
    have HY2 := Lib.hid (HY2.out.below hb6)
    have HY3 := Lib.hid (HY3.out.below hb6)
    have HY4 := Lib.hid (HY4.out.below hb6)
    have HY5 := Lib.hid hy5
    clear hy5 hc5 hb6
    refine hK1.out _ _ (hT6) (fun hS7 => ?_)
    clear hK1 K1
    try simp only [Act.put, List.setIfInBounds_toArray, List.set_cons_zero, List.set_cons_succ]
    clear hS6 hT6
    have hb7 := bigE w6 (.cells #[.slice p0 2 c0, .slice p1 2 c1, .slice p2 4 c2, .slice p3 4 c3, .slice p4 4 c4, .slice p5 4 c5] 27)
    have hT7 := HK.out _ _ hS7 hb7
    have HJ : Hid (Calls Tryd.prog 47 #[.slice (some ⟨w6.heap.size, 0, none⟩) 6 6] (w6.alloc (.cells #[.slice p0 2 c0, .slice p1 2 c1, .slice p2 4 c2, .slice p3 4 c3, .slice p4 4 c4, .slice p5 4 c5] 27)) fun e w' => ∃ v, e = .returned v ∧ OwnB (w6.alloc (.cells #[.slice p0 2 c0, .slice p1 2 c1, .slice p2 4 c2, .slice p3 4 c3, .slice p4 4 c4, .slice p5 4 c5] 27)).heap.size w' v (bytesE ⟨f, t, a, m, n, k⟩) ∧ Below (w6.alloc (.cells #[.slice p0 2 c0, .slice p1 2 c1, .slice p2 4 c2, .slice p3 4 c3, .slice p4 4 c4, .slice p5 4 c5] 27)).heap.size (w6.alloc (.cells #[.slice p0 2 c0, .slice p1 2 c1, .slice p2 4 c2, .slice p3 4 c3, .slice p4 4 c4, .slice p5 4 c5] 27)) w') := by
      have hj := join_any w6.heap.size [⟨p0, c0, be 2 f⟩, ⟨p1, c1, be 2 t⟩, ⟨p2, c2, be 4 a⟩, ⟨p3, c3, be 4 m⟩, ⟨p4, c4, be 4 n⟩, ⟨p5, c5, be 4 k⟩] 6 (w6.alloc (.cells #[.slice p0 2 c0, .slice p1 2 c1, .slice p2 4 c2, .slice p3 4 c3, .slice p4 4 c4, .slice p5 4 c5] 27)) (by simp [flatL]) (by simp) (by simp)
        (fun j hj => by
          have hz := (Blk.new w6 27 #[.slice p0 2 c0, .slice p1 2 c1, .slice p2 4 c2, .slice p3 4 c3, .slice p4 4 c4, .slice p5 4 c5]).cell j
          rw [hz]
          match j, hj with
          | 0, _ => simp
          | 1, _ => simp
          | 2, _ => simp
          | 3, _ => simp
          | 4, _ => simp
          | 5, _ => simp)
        (fun j hj => by
          match j, hj with
          | 0, _ => exact HY0.out.below hb7
          | 1, _ => exact HY1.out.below hb7
          | 2, _ => exact HY2.out.below hb7
          | 3, _ => exact HY3.out.below hb7
          | 4, _ => exact HY4.out.below hb7
          | 5, _ => exact HY5.out.below hb7)
      have hfl : flatL [⟨p0, c0, be 2 f⟩, ⟨p1, c1, be 2 t⟩, ⟨p2, c2, be 4 a⟩, ⟨p3, c3, be 4 m⟩, ⟨p4, c4, be 4 n⟩, ⟨p5, c5, be 4 k⟩] = bytesE ⟨f, t, a, m, n, k⟩ := by simp [flatL, bytesE]
      rw [hfl] at hj
      exact hj
    clear HY0 HY1 HY2 HY3 HY4 HY5 hb7
    refine ready_call (i := 20) (by kernel_rfl) (by rw [List.getElem?_toArray]; exact rfl) (by kernel_rfl) (fun K1 hK1 => ?_)
    go_simp
    
    refine hK1.out _ _ (hT7) (fun hS8 => ?_)
    clear hK1 K1
    try simp only [Act.put, List.setIfInBounds_toArray, List.set_cons_zero, List.set_cons_succ]
    refine ready_call (i := 21) (by kernel_rfl) (by rw [List.getElem?_toArray]; exact rfl) (by kernel_rfl) (fun K1 hK1 => ?_)
    go_simp
    refine HJ.out.mono ?_
    rintro e w7 ⟨v7, rfl, ho7, hb8⟩
    have hT8 := HK.out _ _ hS8 hb8
    have HO7 := Lib.hid ho7
    clear ho7 hb8 HJ
    refine hK1.out _ _ (hT8) (fun hS9 => ?_)
    clear hK1 K1
    try simp only [Act.put, List.setIfInBounds_toArray, List.set_cons_zero, List.set_cons_succ]
    refine wpAnyH_take (i := 22) (v := ?v15) (by rw [List.getElem?_toArray]; exact rfl) (by kernel_rfl) (by kernel_rfl) (by kernel_rfl) (fun _ _ _ h => h) (Or.inl ⟨by rfl, ?hy15⟩) (by assumption) ?rest15
    case hy15 => intro w hSw; (try dsimp only at hSw); (try unfold B4S at hSw); go_simp; (try with_reducible rfl)
    try simp only [Act.put, List.setIfInBounds_toArray, List.set_cons_zero, List.set_cons_succ]
    refine wpAnyH_take (i := 23) (v := ?v16) (by rw [List.getElem?_toArray]; exact rfl) (by kernel_rfl) (by kernel_rfl) (by kernel_rfl) (fun _ _ _ h => h) (Or.inl ⟨by rfl, ?hy16⟩) (by assumption) ?rest16
    case hy16 => intro w hSw; (try dsimp only at hSw); (try unfold B4S at hSw); go_simp; (try with_reducible rfl)
    try simp only [Act.put, List.setIfInBounds_toArray, List.set_cons_zero, List.set_cons_succ]
    refine wpAnyH_done (by kernel_rfl) ?_ _
    refine NoPanic.normal ?_
    have HBF := Lib.hid (HBW.out.trans (hS9.2.2.2.2.2.2.out.mono (by have := HSZ.out; omega)))
    have l6 : w.heap.size ≤ (w6.alloc (.cells #[.slice p0 2 c0, .slice p1 2 c1, .slice p2 4 c2, .slice p3 4 c3, .slice p4 4 c4, .slice p5 4 c5] 27)).heap.size := by have := hS8.2.2.2.2.2.2.out.size; have := HSZ.out; omega
    clear hS1 hS7 hS8 hS9 hT7 hT8 HK HFW HBL
    go_wp2_with fail
    go_ret2
    exact ⟨⟨_, rfl, Joins.ownsRow_le HO7.out l6⟩, HBF.out⟩
  · simp only [if_neg hr]
    rw [decide_eq_false hr] at hd
    go_enter Tryd.func26, Tryd.ntmps26
    by_cases hfs : shortB f = true
    · have hts : shortB t = false := by rw [hfs] at hd; simpa using hd.symm
      have hSf := Lib.hid (HSH.out f)
      have hSt := Lib.hid (HSH.out t)
      rw [hfs] at hSf
      rw [hts] at hSt
      clear hd hfs hts HSH hr
      go_wp2_with (first | (go_at_call 46; refine (hSf.out _).mono ?_; rintro e w1 ⟨rfl, rfl⟩) | (go_at_call 46; refine (hSt.out _).mono ?_; rintro e w1 ⟨rfl, rfl⟩))
      go_ret2
      exact ⟨rfl, HBW.out⟩
    · have hSf := Lib.hid (HSH.out f)
      rw [Bool.eq_false_iff.2 hfs] at hSf
      clear hd hfs HSH hr
      go_wp2_with (first | (go_at_call 46; refine (hSf.out _).mono ?_; rintro e w1 ⟨rfl, rfl⟩))
      go_ret2
      exact ⟨rfl, HBW.out⟩
end Go.Proofs.YtehhablobfaplaaDoor
