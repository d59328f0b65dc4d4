/- Layer 4's reference: Bytes. -/
import Derived.Test.YtehhablobfaplaaDoorW7
namespace Go.Proofs.YtehhablobfaplaaDoor
open Go Go.RowKit Go.Sort
attribute [local go_sem] Oper.semAt_some

theorem Blk.ownB {w : World} {base g : Nat} {xs : List Int} (h : Blk w g 5 (xs.map (Value.int .u8)).toArray) (hb : base ≤ g) (hn : xs.length ≤ 1000000) : OwnB base w (.slice (some ⟨g, 0, none⟩) xs.length xs.length) xs :=
  ⟨by simp, .inr ⟨g, xs.length, _, rfl, hb, h, Nat.le_refl _, by unfold maxLen; omega, by simp, by simpa using List.take_of_length_le (by simp)⟩⟩

set_option maxHeartbeats 800000 in
theorem refBytes3_any (n : Int) (k : Nat) (hk : k = 1 ∨ k = 2 ∨ k = 4) (h0 : 0 ≤ n) (h1 : n < 256 ^ k) (h2 : n < 4294967296) (w : World) :
    Calls Tryd.prog 57 #[.int .u32 n, .int .i64 k] w fun e w' => ∃ v, e = .returned v ∧ OwnB w.heap.size w' v (be k n) ∧ Below w.heap.size w w' := by
  have hp := refPut_any n h0 h2 k hk w
  have hz : ¬ n / 256 ^ k > 0 := by rw [Int.ediv_eq_zero_of_lt h0 h1]; decide
  simp only [if_neg hz] at hp
  have HP := Lib.hid hp
  have hk4 : k ≤ 4 := by omega
  clear hp h0 h1 h2 hk hz
  go_enter Tryd.func57, Tryd.ntmps57
  go_wp2_with fail
  refine HP.out.mono ?_
  rintro e w' ⟨⟨rfl, hbk⟩, hb⟩
  have ho := hbk.ownB (Nat.le_refl _) (by simp; omega)
  rw [be_length] at ho
  have HO := Lib.hid ho
  have HB := Lib.hid hb
  clear hbk hb HP ho
  go_wp2_with fail
  go_ret
  exact ⟨_, rfl, HO.out, HB.out⟩
theorem refB2 (n : Int) (h0 : 0 ≤ n) (h1 : n < 65536) (w : World) :
    Calls Tryd.prog 57 #[.int .u32 n, .int .i64 2] w fun e w' => ∃ v, e = .returned v ∧ OwnB w.heap.size w' v (be 2 n) ∧ Below w.heap.size w w' :=
  refBytes3_any n 2 (by omega) h0 (by have : (256 : Int) ^ 2 = 65536 := by decide
                                      omega) (by omega) w
theorem refB4 (n : Int) (h0 : 0 ≤ n) (h1 : n < 4294967296) (w : World) :
    Calls Tryd.prog 57 #[.int .u32 n, .int .i64 4] w fun e w' => ∃ v, e = .returned v ∧ OwnB w.heap.size w' v (be 4 n) ∧ Below w.heap.size w w' :=
  refBytes3_any n 4 (by omega) h0 (by have : (256 : Int) ^ 4 = 4294967296 := by decide
                                      omega) (by omega) w

theorem wp_app_bytes {o : Oper} {a : Act} {w : World} {K : Act → World → Prop} {Q : Exit → Act → World → Prop} (s x : Operand)
    (ho : o.op = .call { callee := .builtin .append, args := #[s, x], argTypes := #[27, 27] }) (base : Nat) {v : Value} {xs : List Int} (hs : a.eval s = v) (hown : OwnB base w v xs)
    {p : Option Addr} {ys : List Int} {c : Nat} (hx : a.eval x = .slice p ys.length c) (hy : ByS w p ys) (hn : xs.length + ys.length ≤ 1000000) (hbase : base ≤ w.heap.size)
    (h : ∀ v' w', OwnB base w' v' (xs ++ ys) → w.grownBy w' v.ownBlock → K (a.put o.dst v') w') : Oper.wp Tryd.prog o a w K Q := by
  obtain ⟨v', w', hr, h1, h2, h3⟩ := app_bytes base o.type hown hy c hn hbase
  unfold Oper.wp execOp
  simp only [ho, resolve, invoke, builtin, Sem.run_bind, Sem.run_pure, Result.andThen_ok, List.map_toArray, List.map_cons, List.map_nil, hs, hx, hr]
  exact h _ _ h1 h2

set_option maxRecDepth 1000000 in
set_option maxHeartbeats 6400000 in
theorem refBytes4_any (e : Ent) (ho : e.Ok) (hr : rightE e) (w : World) :
    Calls Tryd.prog 49 #[entV e] w fun r w' => ∃ v, r = .returned v ∧ OwnB w.heap.size w' v (bytesE e) ∧ Below w.heap.size w w' := by
  obtain ⟨f, t, a, m, n, k⟩ := e
  obtain ⟨a0, a1, m0, m1, n0, n1, k0, k1⟩ := ho
  obtain ⟨f0, f1, t0, t1⟩ := hr
  dsimp only at a0 a1 m0 m1 n0 n1 k0 k1 f0 f1 t0 t1
  have wf : IntKind.u32.wrap f = f := by rw [IntKind.wrap_u32]; omega
  have wt : IntKind.u32.wrap t = t := by rw [IntKind.wrap_u32]; omega
  have HBW := Lib.hid (bigE w (.cells #[.int .i64 f, .int .i64 t, .int .u32 a, .int .u32 m, .int .u32 n, .int .u32 k] 55))
  have HBL := Lib.hid (Blk.new w 55 #[.int .i64 f, .int .i64 t, .int .u32 a, .int .u32 m, .int .u32 n, .int .u32 k])
  have HP0 := Lib.hid (fun W => refB2 f f0 (by omega) W)
  have HP1 := Lib.hid (fun W => refB2 t t0 (by omega) W)
  have HP2 := Lib.hid (fun W => refB4 a a0 a1 W)
  have HP3 := Lib.hid (fun W => refB4 m m0 m1 W)
  have HP4 := Lib.hid (fun W => refB4 n n0 n1 W)
  have HP5 := Lib.hid (fun W => refB4 k k0 k1 W)
  have hBE : be 2 f ++ be 2 t ++ be 4 a ++ be 4 m ++ be 4 n ++ be 4 k = bytesE ⟨f, t, a, m, n, k⟩ := by simp [bytesE]
  have HBE := Lib.hid hBE
  go_enter Tryd.func49, Tryd.ntmps49
  go_wp2_with fail
  generalize hWW : w.alloc (.cells #[.int .i64 f, .int .i64 t, .int .u32 a, .int .u32 m, .int .u32 n, .int .u32 k] 55) = W at *
  have hsz : W.heap.size = w.heap.size + 1 := by rw [← hWW]; simp
  have HSZ := Lib.hid hsz
  clear hWW hsz f0 f1 t0 t1 a0 a1 m0 m1 n0 n1 k0 k1 hBE
  have HK : Hid (∀ w2, Below W.heap.size W w2 → B4S w W f t a m n k w2) := fun w2 hb => by
    have h := HBL.out.below hb HBL.out.lt
    exact ⟨h.cell 0, h.cell 1, h.cell 2, h.cell 3, h.cell 4, h.cell 5, hb⟩
  clear HBL
  have hd0 : Below W.heap.size W W.drew := by
    have h := Below.refl W.heap.size W
    exact ⟨h.os, h.tape, h.output, h.size, h.block⟩
  refine wp_region_noPanic ?_
  refine wp_region_held_drew (S := B4S w W f t a m n k) (by kernel_rfl) (HK.out _ hd0) ?_
  intro hSd0
  refine wpAnyH_take (i := 0) (v := ?v1) (by rw [List.getElem?_toArray]; exact rfl) (by kernel_rfl) (by kernel_rfl) (by kernel_rfl) (fun _ _ _ h => h) (Or.inl ⟨by rfl, ?hy1⟩) (by assumption) ?rest1
  case hy1 => intro w hSw; (try dsimp only at hSw); (try unfold B4S at hSw); go_simp; (try with_reducible rfl)
  try simp only [Act.put, List.setIfInBounds_toArray, List.set_cons_zero, List.set_cons_succ]
  refine wpAnyH_take (i := 1) (v := ?v2) (by rw [List.getElem?_toArray]; exact rfl) (by kernel_rfl) (by kernel_rfl) (by kernel_rfl) (fun _ _ _ h => h) (Or.inl ⟨by rfl, ?hy2⟩) (by assumption) ?rest2
  case hy2 => intro w hSw; (try dsimp only at hSw); (try unfold B4S at hSw); go_simp; (try with_reducible rfl)
  try simp only [Act.put, List.setIfInBounds_toArray, List.set_cons_zero, List.set_cons_succ]
  refine wpAnyH_take (i := 2) (v := ?v3) (by rw [List.getElem?_toArray]; exact rfl) (by kernel_rfl) (by kernel_rfl) (by kernel_rfl) (fun _ _ _ h => h) (Or.inl ⟨by rfl, ?hy3⟩) (by assumption) ?rest3
  case hy3 => intro w hSw; (try dsimp only at hSw); (try unfold B4S at hSw); go_simp; (try with_reducible rfl)
  try simp only [Act.put, List.setIfInBounds_toArray, List.set_cons_zero, List.set_cons_succ]
  refine wpAnyH_take (i := 4) (v := ?v4) (by rw [List.getElem?_toArray]; exact rfl) (by kernel_rfl) (by kernel_rfl) (by kernel_rfl) (fun _ _ _ h => h) (Or.inl ⟨by rfl, ?hy4⟩) (by assumption) ?rest4
  case hy4 => intro w hSw; (try dsimp only at hSw); (try unfold B4S at hSw); go_simp; (try with_reducible rfl)
  try simp only [Act.put, List.setIfInBounds_toArray, List.set_cons_zero, List.set_cons_succ]
  refine wpAnyH_take (i := 5) (v := ?v5) (by rw [List.getElem?_toArray]; exact rfl) (by kernel_rfl) (by kernel_rfl) (by kernel_rfl) (fun _ _ _ h => h) (Or.inl ⟨by rfl, ?hy5⟩) (by assumption) ?rest5
  case hy5 => intro w hSw; (try dsimp only at hSw); (try unfold B4S at hSw); go_simp; (try with_reducible rfl)
  try simp only [Act.put, List.setIfInBounds_toArray, List.set_cons_zero, List.set_cons_succ]
  refine wpAnyH_take (i := 6) (v := ?v6) (by rw [List.getElem?_toArray]; exact rfl) (by kernel_rfl) (by kernel_rfl) (by kernel_rfl) (fun _ _ _ h => h) (Or.inl ⟨by rfl, ?hy6⟩) (by assumption) ?rest6
  case hy6 => intro w hSw; (try dsimp only at hSw); (try unfold B4S at hSw); go_simp; (try with_reducible rfl)
  try simp only [Act.put, List.setIfInBounds_toArray, List.set_cons_zero, List.set_cons_succ]
  refine ready_call (i := 3) (by kernel_rfl) (by rw [List.getElem?_toArray]; exact rfl) (by kernel_rfl) (fun K1 hK1 => ?_)
  go_simp
  refine (HP0.out _).mono ?_
  rintro e w1 ⟨v0, rfl, ho0, hb1⟩
  have hB1 := hd0.trans (hb1.mono hd0.size)
  have HO0 := Lib.hid (Joins.ownsRow_le ho0 hd0.size)
  clear ho0 hb1
  refine hK1.out _ _ (HK.out _ hB1) (fun hS1 => ?_)
  clear hK1 K1
  try simp only [Act.put, List.setIfInBounds_toArray, List.set_cons_zero, List.set_cons_succ]
  refine ready_call (i := 7) (by kernel_rfl) (by rw [List.getElem?_toArray]; exact rfl) (by kernel_rfl) (fun K1 hK1 => ?_)
  go_simp
  refine (HP1.out _).mono ?_
  rintro e w2 ⟨v1, rfl, ho1, hb2⟩
  have hB2 := hB1.trans (hb2.mono hB1.size)
  have HO1 := Lib.hid (Joins.ownsRow_le ho1 hB1.size)
  have HA2 := Lib.hid (HO0.out.kept (grown_below hb2 none) (Classical.em _))
  clear ho1 hb2
  refine hK1.out _ _ (HK.out _ hB2) (fun hS2 => ?_)
  clear hK1 K1
  try simp only [Act.put, List.setIfInBounds_toArray, List.set_cons_zero, List.set_cons_succ]
  refine ready_call (i := 8) (by kernel_rfl) (by rw [List.getElem?_toArray]; exact rfl) (by kernel_rfl) (fun K1 hK1 => ?_)
  obtain ⟨p1, c1, rfl, _, hy1, _⟩ := OwnB.byS HO1.out
  have HY1 := Lib.hid hy1
  clear hy1 HO1
  refine wp_app_bytes (.tmp 7) (.tmp 11) (by rfl) W.heap.size (v := v0) (xs := be 2 f) (by rfl) HA2.out (p := p1) (ys := be 2 t) (c := c1) (by simp [go_sem]) HY1.out (by simp) hB2.size ?_
  intro z3 w3 oz3 gz3
  have hB3 := own_below hB2.size hB2 HA2.out gz3
  have HZ3 := Lib.hid oz3
  clear oz3 gz3
  refine hK1.out _ _ (HK.out _ hB3) (fun hS3 => ?_)
  clear hK1 K1
  try simp only [Act.put, List.setIfInBounds_toArray, List.set_cons_zero, List.set_cons_succ]
  refine wpAnyH_take (i := 9) (v := ?v7) (by rw [List.getElem?_toArray]; exact rfl) (by kernel_rfl) (by kernel_rfl) (by kernel_rfl) (fun _ _ _ h => h) (Or.inl ⟨by rfl, ?hy7⟩) (by assumption) ?rest7
  case hy7 => intro w hSw; (try dsimp only at hSw); (try unfold B4S at hSw); go_simp; (try with_reducible rfl)
  try simp only [Act.put, List.setIfInBounds_toArray, List.set_cons_zero, List.set_cons_succ]
  refine wpAnyH_done (by kernel_rfl) ?_ _
  refine NoPanic.normal ?_
  go_wp2_with fail
  have hd1 : Below W.heap.size W w3.drew := by
    have h := hB3
    exact ⟨h.os, h.tape, h.output, h.size, h.block⟩
  refine wp_region_noPanic ?_
  refine wp_region_held_drew (S := B4S w W f t a m n k) (by kernel_rfl) (HK.out _ hd1) ?_
  intro hSd1
  refine wpAnyH_take (i := 0) (v := ?v8) (by rw [List.getElem?_toArray]; exact rfl) (by kernel_rfl) (by kernel_rfl) (by kernel_rfl) (fun _ _ _ h => h) (Or.inl ⟨by rfl, ?hy8⟩) (by assumption) ?rest8
  case hy8 => intro w hSw; (try dsimp only at hSw); (try unfold B4S at hSw); go_simp; (try with_reducible rfl)
  try simp only [Act.put, List.setIfInBounds_toArray, List.set_cons_zero, List.set_cons_succ]
  refine wpAnyH_take (i := 1) (v := ?v9) (by rw [List.getElem?_toArray]; exact rfl) (by kernel_rfl) (by kernel_rfl) (by kernel_rfl) (fun _ _ _ h => h) (Or.inl ⟨by rfl, ?hy9⟩) (by assumption) ?rest9
  case hy9 => intro w hSw; (try dsimp only at hSw); (try unfold B4S at hSw); go_simp; (try with_reducible rfl)
  try simp only [Act.put, List.setIfInBounds_toArray, List.set_cons_zero, List.set_cons_succ]
  refine wpAnyH_take (i := 2) (v := ?v10) (by rw [List.getElem?_toArray]; exact rfl) (by kernel_rfl) (by kernel_rfl) (by kernel_rfl) (fun _ _ _ h => h) (Or.inl ⟨by rfl, ?hy10⟩) (by assumption) ?rest10
  case hy10 => intro w hSw; (try dsimp only at hSw); (try unfold B4S at hSw); go_simp; (try with_reducible rfl)
  try simp only [Act.put, List.setIfInBounds_toArray, List.set_cons_zero, List.set_cons_succ]
  refine wpAnyH_take (i := 5) (v := ?v11) (by rw [List.getElem?_toArray]; exact rfl) (by kernel_rfl) (by kernel_rfl) (by kernel_rfl) (fun _ _ _ h => h) (Or.inl ⟨by rfl, ?hy11⟩) (by assumption) ?rest11
  case hy11 => intro w hSw; (try dsimp only at hSw); (try unfold B4S at hSw); go_simp; (try with_reducible rfl)
  try simp only [Act.put, List.setIfInBounds_toArray, List.set_cons_zero, List.set_cons_succ]
  refine wpAnyH_take (i := 6) (v := ?v12) (by rw [List.getElem?_toArray]; exact rfl) (by kernel_rfl) (by kernel_rfl) (by kernel_rfl) (fun _ _ _ h => h) (Or.inl ⟨by rfl, ?hy12⟩) (by assumption) ?rest12
  case hy12 => intro w hSw; (try dsimp only at hSw); (try unfold B4S at hSw); go_simp; (try with_reducible rfl)
  try simp only [Act.put, List.setIfInBounds_toArray, List.set_cons_zero, List.set_cons_succ]
  have HD1 : Hid (OwnB W.heap.size w3.drew z3 (be 2 f ++ be 2 t)) := HZ3.out.kept (grown_drew _ none) (Classical.em _)
  refine ready_call (i := 3) (by kernel_rfl) (by rw [List.getElem?_toArray]; exact rfl) (by kernel_rfl) (fun K1 hK1 => ?_)
  go_simp
  refine (HP2.out _).mono ?_
  rintro e w4 ⟨v2, rfl, ho2, hb4⟩
  have hB4 := hd1.trans (hb4.mono hd1.size)
  have HO2 := Lib.hid (Joins.ownsRow_le ho2 hd1.size)
  have HA4 := Lib.hid (HD1.out.kept (grown_below hb4 none) (Classical.em _))
  clear ho2 hb4
  refine hK1.out _ _ (HK.out _ hB4) (fun hS4 => ?_)
  clear hK1 K1
  try simp only [Act.put, List.setIfInBounds_toArray, List.set_cons_zero, List.set_cons_succ]
  refine ready_call (i := 4) (by kernel_rfl) (by rw [List.getElem?_toArray]; exact rfl) (by kernel_rfl) (fun K1 hK1 => ?_)
  obtain ⟨p2, c2, rfl, _, hy2, _⟩ := OwnB.byS HO2.out
  have HY2 := Lib.hid hy2
  clear hy2 HO2
  refine wp_app_bytes (.tmp 13) (.tmp 16) (by rfl) W.heap.size (v := z3) (xs := be 2 f ++ be 2 t) (by rfl) HA4.out (p := p2) (ys := be 4 a) (c := c2) (by simp [go_sem]) HY2.out (by simp) hB4.size ?_
  intro z5 w5 oz5 gz5
  have hB5 := own_below hB4.size hB4 HA4.out gz5
  have HZ5 := Lib.hid oz5
  clear oz5 gz5
  refine hK1.out _ _ (HK.out _ hB5) (fun hS5 => ?_)
  clear hK1 K1
  try simp only [Act.put, List.setIfInBounds_toArray, List.set_cons_zero, List.set_cons_succ]
  refine ready_call (i := 7) (by kernel_rfl) (by rw [List.getElem?_toArray]; exact rfl) (by kernel_rfl) (fun K1 hK1 => ?_)
  go_simp
  refine (HP3.out _).mono ?_
  rintro e w6 ⟨v3, rfl, ho3, hb6⟩
  have hB6 := hB5.trans (hb6.mono hB5.size)
  have HO3 := Lib.hid (Joins.ownsRow_le ho3 hB5.size)
  have HA6 := Lib.hid (HZ5.out.kept (grown_below hb6 none) (Classical.em _))
  clear ho3 hb6
  refine hK1.out _ _ (HK.out _ hB6) (fun hS6 => ?_)
  clear hK1 K1
  try simp only [Act.put, List.setIfInBounds_toArray, List.set_cons_zero, List.set_cons_succ]
  refine ready_call (i := 8) (by kernel_rfl) (by rw [List.getElem?_toArray]; exact rfl) (by kernel_rfl) (fun K1 hK1 => ?_)
  obtain ⟨p3, c3, rfl, _, hy3, _⟩ := OwnB.byS HO3.out
  have HY3 := Lib.hid hy3
  clear hy3 HO3
  refine wp_app_bytes (.tmp 17) (.tmp 20) (by rfl) W.heap.size (v := z5) (xs := be 2 f ++ be 2 t ++ be 4 a) (by rfl) HA6.out (p := p3) (ys := be 4 m) (c := c3) (by simp [go_sem]) HY3.out (by simp) hB6.size ?_
  intro z7 w7 oz7 gz7
  have hB7 := own_below hB6.size hB6 HA6.out gz7
  have HZ7 := Lib.hid oz7
  clear oz7 gz7
  refine hK1.out _ _ (HK.out _ hB7) (fun hS7 => ?_)
  clear hK1 K1
  try simp only [Act.put, List.setIfInBounds_toArray, List.set_cons_zero, List.set_cons_succ]
  refine wpAnyH_take (i := 9) (v := ?v13) (by rw [List.getElem?_toArray]; exact rfl) (by kernel_rfl) (by kernel_rfl) (by kernel_rfl) (fun _ _ _ h => h) (Or.inl ⟨by rfl, ?hy13⟩) (by assumption) ?rest13
  case hy13 => intro w hSw; (try dsimp only at hSw); (try unfold B4S at hSw); go_simp; (try with_reducible rfl)
  try simp only [Act.put, List.setIfInBounds_toArray, List.set_cons_zero, List.set_cons_succ]
  refine wpAnyH_done (by kernel_rfl) ?_ _
  refine NoPanic.normal ?_
  go_wp2_with fail
  have hd2 : Below W.heap.size W w7.drew := by
    have h := hB7
    exact ⟨h.os, h.tape, h.output, h.size, h.block⟩
  refine wp_region_noPanic ?_
  refine wp_region_held_drew (S := B4S w W f t a m n k) (by kernel_rfl) (HK.out _ hd2) ?_
  intro hSd2
  refine wpAnyH_take (i := 0) (v := ?v14) (by rw [List.getElem?_toArray]; exact rfl) (by kernel_rfl) (by kernel_rfl) (by kernel_rfl) (fun _ _ _ h => h) (Or.inl ⟨by rfl, ?hy14⟩) (by assumption) ?rest14
  case hy14 => intro w hSw; (try dsimp only at hSw); (try unfold B4S at hSw); go_simp; (try with_reducible rfl)
  try simp only [Act.put, List.setIfInBounds_toArray, List.set_cons_zero, List.set_cons_succ]
  refine wpAnyH_take (i := 1) (v := ?v15) (by rw [List.getElem?_toArray]; exact rfl) (by kernel_rfl) (by kernel_rfl) (by kernel_rfl) (fun _ _ _ h => h) (Or.inl ⟨by rfl, ?hy15⟩) (by assumption) ?rest15
  case hy15 => intro w hSw; (try dsimp only at hSw); (try unfold B4S at hSw); go_simp; (try with_reducible rfl)
  try simp only [Act.put, List.setIfInBounds_toArray, List.set_cons_zero, List.set_cons_succ]
  refine wpAnyH_take (i := 2) (v := ?v16) (by rw [List.getElem?_toArray]; exact rfl) (by kernel_rfl) (by kernel_rfl) (by kernel_rfl) (fun _ _ _ h => h) (Or.inl ⟨by rfl, ?hy16⟩) (by assumption) ?rest16
  case hy16 => intro w hSw; (try dsimp only at hSw); (try unfold B4S at hSw); go_simp; (try with_reducible rfl)
  try simp only [Act.put, List.setIfInBounds_toArray, List.set_cons_zero, List.set_cons_succ]
  refine wpAnyH_take (i := 5) (v := ?v17) (by rw [List.getElem?_toArray]; exact rfl) (by kernel_rfl) (by kernel_rfl) (by kernel_rfl) (fun _ _ _ h => h) (Or.inl ⟨by rfl, ?hy17⟩) (by assumption) ?rest17
  case hy17 => intro w hSw; (try dsimp only at hSw); (try unfold B4S at hSw); go_simp; (try with_reducible rfl)
  try simp only [Act.put, List.setIfInBounds_toArray, List.set_cons_zero, List.set_cons_succ]
  refine wpAnyH_take (i := 6) (v := ?v18) (by rw [List.getElem?_toArray]; exact rfl) (by kernel_rfl) (by kernel_rfl) (by kernel_rfl) (fun _ _ _ h => h) (Or.inl ⟨by rfl, ?hy18⟩) (by assumption) ?rest18
  case hy18 => intro w hSw; (try dsimp only at hSw); (try unfold B4S at hSw); go_simp; (try with_reducible rfl)
  try simp only [Act.put, List.setIfInBounds_toArray, List.set_cons_zero, List.set_cons_succ]
  have HD2 : Hid (OwnB W.heap.size w7.drew z7 (be 2 f ++ be 2 t ++ be 4 a ++ be 4 m)) := HZ7.out.kept (grown_drew _ none) (Classical.em _)
  refine ready_call (i := 3) (by kernel_rfl) (by rw [List.getElem?_toArray]; exact rfl) (by kernel_rfl) (fun K1 hK1 => ?_)
  go_simp
  refine (HP4.out _).mono ?_
  rintro e w8 ⟨v4, rfl, ho4, hb8⟩
  have hB8 := hd2.trans (hb8.mono hd2.size)
  have HO4 := Lib.hid (Joins.ownsRow_le ho4 hd2.size)
  have HA8 := Lib.hid (HD2.out.kept (grown_below hb8 none) (Classical.em _))
  clear ho4 hb8
  refine hK1.out _ _ (HK.out _ hB8) (fun hS8 => ?_)
  clear hK1 K1
  try simp only [Act.put, List.setIfInBounds_toArray, List.set_cons_zero, List.set_cons_succ]
  refine ready_call (i := 4) (by kernel_rfl) (by rw [List.getElem?_toArray]; exact rfl) (by kernel_rfl) (fun K1 hK1 => ?_)
  obtain ⟨p4, c4, rfl, _, hy4, _⟩ := OwnB.byS HO4.out
  have HY4 := Lib.hid hy4
  clear hy4 HO4
  refine wp_app_bytes (.tmp 22) (.tmp 25) (by rfl) W.heap.size (v := z7) (xs := be 2 f ++ be 2 t ++ be 4 a ++ be 4 m) (by rfl) HA8.out (p := p4) (ys := be 4 n) (c := c4) (by simp [go_sem]) HY4.out (by simp) hB8.size ?_
  intro z9 w9 oz9 gz9
  have hB9 := own_below hB8.size hB8 HA8.out gz9
  have HZ9 := Lib.hid oz9
  clear oz9 gz9
  refine hK1.out _ _ (HK.out _ hB9) (fun hS9 => ?_)
  clear hK1 K1
  try simp only [Act.put, List.setIfInBounds_toArray, List.set_cons_zero, List.set_cons_succ]
  refine ready_call (i := 7) (by kernel_rfl) (by rw [List.getElem?_toArray]; exact rfl) (by kernel_rfl) (fun K1 hK1 => ?_)
  go_simp
  refine (HP5.out _).mono ?_
  rintro e w10 ⟨v5, rfl, ho5, hb10⟩
  have hB10 := hB9.trans (hb10.mono hB9.size)
  have HO5 := Lib.hid (Joins.ownsRow_le ho5 hB9.size)
  have HA10 := Lib.hid (HZ9.out.kept (grown_below hb10 none) (Classical.em _))
  clear ho5 hb10
  refine hK1.out _ _ (HK.out _ hB10) (fun hS10 => ?_)
  clear hK1 K1
  try simp only [Act.put, List.setIfInBounds_toArray, List.set_cons_zero, List.set_cons_succ]
  refine ready_call (i := 8) (by kernel_rfl) (by rw [List.getElem?_toArray]; exact rfl) (by kernel_rfl) (fun K1 hK1 => ?_)
  obtain ⟨p5, c5, rfl, _, hy5, _⟩ := OwnB.byS HO5.out
  have HY5 := Lib.hid hy5
  clear hy5 HO5
  refine wp_app_bytes (.tmp 26) (.tmp 29) (by rfl) W.heap.size (v := z9) (xs := be 2 f ++ be 2 t ++ be 4 a ++ be 4 m ++ be 4 n) (by rfl) HA10.out (p := p5) (ys := be 4 k) (c := c5) (by simp [go_sem]) HY5.out (by simp) hB10.size ?_
  intro z11 w11 oz11 gz11
  have hB11 := own_below hB10.size hB10 HA10.out gz11
  have HZ11 := Lib.hid oz11
  clear oz11 gz11
  refine hK1.out _ _ (HK.out _ hB11) (fun hS11 => ?_)
  clear hK1 K1
  try simp only [Act.put, List.setIfInBounds_toArray, List.set_cons_zero, List.set_cons_succ]
  refine wpAnyH_take (i := 9) (v := ?v19) (by rw [List.getElem?_toArray]; exact rfl) (by kernel_rfl) (by kernel_rfl) (by kernel_rfl) (fun _ _ _ h => h) (Or.inl ⟨by rfl, ?hy19⟩) (by assumption) ?rest19
  case hy19 => intro w hSw; (try dsimp only at hSw); (try unfold B4S at hSw); go_simp; (try with_reducible rfl)
  try simp only [Act.put, List.setIfInBounds_toArray, List.set_cons_zero, List.set_cons_succ]
  refine wpAnyH_done (by kernel_rfl) ?_ _
  refine NoPanic.normal ?_
  have HBF := Lib.hid (HBW.out.trans (hB11.mono (by have := HSZ.out; omega)))
  have hoF := Joins.ownsRow_le HZ11.out (show w.heap.size ≤ W.heap.size by have := HSZ.out; omega)
  rw [HBE.out] at hoF
  have HOF := Lib.hid hoF
  clear hoF
  go_wp2_with fail
  go_ret
  exact ⟨_, rfl, HOF.out, HBF.out⟩
end Go.Proofs.YtehhablobfaplaaDoor
