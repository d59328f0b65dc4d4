/- The statements' rows: what is gone over is what is wanted. -/
import Derived.Test.YtghkacciihocdaaI28
import Derived.Test.YtghkacciihocdaaU3
namespace Go.Proofs.Ytghkacciihocdaa
open Go Go.RowKit Go.Shelf Go.Sort
attribute [local go_sem] Oper.semAt_some
namespace T6

def rowOfS (s : Snap) : Row6 := ((kx s.k, kn s.k), s.v)
/-- The blocks of its own: what is wanted, how many, the answer, the counter. -/
structure RwC (w : World) (A : Option Addr) (c : Nat) (want : List Row6) (many : Int) (n : Nat) (W : World) : Prop where
  b0 : Blk W w.heap.size 26 #[.slice A want.length c]
  b1 : Blk W (w.heap.size + 1) 3 #[.int .i64 many]
  b2 : Blk W (w.heap.size + 2) 4 #[.bool false]
  b3 : Blk W (w.heap.size + 3) 3 #[.int .i64 n]
  bel : Below w.heap.size w W
theorem RwC.keptC {B : Nat} {w : World} {A : Option Addr} {c : Nat} {want : List Row6} {many : Int} {n : Nat} {W W' : World} (h : RwC w A c want many n W) (hk : KeptC B W W') (hB : w.heap.size ≤ B) : RwC w A c want many n W' :=
  ⟨blkC h.b0 hk, blkC h.b1 hk, blkC h.b2 hk, blkC h.b3 hk, hk.below h.bel hB h.bel.size⟩
theorem RwC.next {w : World} {A : Option Addr} {c : Nat} {want : List Row6} {many : Int} {n : Nat} {W : World} (h : RwC w A c want many n W) (m : Nat) : RwC w A c want many m (W.setCell ⟨w.heap.size + 3, 0, none⟩ (.int .i64 m)) :=
  ⟨h.b0.far (by simp) _, h.b1.far (by simp) _, h.b2.far (by simp) _, by simpa using h.b3.set_ 0 (.int .i64 m), h.bel.setCell (by simp) _⟩
theorem seqNil6 (f : FuncId) (c : Array Value) (w : World) : (binOp BinOp.eql 49 (.func (.func f) #[] c) .nilFunc).run Try.prog w = .ok (.bool false) w := by kernel_rfl
theorem nePfx_run (x n y m : Int) (w : World) : (binOp .neq 34 (pfx x n) (pfx y m)).run Try.prog w = .ok (.bool (!(x == y && n == m))) w := by
  simp [go_sem, pfx]
  by_cases h1 : x = y <;> by_cases h2 : n = m <;> simp [h1, h2]
theorem keeps_drew (B : Nat) (W : World) : KeepsFrom B W W.drew := ⟨Nat.le_refl _, fun _ _ _ h _ => h⟩
def RwI (w : World) (A : Option Addr) (c : Nat) (want : List Row6) (many : Int) (l : List Snap) (i : Nat) (W : World) : Prop := i < l.length ∧ RwC w A c want many i W ∧ (i = 0 ∨ (i : Int) < many)
def RwI' (w : World) (A : Option Addr) (c : Nat) (want : List Row6) (many : Int) (l : List Snap) (i : Nat) (W : World) : Prop := i < l.length ∧ RwC w A c want many (i + 1) W ∧ ((i + 1 : Nat) : Int) < many
def RwX (w : World) (A : Option Addr) (c : Nat) (want : List Row6) (many : Int) (l : List Snap) (W : World) : Prop := ∃ n : Nat, RwC w A c want many n W ∧ 0 < n ∧ n ≤ l.length ∧ many ≤ n ∧ (n = 1 ∨ ((n - 1 : Nat) : Int) < many)
def RwF (w : World) (A : Option Addr) (c : Nat) (want : List Row6) (many : Int) (l : List Snap) (W : World) : Prop := RwC w A c want many l.length W ∧ (l.length = 0 ∨ (l.length : Int) < many)
set_option maxRecDepth 100000 in
set_option maxHeartbeats 3200000 in
theorem rows6_any (bs : Nat) (As : Option Addr) (cs : Nat) (l : List Snap) (A : Option Addr) (c : Nat) (want : List Row6) (many : Int) (hm0 : -9223372036854775808 ≤ many) (hm1 : many ≤ 9223372036854775807) (hlen : l.length ≤ 1000) (hw : l.map rowOfS = want) (w : World) (hT : TC bs As cs l w) (hA : LiesS w A (rowCs want)) :
    Calls Try.prog 20 #[.func (.func 65) #[] #[.pointer (some ⟨bs, 0, none⟩)], .slice A want.length c, .int .i64 many] w fun e w' => e = .returned (.bool true) ∧ Below w.heap.size w w' := by
  have hwl : want.length = l.length := by rw [← hw, List.length_map]
  have hbsl := hT.1.lt
  refine callsIn_wide (n := 6) |>.1 ?_
  refine callsIn_of_wp_marks Try.func20 rfl trivial ?_ rfl
  simp only [Try.ntmps20, List.size_toArray, List.length_cons, List.length_nil, Nat.reduceAdd, Nat.reduceSub, Array.replicate_succ, Array.replicate_zero, List.push_toArray, List.append_toArray, List.nil_append, List.cons_append]
  have HR : Hid (RwC w A c want many 0 ((((w.alloc (.cells #[.slice A want.length c] 26)).alloc (.cells #[.int .i64 many] 3)).alloc (.cells #[.bool false] 4)).alloc (.cells #[.int .i64 0] 3))) := Lib.hid (by
    have e1 : (w.alloc (.cells #[.slice A want.length c] 26)).heap.size = w.heap.size + 1 := by simp
    have e2 : ((w.alloc (.cells #[.slice A want.length c] 26)).alloc (.cells #[.int .i64 many] 3)).heap.size = w.heap.size + 2 := by simp
    have e3 : (((w.alloc (.cells #[.slice A want.length c] 26)).alloc (.cells #[.int .i64 many] 3)).alloc (.cells #[.bool false] 4)).heap.size = w.heap.size + 3 := by simp
    refine ⟨(((Blk.new w _ _).alloc _).alloc _).alloc _, ?_, ?_, ?_, ((two_below w _ _).alloc (by simp; omega) _).alloc (by simp; omega) _⟩
    · have := ((Blk.new (w.alloc (.cells #[.slice A want.length c] 26)) 3 #[.int .i64 many]).alloc (.cells #[.bool false] 4)).alloc (.cells #[.int .i64 0] 3)
      rw [e1] at this; exact this
    · have := (Blk.new ((w.alloc (.cells #[.slice A want.length c] 26)).alloc (.cells #[.int .i64 many] 3)) 4 #[.bool false]).alloc (.cells #[.int .i64 0] 3)
      rw [e2] at this; exact this
    · have := Blk.new (((w.alloc (.cells #[.slice A want.length c] 26)).alloc (.cells #[.int .i64 many] 3)).alloc (.cells #[.bool false] 4)) 3 #[.int .i64 0]
      rw [e3] at this; exact this)
  have HTC := Lib.hid (fun (W : World) (hb : Below w.heap.size w W) => (⟨hT.1.below hb hT.1.lt, hT.2.below hb⟩ : TC bs As cs l W))
  have HLA := Lib.hid (fun (W : World) (hb : Below w.heap.size w W) => hA.below hb)
  have hz4 : ((((w.alloc (.cells #[.slice A want.length c] 26)).alloc (.cells #[.int .i64 many] 3)).alloc (.cells #[.bool false] 4)).alloc (.cells #[.int .i64 0] 3)).heap.size = w.heap.size + 4 := by simp
  have hsn := fun W => seqNil6 65 #[.pointer (some ⟨bs, 0, none⟩)] W
  have HWL := Lib.hid (And.intro hwl hw)
  clear hT hA hwl hw
  gi_wp2_with fail
  generalize ((((w.alloc (.cells #[.slice A want.length c] 26)).alloc (.cells #[.int .i64 many] 3)).alloc (.cells #[.bool false] 4)).alloc (.cells #[.int .i64 0] 3)) = W3 at *
  have hI0 : ∀ W, Below W3.heap.size W3 W → StT bs As cs l (RwI w A c want many l) (RwF w A c want many l) W := fun W hb => by
    have hR := HR.out.keptC (KeptC.calls (B := w.heap.size) hb) (Nat.le_refl _)
    exact ⟨HTC.out W hR.bel, fun e => ⟨by rw [e]; exact hR, .inl e⟩, fun h => ⟨h, hR, .inl rfl⟩⟩
  have HI0 := Lib.hid hI0
  clear hI0 hsn
  refine wpIn_rangeFunc_D (σ := Nat) rfl (by decide) (gf := 65) (lb := #[.pointer (some ⟨bs, 0, none⟩)]) rfl trivial (enters_of Try.func65 (by kernel_rfl) rfl)
    (told_iter 5 (by decide) bs As cs l (by omega) W3) StT_mono StpT_mono (Below.refl _ _) (fun _ => rfl)
    (RwI w A c want many l) (RwI' w A c want many l) (fun cd W => cd = .exit 0 ∧ RwX w A c want many l W) (RwF w A c want many l)
    (ownC_of fun s A' B' h hk => ⟨h.1, h.2.1.keptC hk (by omega), h.2.2⟩) (ownC_of fun s A' B' h hk => ⟨h.1, h.2.1.keptC hk (by omega), h.2.2⟩) (fun cd => ownC_of fun _ A' B' h hk => ⟨h.1, h.2.elim fun n hn => ⟨n, hn.1.keptC hk (by omega), hn.2⟩⟩) (ownC_of fun _ A' B' h hk => ⟨h.1.keptC hk (by omega), h.2⟩)
    HI0.out (fun i W h => ⟨h.1, HTC.out W h.2.1.bel, fun e => ⟨by rw [← e]; exact h.2.1, .inr (by rw [← e]; exact h.2.2)⟩, fun hlt => ⟨hlt, h.2.1, .inr h.2.2⟩⟩)
    (fun i a' W => ∃ Bx, Blk W Bx 34 #[.int .u32 (kx (l[i]?.getD ⟨[], false, 0, none, none⟩).k), .int .i64 (kn (l[i]?.getD ⟨[], false, 0, none, none⟩).k)] ∧ w.heap.size + 4 ≤ Bx ∧ a' = { tmps := #[.func (.func 65) #[] #[.pointer (some ⟨bs, 0, none⟩)], .slice A want.length c, .int .i64 many, undef, .pointer (some ⟨w.heap.size, 0, none⟩), .pointer (some ⟨w.heap.size + 1, 0, none⟩), .pointer (some ⟨w.heap.size + 1 + 1, 0, none⟩), .pointer (some ⟨w.heap.size + 1 + 1 + 1, 0, none⟩), .pointer (some ⟨Bx, 0, none⟩), .int .i64 (l[i]?.getD ⟨[], false, 0, none, none⟩).v,
      .func (.func 65) #[] #[.pointer (some ⟨bs, 0, none⟩)], .bool false, .func (.func 65) #[] #[.pointer (some ⟨bs, 0, none⟩)], pfx (kx (l[i]?.getD ⟨[], false, 0, none, none⟩).k) (kn (l[i]?.getD ⟨[], false, 0, none, none⟩).k), .int .i64 (l[i]?.getD ⟨[], false, 0, none, none⟩).v,
      undef, undef, undef, undef, undef, undef, undef, undef, undef, undef, undef, undef, undef, undef, undef, undef, undef, undef, undef, undef, undef, undef, undef, undef, undef, undef, undef, undef, undef, undef, undef, undef, undef, undef], defers := [] })
    (fun i a' => ownC_of fun _ A' B' ⟨Bx, h1, h2, h3⟩ hk => ⟨Bx, blkC h1 hk, h2, h3⟩) ?assign ?body ?done ?stop
  case assign =>
    rintro lp i W K ⟨hi, hR, him⟩ hK
    have hz := hR.b3.lt
    have hRR := Lib.hid hR
    unfold encT encS
    clear hR
    generalize (l[i]?.getD ⟨[], false, 0, none, none⟩) = sn at *
    gi_wp2
    exact hK _ _ ((KeepsOthers.alloc _ _).from _) ⟨hi, hRR.out.keptC (KeptC.calls (B := w.heap.size) (box_below W _)) (Nat.le_refl _), him⟩ ⟨W.heap.size, Blk.new W _ _, by omega, rfl⟩
  case body =>
    rintro lp i a' W ⟨hi, hR, him⟩ ⟨Bx, hB, hBx, rfl⟩
    rw [List.getElem?_eq_getElem hi] at hB ⊢
    simp only [Option.getD_some] at hB ⊢
    have hiw : i < want.length := by rw [HWL.out.1]; exact hi
    have hwi : want[i]'hiw = rowOfS (l[i]'hi) := by
      have := HWL.out.2
      subst this
      simp
    obtain ⟨b, o, rfl, hbl, d0, d1, d2⟩ := lies_row (HLA.out W hR.bel) i hiw
    rw [hwi] at d0 d1 d2
    simp only [rowOfS] at d0 d1 d2
    have hRR := Lib.hid hR
    have c0 := hR.b0.cell 0
    have c1 := hR.b1.cell 0
    have c3 := hR.b3.cell 0
    have cb0 := hB.cell 0
    have cb1 := hB.cell 1
    have hf3 := hR.b3.frozen 0
    have hf2 := hR.b2.frozen 0
    simp only [List.getElem?_toArray, List.getElem?_cons_zero, List.getElem?_cons_succ] at c0 c1 c3 cb0 cb1
    have HNX : Hid (RwC w (some ⟨b, o, none⟩) c want many (i + 1) (W.setCell ⟨w.heap.size + 1 + 1 + 1, 0, none⟩ (.int .i64 ((i : Int) + 1))).drew) := Lib.hid (by
      have := (hR.next (i + 1)).keptC (KeptC.calls (B := w.heap.size) (below_drew _)) (Nat.le_refl _)
      have e : ((i + 1 : Nat) : Int) = (i : Int) + 1 := by omega
      rw [e] at this
      exact this)
    have HKP : Hid (KeepsFrom (w.heap.size + 4) W (W.setCell ⟨w.heap.size + 1 + 1 + 1, 0, none⟩ (.int .i64 ((i : Int) + 1))).drew) := Lib.hid (by
      have k1 := (KeepsOthers.setCell W ⟨w.heap.size + 1 + 1 + 1, 0, none⟩ (.int .i64 ((i : Int) + 1))).from (w.heap.size + 4)
      exact ⟨k1.1, k1.2⟩)
    have HIM := Lib.hid him
    clear him
    generalize hkx : kx (l[i]'hi).k = x at *
    generalize hkn : kn (l[i]'hi).k = n at *
    generalize hv : (l[i]'hi).v = v at *
    have hNE : ∀ W, (binOp .neq 34 (.agg #[.int .u32 x, .int .i64 n]) (.agg #[.int .u32 x, .int .i64 n])).run Try.prog W = .ok (.bool false) W := fun W => by
      have := nePfx_run x n x n W
      simpa [pfx] using this
    have hw3 := HWL.out.1
    have hi1 : (i : Int) < (want.length : Int) := by omega
    have hi2 : ¬ (want.length : Int) ≤ (i : Int) := by omega
    have hi3 : i < want.length := hiw
    have hib : (i : Int) ≤ 1000 := by omega
    have HL := Lib.hid hlen
    clear hR hB hwi hw3 hbsl
    gi_wp2_with fail
    refine region_round (by kernel_rfl) (fun _ => trivial) (by kernel_rfl) ?_
    refine AllY.take (i := 0) (v := ?v0) (by rw [List.getElem?_toArray]; exact rfl) (by kernel_rfl) (by kernel_rfl) (by kernel_rfl) (Or.inl ⟨by rfl, ?hy0⟩) ?_
    case hy0 => intro w hSw; subst hSw; go_simp; (try with_reducible rfl)
    try simp only [Act.put, List.setIfInBounds_toArray, List.set_cons_zero, List.set_cons_succ]
    refine AllY.take (i := 1) (v := ?v1) (by rw [List.getElem?_toArray]; exact rfl) (by kernel_rfl) (by kernel_rfl) (by kernel_rfl) (Or.inl ⟨by rfl, ?hy1⟩) ?_
    case hy1 => intro w hSw; subst hSw; go_simp; (try with_reducible rfl)
    try simp only [Act.put, List.setIfInBounds_toArray, List.set_cons_zero, List.set_cons_succ]
    refine AllY.take (i := 2) (v := ?v2) (by rw [List.getElem?_toArray]; exact rfl) (by kernel_rfl) (by kernel_rfl) (by kernel_rfl) (Or.inl ⟨by rfl, ?hy2⟩) ?_
    case hy2 => intro w hSw; subst hSw; go_simp; (try with_reducible rfl)
    try simp only [Act.put, List.setIfInBounds_toArray, List.set_cons_zero, List.set_cons_succ]
    refine AllY.take (i := 3) (v := .bool false) (by rw [List.getElem?_toArray]; exact rfl) (by kernel_rfl) (by kernel_rfl) (by kernel_rfl) (Or.inl ⟨by rfl, ?hy3⟩) ?_
    case hy3 => intro w hSw; subst hSw; go_simp
    try simp only [Act.put, List.setIfInBounds_toArray, List.set_cons_zero, List.set_cons_succ]
    refine AllY.take (i := 4) (v := ?v4) (by rw [List.getElem?_toArray]; exact rfl) (by kernel_rfl) (by kernel_rfl) (by kernel_rfl) (Or.inl ⟨by rfl, ?hy4⟩) ?_
    case hy4 => intro w hSw; subst hSw; go_simp; (try with_reducible rfl)
    try simp only [Act.put, List.setIfInBounds_toArray, List.set_cons_zero, List.set_cons_succ]
    refine AllY.take (i := 5) (v := ?v5) (by rw [List.getElem?_toArray]; exact rfl) (by kernel_rfl) (by kernel_rfl) (by kernel_rfl) (Or.inl ⟨by rfl, ?hy5⟩) ?_
    case hy5 => intro w hSw; subst hSw; go_simp; (try with_reducible rfl)
    try simp only [Act.put, List.setIfInBounds_toArray, List.set_cons_zero, List.set_cons_succ]
    refine AllY.take (i := 6) (v := ?v6) (by rw [List.getElem?_toArray]; exact rfl) (by kernel_rfl) (by kernel_rfl) (by kernel_rfl) (Or.inl ⟨by rfl, ?hy6⟩) ?_
    case hy6 => intro w hSw; subst hSw; go_simp; (try with_reducible rfl)
    try simp only [Act.put, List.setIfInBounds_toArray, List.set_cons_zero, List.set_cons_succ]
    refine AllY.take (i := 7) (v := ?v7) (by rw [List.getElem?_toArray]; exact rfl) (by kernel_rfl) (by kernel_rfl) (by kernel_rfl) (Or.inl ⟨by rfl, ?hy7⟩) ?_
    case hy7 => intro w hSw; subst hSw; go_simp; (try with_reducible rfl)
    try simp only [Act.put, List.setIfInBounds_toArray, List.set_cons_zero, List.set_cons_succ]
    refine AllY.take (i := 8) (v := ?v8) (by rw [List.getElem?_toArray]; exact rfl) (by kernel_rfl) (by kernel_rfl) (by kernel_rfl) (Or.inl ⟨by rfl, ?hy8⟩) ?_
    case hy8 => intro w hSw; subst hSw; go_simp; (try with_reducible rfl)
    try simp only [Act.put, List.setIfInBounds_toArray, List.set_cons_zero, List.set_cons_succ]
    refine AllY.take (i := 9) (v := ?v9) (by rw [List.getElem?_toArray]; exact rfl) (by kernel_rfl) (by kernel_rfl) (by kernel_rfl) (Or.inl ⟨by rfl, ?hy9⟩) ?_
    case hy9 => intro w hSw; subst hSw; go_simp; (try with_reducible rfl)
    try simp only [Act.put, List.setIfInBounds_toArray, List.set_cons_zero, List.set_cons_succ]
    refine AllY.take (i := 10) (v := ?v10) (by rw [List.getElem?_toArray]; exact rfl) (by kernel_rfl) (by kernel_rfl) (by kernel_rfl) (Or.inl ⟨by rfl, ?hy10⟩) ?_
    case hy10 => intro w hSw; subst hSw; go_simp; (try with_reducible rfl)
    try simp only [Act.put, List.setIfInBounds_toArray, List.set_cons_zero, List.set_cons_succ]
    refine AllY.take (i := 11) (v := ?v11) (by rw [List.getElem?_toArray]; exact rfl) (by kernel_rfl) (by kernel_rfl) (by kernel_rfl) (Or.inl ⟨by rfl, ?hy11⟩) ?_
    case hy11 => intro w hSw; subst hSw; go_simp; (try with_reducible rfl)
    try simp only [Act.put, List.setIfInBounds_toArray, List.set_cons_zero, List.set_cons_succ]
    refine AllY.take (i := 12) (v := ?v12) (by rw [List.getElem?_toArray]; exact rfl) (by kernel_rfl) (by kernel_rfl) (by kernel_rfl) (Or.inl ⟨by rfl, ?hy12⟩) ?_
    case hy12 => intro w hSw; subst hSw; go_simp; (try with_reducible rfl)
    try simp only [Act.put, List.setIfInBounds_toArray, List.set_cons_zero, List.set_cons_succ]
    refine AllY.take (i := 13) (v := ?v13) (by rw [List.getElem?_toArray]; exact rfl) (by kernel_rfl) (by kernel_rfl) (by kernel_rfl) (Or.inl ⟨by rfl, ?hy13⟩) ?_
    case hy13 => intro w hSw; subst hSw; go_simp; (try with_reducible rfl)
    try simp only [Act.put, List.setIfInBounds_toArray, List.set_cons_zero, List.set_cons_succ]
    refine AllY.take (i := 14) (v := ?v14) (by rw [List.getElem?_toArray]; exact rfl) (by kernel_rfl) (by kernel_rfl) (by kernel_rfl) (Or.inl ⟨by rfl, ?hy14⟩) ?_
    case hy14 => intro w hSw; subst hSw; go_simp; (try with_reducible rfl)
    try simp only [Act.put, List.setIfInBounds_toArray, List.set_cons_zero, List.set_cons_succ]
    refine AllY.take (i := 15) (v := ?v15) (by rw [List.getElem?_toArray]; exact rfl) (by kernel_rfl) (by kernel_rfl) (by kernel_rfl) (Or.inl ⟨by rfl, ?hy15⟩) ?_
    case hy15 => intro w hSw; subst hSw; go_simp; (try with_reducible rfl)
    try simp only [Act.put, List.setIfInBounds_toArray, List.set_cons_zero, List.set_cons_succ]
    refine AllY.take (i := 16) (v := ?v16) (by rw [List.getElem?_toArray]; exact rfl) (by kernel_rfl) (by kernel_rfl) (by kernel_rfl) (Or.inl ⟨by rfl, ?hy16⟩) ?_
    case hy16 => intro w hSw; subst hSw; go_simp; (try with_reducible rfl)
    try simp only [Act.put, List.setIfInBounds_toArray, List.set_cons_zero, List.set_cons_succ]
    refine AllY.take (i := 17) (v := ?v17) (by rw [List.getElem?_toArray]; exact rfl) (by kernel_rfl) (by kernel_rfl) (by kernel_rfl) (Or.inl ⟨by rfl, ?hy17⟩) ?_
    case hy17 => intro w hSw; subst hSw; go_simp; (try with_reducible rfl)
    try simp only [Act.put, List.setIfInBounds_toArray, List.set_cons_zero, List.set_cons_succ]
    refine AllY.take (i := 18) (v := ?v18) (by rw [List.getElem?_toArray]; exact rfl) (by kernel_rfl) (by kernel_rfl) (by kernel_rfl) (Or.inl ⟨by rfl, ?hy18⟩) ?_
    case hy18 => intro w hSw; subst hSw; go_simp; (try with_reducible rfl)
    try simp only [Act.put, List.setIfInBounds_toArray, List.set_cons_zero, List.set_cons_succ]
    refine AllY.take (i := 19) (v := ?v19) (by rw [List.getElem?_toArray]; exact rfl) (by kernel_rfl) (by kernel_rfl) (by kernel_rfl) (Or.inl ⟨by rfl, ?hy19⟩) ?_
    case hy19 => intro w hSw; subst hSw; go_simp; (try with_reducible rfl)
    try simp only [Act.put, List.setIfInBounds_toArray, List.set_cons_zero, List.set_cons_succ]
    refine AllY.take (i := 20) (v := ?v20) (by rw [List.getElem?_toArray]; exact rfl) (by kernel_rfl) (by kernel_rfl) (by kernel_rfl) (Or.inl ⟨by rfl, ?hy20⟩) ?_
    case hy20 => intro w hSw; subst hSw; go_simp; (try with_reducible rfl)
    try simp only [Act.put, List.setIfInBounds_toArray, List.set_cons_zero, List.set_cons_succ]
    refine AllY.take (i := 21) (v := ?v21) (by rw [List.getElem?_toArray]; exact rfl) (by kernel_rfl) (by kernel_rfl) (by kernel_rfl) (Or.inl ⟨by rfl, ?hy21⟩) ?_
    case hy21 => intro w hSw; subst hSw; go_simp; (try with_reducible rfl)
    try simp only [Act.put, List.setIfInBounds_toArray, List.set_cons_zero, List.set_cons_succ]
    refine AllY.done (by kernel_rfl) ?_
    clear hNE
    by_cases hmk : many ≤ (i : Int) + 1
    · gi_wp2
      refine ⟨by first | exact HKP.out | (rw [hz4]; exact HKP.out), rfl, i + 1, HNX.out, by omega, by omega, by omega, ?_⟩
      have := HIM.out
      omega
    · gi_wp2
      exact ⟨by first | exact HKP.out | (rw [hz4]; exact HKP.out), hi, HNX.out, by omega⟩
  case done =>
    intro D W hD ⟨hR, hF⟩ hK
    simp only [Exit.inBlock]
    have c0 := hR.b0.cell 0
    have c1 := hR.b1.cell 0
    have c3 := hR.b3.cell 0
    have c2 := hR.b2.cell 0
    have hf2 := hR.b2.frozen 0
    simp only [List.getElem?_toArray, List.getElem?_cons_zero] at c0 c1 c2 c3
    have HRR := Lib.hid hR
    have hwl2 := HWL.out.1
    clear hR hbsl
    gi_wp2_with fail
    have hDl : w.heap.size + 4 ≤ D := by omega
    have hval : (((l.length : Nat) : Int) == min (l.length : Int) (max 1 many)) = true := by
      simp only [beq_iff_eq]
      rcases hF with h0 | h0
      · rw [h0]; omega
      · omega
    rw [hval]
    have hKs : (W.setCell ⟨w.heap.size + 1 + 1, 0, none⟩ (.bool true)).heap[D]? = some (.deferred (some [])) := by
      exact (KeepsOthers.setCell W _ _).same D _ hK rfl
    have hb2 : Blk (W.setCell ⟨w.heap.size + 1 + 1, 0, none⟩ (.bool true)) (w.heap.size + 2) 4 #[.bool true] := by
      have := HRR.out.b2.set_ 0 (.bool true)
      simpa using this
    have hg1 := grownBy_putObj' (W.setCell ⟨w.heap.size + 1 + 1, 0, none⟩ (.bool true)) D (.deferred none)
    have hbel : Below w.heap.size w (W.setCell ⟨w.heap.size + 1 + 1, 0, none⟩ (.bool true)) := HRR.out.bel.setCell (by simp; omega) _
    refine ⟨by simp, .inl ⟨_, _, rfl, run_takeDeferred hKs, ?_⟩⟩
    have hc : ((W.setCell ⟨w.heap.size + 1 + 1, 0, none⟩ (.bool true)).putObj D (.deferred none)).cell? ⟨w.heap.size + 1 + 1, 0, none⟩ = some (.bool true) := by
      have := (hb2.grown hg1 (fun e => by simp at e; omega)).cell 0
      simpa using this
    refine ⟨.bool true, ?_, rfl, hbel.grown hg1 hbel.size (fun k e => by cases e; omega)⟩
    simp [results, Try.f20, go_sem, hc]
  case stop =>
    rintro D cd W hD ⟨rfl, n, hR, hn0, hnl, hmn, hF⟩ hK
    refine wpIn_exit ?_
    simp only [Exit.inBlock, if_true]
    have c0 := hR.b0.cell 0
    have c1 := hR.b1.cell 0
    have c3 := hR.b3.cell 0
    have c2 := hR.b2.cell 0
    have hf2 := hR.b2.frozen 0
    simp only [List.getElem?_toArray, List.getElem?_cons_zero] at c0 c1 c2 c3
    have HRR := Lib.hid hR
    have hwl2 := HWL.out.1
    clear hR hbsl
    gi_wp2_with fail
    have hDl : w.heap.size + 4 ≤ D := by omega
    have hval : (((n : Nat) : Int) == min (l.length : Int) (max 1 many)) = true := by
      simp only [beq_iff_eq]
      rcases hF with h0 | h0
      · subst h0; omega
      · omega
    rw [hval]
    have hKs : (W.setCell ⟨w.heap.size + 1 + 1, 0, none⟩ (.bool true)).heap[D]? = some (.deferred (some [])) := by
      exact (KeepsOthers.setCell W _ _).same D _ hK rfl
    have hb2 : Blk (W.setCell ⟨w.heap.size + 1 + 1, 0, none⟩ (.bool true)) (w.heap.size + 2) 4 #[.bool true] := by
      have := HRR.out.b2.set_ 0 (.bool true)
      simpa using this
    have hg1 := grownBy_putObj' (W.setCell ⟨w.heap.size + 1 + 1, 0, none⟩ (.bool true)) D (.deferred none)
    have hbel : Below w.heap.size w (W.setCell ⟨w.heap.size + 1 + 1, 0, none⟩ (.bool true)) := HRR.out.bel.setCell (by simp; omega) _
    refine ⟨by simp, .inl ⟨_, _, rfl, run_takeDeferred hKs, ?_⟩⟩
    have hc : ((W.setCell ⟨w.heap.size + 1 + 1, 0, none⟩ (.bool true)).putObj D (.deferred none)).cell? ⟨w.heap.size + 1 + 1, 0, none⟩ = some (.bool true) := by
      have := (hb2.grown hg1 (fun e => by simp at e; omega)).cell 0
      simpa using this
    refine ⟨.bool true, ?_, rfl, hbel.grown hg1 hbel.size (fun k e => by cases e; omega)⟩
    simp [results, Try.f20, go_sem, hc]
end T6
end Go.Proofs.Ytghkacciihocdaa
