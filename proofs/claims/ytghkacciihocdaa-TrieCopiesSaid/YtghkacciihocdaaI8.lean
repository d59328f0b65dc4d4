/- Layer 6's program: above where there is no way. -/
import Derived.Test.YtghkacciihocdaaI7
namespace Go.Proofs.Ytghkacciihocdaa
open Go Go.RowKit Go.Shelf Go.Sort
attribute [local go_sem] Oper.semAt_some
namespace T6

/-- The walk of above, where there is no way. -/
theorem aboveNo_any (q : Option Addr) (x n : Int) (x0 : 0 ≤ x) (x1 : x < 4294967296) (w : World) (hno : NoWay q x n w) :
    Calls Try.prog 36 #[.pointer q, pfx x n] w fun e w' => e = .returned (.slice none 0 0) ∧ Below w.heap.size w w' := by
  refine callsIn_wide (n := 6) |>.1 ?_
  refine callsIn_of_wp_marks Try.func36 rfl trivial ?_ rfl
  simp only [Try.ntmps36, List.size_toArray, List.length_cons, List.length_nil, Nat.reduceAdd, Nat.reduceSub, Array.replicate_succ, Array.replicate_zero, List.push_toArray, List.append_toArray, List.nil_append, List.cons_append]
  have hpb : Blk ((w.alloc (.cells #[.int .u32 x, .int .i64 n] 34)).alloc (.cells #[.slice none 0 0] 77)) w.heap.size 34 #[.int .u32 x, .int .i64 n] := (Blk.new w 34 #[.int .u32 x, .int .i64 n]).alloc _
  have hlb : Blk ((w.alloc (.cells #[.int .u32 x, .int .i64 n] 34)).alloc (.cells #[.slice none 0 0] 77)) (w.heap.size + 1) 77 #[.slice none 0 0] := by
    have := Blk.new (w.alloc (.cells #[.int .u32 x, .int .i64 n] 34)) 77 #[.slice none 0 0]
    simpa using this
  have hbw := two_below w (.cells #[.int .u32 x, .int .i64 n] 34) (.cells #[.slice none 0 0] 77)
  have d0 := hpb.cell 0
  have d1 := hpb.cell 1
  simp only [List.getElem?_toArray, List.getElem?_cons_zero, List.getElem?_cons_succ] at d0 d1
  have HPB := Lib.hid hpb
  have HLB := Lib.hid hlb
  have HBW := Lib.hid hbw
  have HT := Lib.hid hno
  have hs0 : ((w.alloc (.cells #[.int .u32 x, .int .i64 n] 34)).alloc (.cells #[.slice none 0 0] 77)).heap.size = w.heap.size + 2 := by simp
  have HS0 := Lib.hid hs0
  clear hpb hlb hbw hno hs0
  gi_wp2_with fail
  refine wpInWide_scope ?_
  gi_wp2_with fail
  refine wpIn_label ?_
  gi_wp2_with fail
  generalize ((w.alloc (.cells #[.int .u32 x, .int .i64 n] 34)).alloc (.cells #[.slice none 0 0] 77)) = W2 at *
  refine ⟨trivial, ?_⟩
  refine (callsIn_wide.2 (down_any _ _ _ _)).mono ?_
  rintro e w3 ⟨rfl, rfl⟩
  rw [HS0.out]
  clear d0 d1
  gi_wp2_with fail
  have hbtA := Blk.new W2 24 #[.pointer q]
  have hb3 := two_below W2 (.cells #[.pointer q] 24) (.cells #[.int .u32 x, .int .i64 n] 34)
  have hbpA := Blk.new (W2.alloc (.cells #[.pointer q] 24)) 34 #[.int .u32 x, .int .i64 n]
  have hz3 : ((W2.alloc (.cells #[.pointer q] 24)).alloc (.cells #[.int .u32 x, .int .i64 n] 34)).heap.size = w.heap.size + 4 := by simp [HS0.out]
  have hbtB := hbtA.alloc (.cells #[.int .u32 x, .int .i64 n] 34)
  have hsA : (W2.alloc (.cells #[.pointer q] 24)).heap.size = w.heap.size + 3 := by simp [HS0.out]
  rw [hsA] at hbpA
  rw [HS0.out] at hbtB
  generalize ((W2.alloc (.cells #[.pointer q] 24)).alloc (.cells #[.int .u32 x, .int .i64 n] 34)) = W3 at *
  clear hsA
  have hB3 := And.intro (hbtB.cell 0) (And.intro (hbpA.cell 0) (hbpA.cell 1))
  simp only [List.getElem?_toArray, List.getElem?_cons_zero, List.getElem?_cons_succ] at hB3
  have hA3 : Blk W3 (w.heap.size + 1) 77 #[.slice none 0 0] := HLB.out.below hb3 HLB.out.lt
  have hw3 := HBW.out.trans (hb3.mono HBW.out.size)
  have hT3 := HT.out.below hw3
  have HA3 := Lib.hid hA3
  have HB3 := Lib.hid hB3
  have HW3 := Lib.hid hw3
  clear hb3 hbtA hbtB hbpA HPB HLB HBW hA3 hB3 hw3
  have hI0 : ∀ W, Below W3.heap.size W3 W → StN (w.heap.size + 2) (w.heap.size + 3) q x n (fun _ _ => False) (fun W => Blk W (w.heap.size + 1) 77 #[.slice none 0 0] ∧ Below w.heap.size w W) W := fun W hb => by
    obtain ⟨h1, h2, h3⟩ := HB3.out
    exact ⟨(hb.cell (p := ⟨w.heap.size + 2, 0, none⟩) (World.block_lt_of_cell? _ _ h1)).trans h1, (hb.cell (p := ⟨w.heap.size + 3, 0, none⟩) (World.block_lt_of_cell? _ _ h2)).trans h2, (hb.cell (p := ⟨w.heap.size + 3, 1, none⟩) (World.block_lt_of_cell? _ _ h3)).trans h3, hT3.below hb, HA3.out.below hb HA3.out.lt, HW3.out.trans (hb.mono (by omega))⟩
  have HI0 := Lib.hid hI0
  clear hI0 hT3
  refine wpIn_rangeFunc_D1 (σ := Nat × Addr) rfl (by decide) (gf := 77) (lb := #[.pointer (some ⟨w.heap.size + 2, 0, none⟩), .pointer (some ⟨w.heap.size + 3, 0, none⟩)]) rfl trivial (enters_of Try.func77 (by kernel_rfl) rfl)
    (downNo_iter 5 (w.heap.size + 2) (w.heap.size + 3) q x n x0 x1 W3) (fun _ _ _ _ _ _ hA h => ⟨h.1, h.2.1, h.2.2.1, h.2.2.2.1, hA h.2.2.2.2⟩) (fun _ _ _ _ _ _ _ _ h => h) (Below.refl _ _) (fun _ => rfl)
    (fun _ _ => False) (fun _ _ => False) (fun _ _ => False) (fun W => Blk W (w.heap.size + 1) 77 #[.slice none 0 0] ∧ Below w.heap.size w W)
    (fun _ _ _ h _ => h) (fun _ _ _ h _ => h) (fun c _ _ _ h _ => h) (ownC_of fun _ A B h hk => ⟨blkC h.1 hk, hk.below h.2 (by omega) h.2.size⟩)
    HI0.out (fun s W h => h.elim)
    (fun s => { tmps := #[.pointer q, pfx x n, undef, .pointer (some ⟨w.heap.size, 0, none⟩), .slice none 0 0, .pointer (some ⟨w.heap.size + 1, 0, none⟩), .pointer (some s.2), undef, .pointer q, pfx x n, .func (.func 77) #[] #[.pointer (some ⟨w.heap.size + 2, 0, none⟩), .pointer (some ⟨w.heap.size + 3, 0, none⟩)], .pointer (some s.2), undef, undef, undef, undef, undef, undef, undef, undef, undef, undef, undef, undef, undef, undef, undef, undef, undef, undef, undef, undef, undef, undef, undef], defers := [] })
    ?assign ?body ?done ?stop
  case assign =>
    rintro l ⟨m, a⟩ W K hK
    unfold encD
    gi_wp2
    exact hK
  case body => exact fun _ _ _ h => h.elim
  case stop => exact fun _ _ _ _ h => h.elim
  case done =>
    rintro D W hD ⟨hA, hB⟩ hK
    simp only [Exit.inBlock]
    have l0 := hA.cell 0
    simp only [List.getElem?_toArray, List.getElem?_cons_zero] at l0
    have HB := Lib.hid hB
    clear hA hB
    gi_wp2_with fail
    refine ⟨by simp, .inl ⟨_, _, rfl, run_takeDeferred hK, ?_⟩⟩
    have hg1 := grownBy_putObj' W D (.deferred none)
    refine ⟨.slice none 0 0, ?_, rfl, HB.out.grown hg1 HB.out.size (fun k e => by cases e; omega)⟩
    simp [results, Try.f36, go_sem]
end T6
end Go.Proofs.Ytghkacciihocdaa
