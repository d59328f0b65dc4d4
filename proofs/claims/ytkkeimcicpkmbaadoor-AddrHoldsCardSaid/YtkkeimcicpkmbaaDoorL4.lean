/- The walk of AddrEach. -/
import Derived.Test.YtkkeimcicpkmbaaDoorE2
import Derived.Test.YtkkeimcicpkmbaaDoorB4
import Derived.Test.YtkkeimcicpkmbaaDoorA7
namespace Go.Proofs.YtkkeimcicpkmbaaDoor
open Go Go.RowKit Go.Shelf Go.Sort
attribute [local go_sem] Oper.semAt_some

/-- A slice of its own, as the walk wants it: an address where there is an element, and the cells. -/
theorem own_open {w : World} {base : Nat} {e : TypeId} {v : Value} {l : List (Int × Int)} (h : w.ownsRow base e 2 v l.length (manyCells l)) :
    ∃ (A : Option Addr) (cap : Nat), v = .slice A l.length cap ∧ l.length ≤ cap ∧ (0 < l.length → ∃ g, A = some ⟨g, 0, none⟩ ∧ g < w.heap.size ∧ ∀ j (hj : j < l.length), w.cell? ⟨g, j * 2, none⟩ = some (.int .i64 (l[j]'hj).1) ∧ w.cell? ⟨g, j * 2 + 1, none⟩ = some (.int .u32 (l[j]'hj).2)) := by
  have hlt := h.lt
  have hcl := fun g hg => h.cells (g := g) hg
  obtain ⟨hlen, h⟩ := h
  rcases h with ⟨rfl, h0⟩ | ⟨g, cap, cur, rfl, _, hh, hcap, _⟩
  · exact ⟨none, 0, by rw [h0], by omega, fun x => absurd x (by omega)⟩
  · refine ⟨some ⟨g, 0, none⟩, cap, rfl, hcap, fun _ => ⟨g, rfl, (hlt g rfl).2, fun j hj => ?_⟩⟩
    have key : ∀ (l : List (Int × Int)) (j : Nat) (hj : j < l.length), (manyCells l)[j * 2]? = some (.int .i64 (l[j]'hj).1) ∧ (manyCells l)[j * 2 + 1]? = some (.int .u32 (l[j]'hj).2) := by
      intro l
      induction l with
      | nil => intro j hj; simp at hj
      | cons x r ih =>
        intro j hj
        cases j with
        | zero => simp [manyCells, oneCells]
        | succ j =>
          have := ih j (by simpa using hj)
          simp only [manyCells, List.flatMap_cons, oneCells, List.cons_append, List.nil_append] at this ⊢
          rw [show (j + 1) * 2 = j * 2 + 1 + 1 from by omega]
          simpa using this
    obtain ⟨k1, k2⟩ := key l j hj
    have e1 := hcl g rfl _ _ k1
    have e2 := hcl g rfl _ _ k2
    have ad : ∀ n, (⟨g, 0, none⟩ : Addr).add n = ⟨g, n, none⟩ := fun n => by unfold Addr.add; split <;> simp_all
    rw [ad] at e1 e2
    exact ⟨e1, e2⟩

theorem funcNil (f : FuncId) (c : Array Value) (w : World) : (binOp BinOp.eql 46 (.func (.func f) #[] c) .nilFunc).run Tryd.prog w = .ok (.bool false) w := by kernel_rfl

theorem eachF_le : ∀ (n i : Nat) (l : List UInt8), (eachF n i l).length ≤ n
  | 0, _, _ => by simp [eachF]
  | n + 1, i, l => by
    unfold eachF
    split
    · split
      · have := eachF_le n (i + (cut32 l).1.length + 1) (cut32 l).2.1
        simp only [List.length_cons]; omega
      · simp
    · simp
theorem eachF_len (s : ByteArray) (hs : s.size ≤ 200) : (eachF (s.size + 1) 0 s.data.toList).length ≤ 201 := by
  have := eachF_le (s.size + 1) 0 s.data.toList
  omega

/-- A range over an iterator whose body may break out of it, or may return where what has come is none of what comes. -/
theorem rangeFunc_brk {F : Fence} {n : Nat} {P : Program} {α : Type} {g : Operand} {ps : Array Tmp} {assign body : Code} {id : Nat} {Q : Exit → Act → World → Prop} {a : Act} {w : World}
    (hro : F.round = none) (h1 : 1 ≤ n) {gf : Nat} {lb : Array Value} (hg : a.eval g = .func (.func gf) #[] lb) (hFg : F.fn gf) (eg : ∀ args w, (callFunc gf args).run P w = .ok (.enter gf args) w)
    {encs : α → Array Value} {n₀ : Nat} {S Sp : List α → Prop} {N : Nat} {w0 : World} (hseq : SeqStopsK F (n - 1) P gf lb encs (Below n₀) S Sp N w0)
    (hn : n₀ ≤ w.heap.size) (hb0 : Below w0.heap.size w0 w) (hps : ∀ x, (encs x).size = ps.size)
    (I : List α → World → Prop) (Iy : List α → World → Prop) (hI : OwnFrom w.heap.size I) (hIy : OwnFrom w.heap.size Iy) (h0 : I [] w) (a₁ : α → Act)
    (hassign : ∀ (l : Nat) (x : α) (W : World) (K : Act → World → Prop), K (a₁ x) W →
      assign.wpIn (F.inRound l) (n - 1 - 1) P (Exit.then K (fun _ _ _ => False)) { tmps := (ps.zip (encs x)).foldl (fun t (p, v) => t.setIfInBounds p v) a.tmps, defers := [] } W)
    (hbody : ∀ (l : Nat) (pre : List α) (x : α) (W : World), I pre W → pre.length < N → body.wpIn (F.inRound l) (n - 1 - 1) P (ownPostK (Below n₀) I (fun c pre W => (c = .ret ∧ ¬ Sp pre) ∨ (c = .exit id ∧ Iy pre W)) (pre ++ [x]) W) (a₁ x) W)
    (hafter : ∀ (D : Nat) (xs : List α) (W : World), w.heap.size ≤ D → (S xs ∧ I xs W ∨ Sp xs ∧ Iy xs W) → W.heap[D]? = some (.deferred (some [])) → Q .normal { a with defers := { target := .collected D, args := #[] } :: a.defers } W) :
    (Code.rangeFunc g ps assign body).wpIn F n P (Exit.inBlock id Q) a w := by
  refine wpIn_rangeFunc_ownF hro h1 hg hFg eg hseq belowK_t (belowK_b hn) hb0 hps I (fun c pre W => (c = .ret ∧ ¬ Sp pre) ∨ (c = .exit id ∧ Iy pre W)) hI ?_ h0 a₁ hassign hbody ?_ ?_
  · intro c s W W' row hs hg hr
    exact hs.imp (fun h => h) (fun h => ⟨h.1, hIy s W W' row h.2 hg hr⟩)
  · intro D xs W hD hS hi hK
    simpa [Exit.inBlock] using hafter D xs W hD (.inl ⟨hS, hi⟩) hK
  · rintro D c pre W hD hS (⟨rfl, h⟩ | ⟨rfl, h⟩) hK
    · exact absurd hS h
    · have := hafter D pre W hD (.inr ⟨hS, h⟩) hK
      refine wpIn_exit ?_
      simpa [Exit.inBlock] using this

theorem Blk.own {A B : World} {row : Option Nat} {g B₀ : Nat} {t : TypeId} {cs : Array Value} (h : Blk A g t cs) (hg : A.grownBy B row) (hr : ∀ r, row = some r → B₀ ≤ r ∧ ∃ o : Obj, A.heap[r]? = some o ∧ o.isCells = false) : Blk B g t cs :=
  h.grown hg (fun e => by
    obtain ⟨_, o, ho, hc⟩ := hr g e.symm
    unfold Blk at h
    rw [h] at ho
    cases ho
    simp [Obj.isCells] at hc)
/-- The counter's block, and whatever lay ahead of it. -/
def Hold (W₁ : World) (bn : Nat) (k : Nat) (W : World) : Prop := Blk W bn 3 #[.int .i64 k] ∧ Below bn W₁ W
theorem hold_own {β : Type} {W₁ : World} {bn B : Nat} (h1 : bn ≤ W₁.heap.size) (h2 : bn ≤ B) (f : β → Nat) : OwnFrom B (fun s W => Hold W₁ bn (f s) W) := fun _ A B row hs hg hr =>
  ⟨hs.1.own hg hr, ownFrom_below (β := Unit) h1 h2 () A B row hs.2 hg hr⟩

/-- In the first turn: it goes on just where nothing has come, or fewer than asked; it breaks where as many have come. -/
def goesOn (many : Int) (pre : List (Int × Int)) : Prop := pre = [] ∨ (pre.length : Int) < many
def breaks (many : Int) (pre : List (Int × Int)) : Prop := 0 < pre.length ∧ many ≤ pre.length ∧ (pre.length = 1 ∨ ((pre.length - 1 : Nat) : Int) < many)
/-- What the walk holds at every world behind the two calls. -/
structure Ctx (w : World) (h1 : Nat) (s : ByteArray) (many : Int) (A : Option Addr) (cap : Nat) (L : List (Int × Int)) (W : World) : Prop where
  fit : Fit w
  bel : Below w.heap.size w W
  m : Blk W w.heap.size 3 #[.int .i64 many]
  r : Blk W (w.heap.size + 1) 4 #[.bool false]
  wn : Blk W h1 43 #[.slice A L.length cap]
  str : Blk W (h1 + 1) 9 #[.string s]
  el : 0 < L.length → ∃ g, A = some ⟨g, 0, none⟩ ∧ g < h1 + 2 ∧ ∀ j (hj : j < L.length), W.cell? ⟨g, j * 2, none⟩ = some (.int .i64 (L[j]'hj).1) ∧ W.cell? ⟨g, j * 2 + 1, none⟩ = some (.int .u32 (L[j]'hj).2)
  z : w.heap.size + 1 < h1
theorem Ctx.mono {w : World} {h1 : Nat} {s : ByteArray} {many : Int} {A : Option Addr} {cap : Nat} {L : List (Int × Int)} {W W' : World} (C : Ctx w h1 s many A cap L W) (hb : Below (h1 + 2) W W') : Ctx w h1 s many A cap L W' := by
  have hz := C.z
  refine ⟨C.fit, C.bel.trans (hb.mono (by omega)), C.m.below hb (by omega), C.r.below hb (by omega), C.wn.below hb (by omega), C.str.below hb (by omega), fun h => ?_, C.z⟩
  obtain ⟨g, e, hg, hc⟩ := C.el h
  exact ⟨g, e, hg, fun j hj => ⟨(hb.cell (p := ⟨g, j * 2, none⟩) hg).trans (hc j hj).1, (hb.cell (p := ⟨g, j * 2 + 1, none⟩) hg).trans (hc j hj).2⟩⟩
theorem Ctx.stops {w : World} {h1 : Nat} {s : ByteArray} {many : Int} {A : Option Addr} {cap : Nat} {L : List (Int × Int)} {W : World} (C : Ctx w h1 s many A cap L W) (hs : s.size ≤ 200) (hL : eachF (s.size + 1) 0 s.data.toList = L) (n n₀ : Nat) (hn : 1 ≤ n) (hn₀ : h1 ≤ n₀) :
    SeqStopsK Fence.wide n Tryd.prog 31 #[.pointer (some ⟨h1 + 1, 0, none⟩)] (fun x : Int × Int => #[Value.int .i64 x.1, Value.int .u32 x.2]) (Below n₀) (fun ys => ys = L) (fun pre => pre <+: L) L.length W := by
  obtain ⟨mx, hm⟩ := C.fit.len
  have l2 := World.block_lt_of_cell? _ _ hm
  have hz := C.z
  simp only at l2
  have := each_stops n hn (h1 + 1) n₀ s (by omega) (by omega) W C.str.lt (by rw [C.str.cell]; rfl) mx ((C.bel.cell (p := ⟨0, 0, none⟩) l2).trans hm)
  rw [hL] at this
  exact this

theorem Hold.set {W₁ W : World} {h k : Nat} (hh : Hold W₁ h k W) : Hold W₁ h (k + 1) (W.setCell ⟨h, 0, none⟩ (.int .i64 ((k : Int) + 1))) := by
  refine ⟨?_, hh.2.setCell (p := ⟨h, 0, none⟩) (Nat.le_refl _) _⟩
  have := hh.1.set_ 0 (.int .i64 ((k : Int) + 1))
  simpa using this
theorem not_pre {pre L : List (Int × Int)} {x : Int × Int} (hlt : pre.length < L.length) (hne : ¬ x = L[pre.length]'hlt) : ¬ (pre ++ [x]) <+: L := by
  rintro ⟨r, hr⟩
  apply hne
  subst hr
  simp
theorem goesOn.brk {many : Int} {pre : List (Int × Int)} (h : goesOn many pre) : pre.length = 0 ∨ (pre.length : Int) < many := h.imp (fun e => by rw [e]; rfl) id

set_option maxRecDepth 100000 in
set_option maxHeartbeats 3200000 in
theorem law_each_small (s : ByteArray) (many : Int) (hs : s.size ≤ 200) (w : World) (hF : Fit w) :
    CallsIn Fence.wide 6 Tryd.prog 6 #[.string s, .int .i64 many] w fun e w' => e = .returned (.bool true) ∧ Below w.heap.size w w' := by
  have hbig : ¬ 200 < (s.size : Int) := by omega
  have HF := Lib.hid hF
  clear hF
  refine callsIn_of_wp_marks Tryd.func6 rfl trivial ?_ rfl
  simp only [Tryd.ntmps6, List.size_toArray, List.length_cons, List.length_nil, Nat.reduceAdd, Nat.reduceSub, Array.replicate_succ, Array.replicate_zero, List.push_toArray, List.append_toArray, List.nil_append, List.cons_append]
  gi_wp2_with fail
  refine ⟨trivial, ?_⟩
  refine (callsIn_wide.2 (refEach_any s (by omega) _)).mono ?_
  rintro e w1 ⟨v, rfl, hown, hb1⟩
  rw [← eachF_ref] at hown
  obtain ⟨A, cap, rfl, hcap, hel⟩ := own_open hown
  have hLs : (eachF (s.size + 1) 0 s.data.toList).length ≤ 201 := eachF_len s hs
  have HEL := Lib.hid hel
  have hz1 : w.heap.size + 1 < w1.heap.size := by have := hb1.size; simp at this; omega
  have hbw1 : Below w.heap.size w w1 := (((Below.refl w.heap.size w).alloc (Nat.le_refl _) (.cells #[.int .i64 many] 3)).alloc (by simp) (.cells #[.bool false] 4)).trans (hb1.mono (by simp; omega))
  have bm : Blk w1 w.heap.size 3 #[.int .i64 many] := ((Blk.new w _ _).alloc _).below hb1 (by simp; omega)
  have br : Blk w1 (w.heap.size + 1) 4 #[.bool false] := by
    have := (Blk.new (w.alloc (.cells #[.int .i64 many] 3)) 4 #[.bool false]).below hb1 (by simp)
    simpa using this
  have HBM := Lib.hid bm
  have HBR := Lib.hid br
  have HB1 := Lib.hid hbw1
  clear hown hb1 hel bm br hbw1
  generalize hL : eachF (s.size + 1) 0 s.data.toList = L at *
  have HL := Lib.hid hL
  clear hL
  gi_wp2_with fail
  refine ⟨trivial, ?_⟩
  refine (callsIn_wide.2 (each_any s _)).mono ?_
  rintro e w2 ⟨rfl, rfl⟩
  have hfn := fun w => funcNil 31 #[.pointer (some ⟨w1.heap.size + 1, 0, none⟩)] w
  have bm0 := (HBM.out.alloc (.cells #[.slice A L.length cap] 43)).alloc (.cells #[.string s] 9)
  have br0 := (HBR.out.alloc (.cells #[.slice A L.length cap] 43)).alloc (.cells #[.string s] 9)
  have bw0 := (Blk.new w1 43 #[.slice A L.length cap]).alloc (.cells #[.string s] 9)
  have bs0 : Blk ((w1.alloc (.cells #[.slice A L.length cap] 43)).alloc (.cells #[.string s] 9)) (w1.heap.size + 1) 9 #[.string s] := by
    have := Blk.new (w1.alloc (.cells #[.slice A L.length cap] 43)) 9 #[.string s]
    simpa using this
  have hb0 : Below w.heap.size w ((w1.alloc (.cells #[.slice A L.length cap] 43)).alloc (.cells #[.string s] 9)) := (HB1.out.alloc (by omega) _).alloc (by simp; omega) _
  have hel0 : 0 < L.length → ∃ g, A = some ⟨g, 0, none⟩ ∧ g < w1.heap.size + 2 ∧ ∀ j (hj : j < L.length), ((w1.alloc (.cells #[.slice A L.length cap] 43)).alloc (.cells #[.string s] 9)).cell? ⟨g, j * 2, none⟩ = some (.int .i64 (L[j]'hj).1) ∧ ((w1.alloc (.cells #[.slice A L.length cap] 43)).alloc (.cells #[.string s] 9)).cell? ⟨g, j * 2 + 1, none⟩ = some (.int .u32 (L[j]'hj).2) := fun h => by
    obtain ⟨g, e, hg, hc⟩ := HEL.out h
    refine ⟨g, e, by omega, fun j hj => ?_⟩
    rw [World.cell?_alloc_past _ _ _ (by simp; omega), World.cell?_alloc_past _ _ _ hg, World.cell?_alloc_past _ _ _ (by simp; omega), World.cell?_alloc_past _ _ _ hg]
    exact hc j hj
  have hsz0 : ((w1.alloc (.cells #[.slice A L.length cap] 43)).alloc (.cells #[.string s] 9)).heap.size = w1.heap.size + 2 := by simp
  generalize hW0 : ((w1.alloc (.cells #[.slice A L.length cap] 43)).alloc (.cells #[.string s] 9)) = W0 at *
  have HM0 := Lib.hid bm0
  have HR0 := Lib.hid br0
  have HW0 := Lib.hid bw0
  have HS0 := Lib.hid bs0
  have HB0 := Lib.hid hb0
  have HE0 := Lib.hid hel0
  clear bm0 br0 bw0 bs0 hb0 hel0 HEL HBM HBR HB1
  gi_wp2_with fail
  have HS := Lib.hid hW0
  clear hW0 hfn
  have hct : (W0.alloc (.cells #[.int .i64 0] 3)).cell? ⟨w1.heap.size + 2, 0, none⟩ = some (.int .i64 0) := by rw [← hsz0]; simp
  refine wpIn_loop_rounds 3 ?_
  rw [roundsIn_succ]
  gi_wp2
  have hbt : Blk ((W0.alloc (.cells #[.int .i64 0] 3)).alloc (.cells #[.int .i64 0] 3)) (w1.heap.size + 2) 3 #[.int .i64 0] := by
    rw [← hsz0]; exact (Blk.new _ _ _).alloc _
  have hbn : Blk ((W0.alloc (.cells #[.int .i64 0] 3)).alloc (.cells #[.int .i64 0] 3)) (w1.heap.size + 3) 3 #[.int .i64 0] := by
    have := Blk.new (W0.alloc (.cells #[.int .i64 0] 3)) 3 #[.int .i64 0]
    simpa [hsz0] using this
  have hbw : Below (w1.heap.size + 2) W0 ((W0.alloc (.cells #[.int .i64 0] 3)).alloc (.cells #[.int .i64 0] 3)) := by
    rw [← hsz0]; exact ((Below.refl _ _).alloc (Nat.le_refl _) _).alloc (by simp) _
  have hszA : ((W0.alloc (.cells #[.int .i64 0] 3)).alloc (.cells #[.int .i64 0] 3)).heap.size = w1.heap.size + 4 := by simp [hsz0]
  generalize hWA : ((W0.alloc (.cells #[.int .i64 0] 3)).alloc (.cells #[.int .i64 0] 3)) = WA at *
  clear hWA hct
  have HC : Hid (Ctx w w1.heap.size s many A cap L WA) := Lib.hid (Ctx.mono (W := W0) ⟨HF.out, HB0.out, HM0.out, HR0.out, HW0.out, HS0.out, HE0.out, hz1⟩ hbw)
  have HBT := Lib.hid hbt
  clear HM0 HR0 HW0 HS0 HE0 HB0 HS hbw hbt
  refine rangeFunc_brk (S := fun ys => ys = L) (Sp := fun pre => pre <+: L) (N := L.length) (n₀ := w1.heap.size + 3) rfl (by omega) (gf := 31) (lb := #[.pointer (some ⟨w1.heap.size + 1, 0, none⟩)]) rfl trivial (enters_of Tryd.func31 (by kernel_rfl) rfl)
    (HC.out.stops hs HL.out 5 (w1.heap.size + 3) (by omega) (by omega)) (by omega) (Below.refl _ _) (fun _ => rfl)
    (fun pre W => Hold WA (w1.heap.size + 3) pre.length W ∧ goesOn many pre) (fun pre W => Hold WA (w1.heap.size + 3) pre.length W ∧ breaks many pre)
    (OwnFrom.and (hold_own (by omega) (by omega) _) (ownFrom_pure _ _)) (OwnFrom.and (hold_own (by omega) (by omega) _) (ownFrom_pure _ _))
    ⟨⟨hbn, Below.refl _ _⟩, .inl rfl⟩ ?a₁ ?assign ?body ?after
  case assign =>
    intro l x W K hK
    gi_wp2
    exact hK
  case body =>
    rintro l pre x W ⟨hH, hp⟩ hlt
    have C := HC.out.mono (hH.2.mono (by omega))
    have c_n := hH.1.cell 0
    have c_w := C.wn.cell 0
    have c_t := (HBT.out.below hH.2 (by omega)).cell 0
    have c_m := C.m.cell 0
    simp only [List.getElem?_toArray, List.getElem?_cons_zero] at c_n c_w c_t c_m
    obtain ⟨g, rfl, hg, hel⟩ := C.el (by omega)
    obtain ⟨e1, e2⟩ := hel pre.length hlt
    have hf_n := hH.1.frozen 0
    have hf_r := C.r.frozen 0
    have c_r := C.r.cell 0
    simp only [List.getElem?_toArray, List.getElem?_cons_zero] at c_r
    have HN := Lib.hid hH
    have HL2 := Lib.hid hel
    have HCC := Lib.hid C
    clear hH hel C
    have k1 : ¬ (L.length : Int) ≤ (pre.length : Int) := by omega
    by_cases hx1 : x.1 = (L[pre.length]'hlt).1
    · by_cases hx2 : x.2 = (L[pre.length]'hlt).2
      · by_cases hmk : many ≤ (pre.length : Int) + 1
        · gi_wp2
          refine ⟨KeepsOthers.setCell _ _ _, .inr ⟨rfl, by simpa using HN.out.set, by have := hp.brk; unfold breaks; simp only [List.length_append, List.length_cons, List.length_nil]; omega⟩⟩
        · gi_wp2
          exact ⟨KeepsOthers.setCell _ _ _, (Below.refl _ W).setCell (p := ⟨w1.heap.size + 3, 0, none⟩) (Nat.le_refl _) _, by simpa using HN.out.set, .inr (by simp; omega)⟩
      · have hne : ¬ x = L[pre.length]'hlt := fun e => hx2 (by rw [e])
        gi_wp2
        exact ⟨KeepsOthers.setCell _ _ _, .inl ⟨rfl, not_pre hlt hne⟩⟩
    · have hne : ¬ x = L[pre.length]'hlt := fun e => hx1 (by rw [e])
      gi_wp2
      exact ⟨KeepsOthers.setCell _ _ _, .inl ⟨rfl, not_pre hlt hne⟩⟩
  case after =>
    rintro D xs W hD hxs hK
    obtain ⟨k, hk, hH, hkv⟩ : ∃ k : Nat, (k : Int) = min (L.length : Int) (max 1 many) ∧ Hold WA (w1.heap.size + 3) k W ∧ k ≤ 201 := by
      rcases hxs with ⟨rfl, hH, hp⟩ | ⟨hpre, hH, hp⟩
      · refine ⟨_, ?_, hH, hLs⟩
        rcases hp with rfl | hp
        · simp; omega
        · omega
      · refine ⟨_, ?_, hH, by have := hpre.length_le; omega⟩
        have := hpre.length_le
        obtain ⟨h1, h2, h3⟩ := hp
        omega
    clear hxs
    have C := HC.out.mono (hH.2.mono (by omega))
    have c_n := hH.1.cell 0
    have c_w := C.wn.cell 0
    have c_t := (HBT.out.below hH.2 (by omega)).cell 0
    have c_m := C.m.cell 0
    simp only [List.getElem?_toArray, List.getElem?_cons_zero] at c_n c_w c_t c_m
    have HN := Lib.hid hH
    have HCC := Lib.hid C
    have HD := Lib.hid hK
    clear hH C hK
    gi_wp2_with fail
    rw [roundsIn_succ]
    have hsz2 : ∀ (v : Value) (t : TypeId), (W.alloc (.cells #[v] t)).cell? ⟨W.heap.size, 0, none⟩ = some v := fun v t => by simp
    have hsf2 : ∀ (v : Value) (t : TypeId), (W.alloc (.cells #[v] t)).frozen? ⟨W.heap.size, 0, none⟩ = false := fun v t => (Blk.new W t #[v]).frozen 0
    gi_wp2
    have hct2 : Blk ((W.alloc (.cells #[.int .i64 1] 3)).alloc (.cells #[.int .i64 0] 3)) W.heap.size 3 #[.int .i64 1] := (Blk.new W _ _).alloc _
    have hcn2 : Blk ((W.alloc (.cells #[.int .i64 1] 3)).alloc (.cells #[.int .i64 0] 3)) (W.heap.size + 1) 3 #[.int .i64 0] := by
      have := Blk.new (W.alloc (.cells #[.int .i64 1] 3)) 3 #[.int .i64 0]
      simpa using this
    have hcw2 : Below W.heap.size W ((W.alloc (.cells #[.int .i64 1] 3)).alloc (.cells #[.int .i64 0] 3)) := ((Below.refl _ _).alloc (Nat.le_refl _) _).alloc (by simp) _
    have hszB : ((W.alloc (.cells #[.int .i64 1] 3)).alloc (.cells #[.int .i64 0] 3)).heap.size = W.heap.size + 2 := by simp
    have hszW : w1.heap.size + 4 ≤ W.heap.size := by have := HN.out.2.size; omega
    have hDlt : D < W.heap.size := (Array.getElem?_eq_some_iff.1 HD.out).1
    generalize hWB : ((W.alloc (.cells #[.int .i64 1] 3)).alloc (.cells #[.int .i64 0] 3)) = WB at *
    have HC2 := Lib.hid (HCC.out.mono (hcw2.mono (by omega)))
    have HD2 := Lib.hid ((hcw2.block D hDlt).trans HD.out)
    have HT2 := Lib.hid hct2
    clear hWB hsz2 hsf2 hct2 c_n c_w c_t c_m
    refine rangeFunc_brk (S := fun ys => ys = L) (Sp := fun pre => pre <+: L) (N := L.length) (n₀ := W.heap.size + 1) rfl (by omega) (gf := 31) (lb := #[.pointer (some ⟨w1.heap.size + 1, 0, none⟩)]) rfl trivial (enters_of Tryd.func31 (by kernel_rfl) rfl)
      (HC2.out.stops hs HL.out 5 (W.heap.size + 1) (by omega) (by omega)) (by omega) (Below.refl _ _) (fun _ => rfl)
      (fun pre W' => Hold WB (W.heap.size + 1) pre.length W') (fun _ _ => 1 = 2)
      (hold_own (by omega) (by omega) _) (fun _ _ _ _ h _ _ => h)
      ⟨hcn2, Below.refl _ _⟩ ?a₂ ?assign2 ?body2 ?after2
    case assign2 =>
      intro l x W K hK
      gi_wp2
      exact hK
    case body2 =>
      rintro l pre x W' hH hlt
      have C := HC2.out.mono (hH.2.mono (by omega))
      have c_n := hH.1.cell 0
      have c_w := C.wn.cell 0
      have c_t := (HT2.out.below hH.2 (by omega)).cell 0
      have c_m := C.m.cell 0
      simp only [List.getElem?_toArray, List.getElem?_cons_zero] at c_n c_w c_t c_m
      obtain ⟨g, rfl, hg, hel⟩ := C.el (by omega)
      obtain ⟨e1, e2⟩ := hel pre.length hlt
      have hf_n := hH.1.frozen 0
      have hf_r := C.r.frozen 0
      have c_r := C.r.cell 0
      simp only [List.getElem?_toArray, List.getElem?_cons_zero] at c_r
      have HN2 := Lib.hid hH
      have HL2 := Lib.hid hel
      have HCC2 := Lib.hid C
      clear hH hel C
      have k1 : ¬ (L.length : Int) ≤ (pre.length : Int) := by omega
      by_cases hx1 : x.1 = (L[pre.length]'hlt).1
      · by_cases hx2 : x.2 = (L[pre.length]'hlt).2
        · gi_wp2
          exact ⟨KeepsOthers.setCell _ _ _, (Below.refl _ W').setCell (p := ⟨W.heap.size + 1, 0, none⟩) (Nat.le_refl _) _, by simpa using HN2.out.set⟩
        · have hne : ¬ x = L[pre.length]'hlt := fun e => hx2 (by rw [e])
          gi_wp2
          exact ⟨KeepsOthers.setCell _ _ _, ⟨rfl, not_pre hlt hne⟩⟩
      · have hne : ¬ x = L[pre.length]'hlt := fun e => hx1 (by rw [e])
        gi_wp2
        exact ⟨KeepsOthers.setCell _ _ _, ⟨rfl, not_pre hlt hne⟩⟩
    case after2 =>
      rintro D2 xs2 W2 hD2 (⟨rfl, hH⟩ | ⟨_, hH⟩) hK
      · have C := HC2.out.mono (hH.2.mono (by omega))
        have c_n := hH.1.cell 0
        have c_w := C.wn.cell 0
        have c_t := (HT2.out.below hH.2 (by omega)).cell 0
        have c_m := C.m.cell 0
        simp only [List.getElem?_toArray, List.getElem?_cons_zero] at c_n c_w c_t c_m
        have HN2 := Lib.hid hH
        have HCC2 := Lib.hid C
        have HDa := Lib.hid ((hH.2.block D (by omega)).trans HD2.out)
        have HDb := Lib.hid hK
        clear hH C hK
        have hDlt2 : D2 < W2.heap.size := (Array.getElem?_eq_some_iff.1 HDb.out).1
        have hszW2 : W.heap.size < W2.heap.size := by have := HN2.out.2.size; omega
        have hct3 : (W2.alloc (.cells #[.int .i64 2] 3)).cell? ⟨W2.heap.size, 0, none⟩ = some (.int .i64 2) := by simp
        gi_wp2_with fail
        rw [roundsIn_succ]
        gi_wp2_with fail
        have hwa : Below W2.heap.size W2 (W2.alloc (.cells #[.int .i64 2] 3)) := (Below.refl _ _).alloc (Nat.le_refl _) _
        have HC3 := Lib.hid (HCC2.out.mono (hwa.mono (by omega)))
        refine ⟨trivial, ?_⟩
        refine (callsIn_wide.2 (works_any _ (HC3.out.fit.below HC3.out.bel))).mono ?_
        rintro e w4 ⟨rfl, hb⟩
        have hb2 : Below W2.heap.size W2 w4 := hwa.trans (hb.mono (by simp))
        have HC4 := Lib.hid (HCC2.out.mono (hb2.mono (by omega)))
        have c_r := HC4.out.r.cell 0
        have hf_r := HC4.out.r.frozen 0
        simp only [List.getElem?_toArray, List.getElem?_cons_zero] at c_r
        have HD4 := Lib.hid ((hb2.block D2 hDlt2).trans HDb.out)
        have HD5 := Lib.hid ((hb2.block D (by omega)).trans HDa.out)
        clear hb hb2 hwa hct3
        gi_wp2_with fail
        have hr4 : Blk (w4.setCell ⟨w.heap.size + 1, 0, none⟩ (.bool true)) (w.heap.size + 1) 4 #[.bool true] := by
          have := HC4.out.r.set_ 0 (.bool true)
          simpa using this
        have hb4 : Below w.heap.size w (w4.setCell ⟨w.heap.size + 1, 0, none⟩ (.bool true)) := HC4.out.bel.setCell (p := ⟨w.heap.size + 1, 0, none⟩) (by simp) _
        have hk4 := (Below.heap_setCell w4 ⟨w.heap.size + 1, 0, none⟩ (.bool true) D2 (by simp only; omega)).trans HD4.out
        have hk5 := (Below.heap_setCell w4 ⟨w.heap.size + 1, 0, none⟩ (.bool true) D (by simp only; omega)).trans HD5.out
        generalize (w4.setCell ⟨w.heap.size + 1, 0, none⟩ (.bool true)) = w5 at *
        refine ⟨by simp, .inl ⟨_, _, rfl, run_takeDeferred hk4, ?_⟩⟩
        have hg1 := grownBy_putObj' w5 D2 (.deferred none)
        have hk6 := (hg1.block D (Array.getElem?_eq_some_iff.1 hk5).1 (by simp; omega)).trans hk5
        refine ⟨by simp, .inl ⟨_, _, rfl, run_takeDeferred hk6, ?_⟩⟩
        have hg2 := grownBy_putObj' (w5.putObj D2 (.deferred none)) D (.deferred none)
        have hr6 := (hr4.grown hg1 (by simp; omega)).grown hg2 (by simp; omega)
        have hb6 : Below w.heap.size w ((w5.putObj D2 (.deferred none)).putObj D (.deferred none)) := (hb4.grown hg1 hb4.size (fun k e => by cases e; omega)).grown hg2 (by have := hg1.size; have := hb4.size; omega) (fun k e => by cases e; omega)
        have c_r6 := hr6.cell 0
        simp only [List.getElem?_toArray, List.getElem?_cons_zero] at c_r6
        refine ⟨.bool true, ?_, rfl, hb6⟩
        simp [results, Tryd.f6, go_sem, c_r6]
      · exact absurd hH (by decide)
set_option maxRecDepth 100000 in
set_option maxHeartbeats 1600000 in
theorem law_each (s : ByteArray) (many : Int) (w : World) (hF : Fit w) :
    Calls Tryd.prog 6 #[.string s, .int .i64 many] w fun e w' => e = .returned (.bool true) ∧ Below w.heap.size w w' := by
  by_cases hs : s.size ≤ 200
  · exact callsIn_wide.1 (law_each_small s many hs w hF)
  · have hbig : 200 < (s.size : Int) := by omega
    have HF := Lib.hid hF
    clear hF
    go_enter Tryd.func6, Tryd.ntmps6
    go_wp2_with fail
    have hba : Below w.heap.size w ((w.alloc (.cells #[.int .i64 many] 3)).alloc (.cells #[.bool false] 4)) := ((Below.refl _ _).alloc (Nat.le_refl _) _).alloc (by simp) _
    refine (works_any _ (HF.out.below hba)).mono ?_
    rintro e w4 ⟨rfl, hb⟩
    have hb4 : Below w.heap.size w w4 := hba.trans (hb.mono hba.size)
    have br : Blk w4 (w.heap.size + 1) 4 #[.bool false] := by
      have := (Blk.new (w.alloc (.cells #[.int .i64 many] 3)) 4 #[.bool false]).below hb (by simp)
      simpa using this
    have c_r := br.cell 0
    have hf_r := br.frozen 0
    simp only [List.getElem?_toArray, List.getElem?_cons_zero] at c_r
    have c_r2 := (br.set_ 0 (.bool true)).cell 0
    have HB4 := Lib.hid hb4
    clear hba hb hb4 br
    go_wp2
    simp at c_r2
    refine ⟨rfl, .bool true, ?_, rfl, HB4.out.setCell (p := ⟨w.heap.size + 1, 0, none⟩) (by simp) _⟩
    simp [results, Tryd.f6, go_sem, c_r2]
end Go.Proofs.YtkkeimcicpkmbaaDoor
