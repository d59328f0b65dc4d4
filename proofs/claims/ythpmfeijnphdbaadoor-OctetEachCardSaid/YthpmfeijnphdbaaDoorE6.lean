/- The walk of OctetEach. -/
import Derived.Test.YthpmfeijnphdbaaDoorE5
import Derived.Test.YthpmfeijnphdbaaDoorN3
namespace Go.Proofs.YthpmfeijnphdbaaDoor
open Go Go.RowKit Go.Shelf Go.Sort
attribute [local go_sem] Oper.semAt_some

theorem infoU32e : (Tryd.prog.info? 22).map (fun i => (i.zero, i.size, i.bytes)) = some (some (.int .u32 0), 1, 4) := by kernel_rfl
theorem func3Nil (f : FuncId) (c : Array Value) (w : World) : (binOp BinOp.eql 55 (.func (.func f) #[] c) .nilFunc).run Tryd.prog w = .ok (.bool false) w := by kernel_rfl

/-- The numbers' cells. -/
def numCells (l : List (Int × Int)) : List Value := l.map (fun x => .int .u32 x.2)
theorem numCells_snoc (l : List (Int × Int)) (x : Int × Int) : numCells (l ++ [x]) = numCells l ++ [.int .u32 x.2] := by simp [numCells]

theorem numR_stop {k : Nat} (xs : List Int) (f at_ : Nat) (h : ¬ at_ + k ≤ xs.length) : numR k xs f at_ = [] := by
  cases f <;> simp [numR, h]
theorem numR_go {k : Nat} (xs : List Int) (f at_ : Nat) (h : at_ + k ≤ xs.length) : numR k xs (f + 1) at_ = ((at_ : Int), readN xs at_ k) :: numR k xs f (at_ + k) := by
  rw [numR, if_pos h]

/-- An own slice stays through a call. -/
theorem row_past {w w' : World} {base : Nat} {e : TypeId} {size : Nat} {v : Value} {n : Nat} {xs : List Value} (h : w.ownsRow base e size v n xs) (hb : Below w.heap.size w w') : w'.ownsRow base e size v n xs := by
  refine ⟨h.1, ?_⟩
  rcases h.2 with hn | ⟨g, cap, cur, rfl, hb', hgg, rest⟩
  · exact .inl hn
  · exact .inr ⟨g, cap, cur, rfl, hb', (hb.block g (Array.getElem?_eq_some_iff.1 hgg).1).trans hgg, rest⟩

/-- What is left to be told at a place. -/
def restN (k : Int) (xs : List Int) (f at_ : Nat) : List (Int × Int) := if W3 k then numR k.toNat xs f at_ else []
theorem restN_start (k : Int) (xs : List Int) : restN k xs (xs.length + 1) 0 = eachN k xs := rfl
theorem restN_stop {k : Int} {xs : List Int} {at_ : Nat} (f : Nat) (h : ¬ readNo xs at_ k = 0) : restN k xs f at_ = [] := by
  unfold restN
  split
  · rename_i hk
    obtain ⟨m, rfl, _⟩ := hk.nat
    refine numR_stop _ _ _ fun hh => h ?_
    simp only [Int.toNat_natCast] at hh
    unfold readNo
    rw [if_neg (not_not_intro hk), if_neg (by omega), if_neg (by omega)]
  · rfl
theorem restN_go {k : Int} {xs : List Int} {at_ : Nat} (f : Nat) (h : readNo xs at_ k = 0) : ∃ m : Nat, k = m ∧ 1 ≤ m ∧ m ≤ 4 ∧ at_ + m ≤ xs.length ∧ restN k xs (f + 1) at_ = ((at_ : Int), readN xs at_ k) :: restN k xs f (at_ + m) := by
  unfold readNo at h
  by_cases hk : W3 k
  · obtain ⟨m, rfl, hm⟩ := hk.nat
    rw [if_neg (not_not_intro hk), if_neg (by omega)] at h
    by_cases hl : (at_ : Int) + m > xs.length
    · exfalso
      split at h <;> simp_all <;> omega
    · have hl' : at_ + m ≤ xs.length := by omega
      refine ⟨m, rfl, by omega, by omega, hl', ?_⟩
      unfold restN
      rw [if_pos hk, if_pos hk, Int.toNat_natCast, numR_go _ _ _ hl']
  · rw [if_pos hk] at h
    exact absurd h (by decide)

/-- Each, for a range over it: a round keeps K₀. -/
theorem each3_stopsK (n : Nat) (hn : 6 ≤ n) (Bw Bo g cap : Nat) (K₀ : Nat → Prop) (q : Option Addr) (k : Int) (xs : List Int) (hb : IsBytes xs) (hN : xs.length ≤ 1000000) (hcap : xs.length ≤ cap) (hq : 0 < xs.length → q = some ⟨g, 0, none⟩) (w : World)
    (hn₀ : ∀ i, K₀ i → i < w.heap.size) (lw : K₀ Bw) (lg : K₀ g) (cw : w.cell? ⟨Bw, 0, none⟩ = some (.int .i64 k)) (co : w.cell? ⟨Bo, 0, none⟩ = some (.slice q xs.length cap)) (hx : ByS w (some ⟨g, 0, none⟩) xs) (hf : Fit3 w) :
    SeqStopsT Fence.wide n Tryd.prog 28 #[.pointer (some ⟨Bw, 0, none⟩), .pointer (some ⟨Bo, 0, none⟩)] (fun x : Int × Int => #[.int .i64 x.1, .int .u32 x.2]) K₀
      (fun ys => ys = eachN k xs) (fun pre => pre <+: eachN k xs) (pcs k.toNat xs.length (xs.length + 1) 0).length w := fun l J Jx W hW hJ hJx hY h0 => by
  have h := each3_in n hn l Bw Bo g cap K₀ k xs hb hN hcap q hq J Jx W hJ hJx hY (fun i hi => Nat.lt_of_lt_of_le (hn₀ i hi) hW.size) lw lg
    ((hW.cell (p := ⟨Bw, 0, none⟩) (World.block_lt_of_cell? _ _ cw)).trans cw) ((hW.cell (p := ⟨Bo, 0, none⟩) (World.block_lt_of_cell? _ _ co)).trans co) (hx.below hW) (hf.below hW) h0
  rw [eachN_eq] at h
  exact h

/-- A range over such an iterator whose body may break out of it, or may return where what has come is none of what comes. -/
theorem rangeFuncT_brk {F : Fence} {n : Nat} {P : Program} {α : Type} {g : Operand} {ps : Array Tmp} {assign body : Code} {id : Nat} {Q : Exit → Act → World → Prop} {a : Act} {w : World}
    (hro : F.round = none) (h1 : 1 ≤ n) {gf : Nat} {lb : Array Value} (hg : a.eval g = .func (.func gf) #[] lb) (hFg : F.fn gf) (eg : ∀ args w, (callFunc gf args).run P w = .ok (.enter gf args) w)
    {encs : α → Array Value} {K₀ : Nat → Prop} {S Sp : List α → Prop} {N : Nat} {w0 : World} (hseq : SeqStopsT F (n - 1) P gf lb encs K₀ S Sp N w0)
    (hK₀ : ¬ K₀ (w.heap.size + 1)) (hb0 : Below w0.heap.size w0 w) (hps : ∀ x, (encs x).size = ps.size)
    (I : List α → World → Prop) (Iy : List α → World → Prop) (hI : OwnM (fun _ => true) w.heap.size I) (hIy : OwnM (fun _ => true) w.heap.size Iy) (h0 : I [] w) (a₁ : α → Act)
    (hassign : ∀ (l : Nat) (x : α) (W : World) (K : Act → World → Prop), K (a₁ x) W →
      assign.wpIn (F.inRound l) (n - 1 - 1) P (Exit.then K (fun _ _ _ => False)) { tmps := (ps.zip (encs x)).foldl (fun t (p, v) => t.setIfInBounds p v) a.tmps, defers := [] } W)
    (hbody : ∀ (l : Nat) (pre : List α) (x : α) (W : World), I pre W → pre.length < N → body.wpIn (F.inRound l) (n - 1 - 1) P (ownPostT w.heap.size K₀ (w.heap.size + 2) I (fun c pre W => (c = .ret ∧ ¬ Sp pre) ∨ (c = .exit id ∧ Iy pre W)) (pre ++ [x]) W) (a₁ x) W)
    (hafter : ∀ (D : Nat) (xs : List α) (W : World), w.heap.size ≤ D → (S xs ∧ I xs W ∨ Sp xs ∧ Iy xs W) → W.heap[D]? = some (.deferred (some [])) → Q .normal { a with defers := { target := .collected D, args := #[] } :: a.defers } W) :
    (Code.rangeFunc g ps assign body).wpIn F n P (Exit.inBlock id Q) a w := by
  refine wpIn_rangeFunc_T1 hro h1 hg hFg eg hseq hK₀ hb0 hps I (fun c pre W => (c = .ret ∧ ¬ Sp pre) ∨ (c = .exit id ∧ Iy pre W)) hI ?_ h0 a₁ hassign hbody ?_ ?_
  · intro c s A B hs ht
    exact hs.imp (fun h => h) (fun h => ⟨h.1, hIy s A B h.2 ht⟩)
  · intro D xs W hD hS hi hK
    simpa [Exit.inBlock] using hafter D xs W hD (.inl ⟨hS, hi⟩) hK
  · rintro D c pre W hD hS (⟨rfl, h⟩ | ⟨rfl, h⟩) hK
    · exact absurd hS h
    · have := hafter D pre W hD (.inr ⟨hS, h⟩) hK
      refine wpIn_exit ?_
      simpa [Exit.inBlock] using this

/-- The counter's block, and whatever lay ahead of it. -/
def Hold3 (W₁ : World) (bn : Nat) (k : Nat) (W : World) : Prop := Blk W bn 3 #[.int .i64 k] ∧ Below bn W₁ W
theorem hold3_own {β : Type} {M : Obj → Bool} {W₁ : World} {bn B : Nat} (h1 : bn ≤ W₁.heap.size) (h2 : bn < B) (f : β → Nat) : OwnM M B (fun s W => Hold3 W₁ bn (f s) W) := fun _ A B hs ht =>
  ⟨by
    obtain ⟨row, hg, hr⟩ := ht
    exact hs.1.grown hg (fun e => by have := (hr _ e.symm).1; omega),
   hs.2.trans (ht.below (by omega) (Nat.le_trans h1 hs.2.size))⟩
theorem Hold3.set {W₁ W : World} {h k : Nat} (hh : Hold3 W₁ h k W) : Hold3 W₁ h (k + 1) (W.setCell ⟨h, 0, none⟩ (.int .i64 ((k : Int) + 1))) := by
  refine ⟨?_, hh.2.setCell (p := ⟨h, 0, none⟩) (Nat.le_refl _) _⟩
  have := hh.1.set_ 0 (.int .i64 ((k : Int) + 1))
  simpa using this

def goes3 (many : Int) (pre : List (Int × Int)) : Prop := pre = [] ∨ (pre.length : Int) < many
def breaks3 (many : Int) (pre : List (Int × Int)) : Prop := 0 < pre.length ∧ many ≤ pre.length ∧ (pre.length = 1 ∨ ((pre.length - 1 : Nat) : Int) < many)
theorem goes3.brk {many : Int} {pre : List (Int × Int)} (h : goes3 many pre) : pre.length = 0 ∨ (pre.length : Int) < many := h.imp (fun e => by rw [e]; rfl) id
theorem not_pre3 {pre L : List (Int × Int)} {x : Int × Int} (hlt : pre.length < L.length) (hne : ¬ x = L[pre.length]'hlt) : ¬ (pre ++ [x]) <+: L := by
  rintro ⟨r, hr⟩
  apply hne
  subst hr
  simp
theorem long_pre3 {pre L : List (Int × Int)} {x : Int × Int} (hlt : ¬ pre.length < L.length) : ¬ (pre ++ [x]) <+: L := fun h => by
  have := h.length_le
  simp at this
  omega

/-- A slice of its own, as the walk wants it. -/
theorem own3_open {w : World} {base : Nat} {v : Value} {l : List (Int × Int)} (h : w.ownsRow base 22 1 v l.length (numCells l)) :
    ∃ (A : Option Addr) (cap : Nat), v = .slice A l.length cap ∧ l.length ≤ cap ∧ (0 < l.length → ∃ g, A = some ⟨g, 0, none⟩ ∧ g < w.heap.size ∧ ∀ j (hj : j < l.length), w.cell? ⟨g, j, none⟩ = some (.int .u32 (l[j]'hj).2)) := by
  have hlt := h.lt
  have hcl := fun g hg => h.cells (g := g) hg
  obtain ⟨hlen, h⟩ := h
  rcases h with ⟨rfl, h0⟩ | ⟨g, cap, cur, rfl, _, hh, hcap, _⟩
  · exact ⟨none, 0, by rw [h0], by omega, fun x => absurd x (by omega)⟩
  · refine ⟨some ⟨g, 0, none⟩, cap, rfl, hcap, fun _ => ⟨g, rfl, (hlt g rfl).2, fun j hj => ?_⟩⟩
    have e1 := hcl g rfl j (.int .u32 (l[j]'hj).2) (by simp [numCells, hj])
    have ad : ∀ n, (⟨g, 0, none⟩ : Addr).add n = ⟨g, n, none⟩ := fun n => by unfold Addr.add; split <;> simp_all
    rw [ad] at e1
    exact e1

/-- What the walk holds behind the call. -/
structure Ctx3 (w w2 : World) (k many : Int) (A : Option Addr) (cap : Nat) (L : List (Int × Int)) (W : World) : Prop where
  b2 : Below w2.heap.size w2 W
  wd : Blk W w.heap.size 3 #[.int .i64 k]
  m : Blk W (w.heap.size + 1) 3 #[.int .i64 many]
  r : Blk W (w.heap.size + 2) 4 #[.bool false]
  wn : Blk W (w.heap.size + 3) 53 #[.slice A L.length cap]
  el : 0 < L.length → ∃ g, A = some ⟨g, 0, none⟩ ∧ g < w2.heap.size ∧ ∀ j (hj : j < L.length), W.cell? ⟨g, j, none⟩ = some (.int .u32 (L[j]'hj).2)
  z : w.heap.size + 4 ≤ w2.heap.size
theorem Ctx3.mono {w w2 : World} {k many : Int} {A : Option Addr} {cap : Nat} {L : List (Int × Int)} {W W' : World} (C : Ctx3 w w2 k many A cap L W) (hb : Below w2.heap.size W W') : Ctx3 w w2 k many A cap L W' := by
  have hz := C.z
  refine ⟨C.b2.trans hb, C.wd.below hb (by omega), C.m.below hb (by omega), C.r.below hb (by omega), C.wn.below hb (by omega), fun h => ?_, C.z⟩
  obtain ⟨g, e, hg, hc⟩ := C.el h
  exact ⟨g, e, hg, fun j hj => (hb.cell (p := ⟨g, j, none⟩) hg).trans (hc j hj)⟩

set_option maxRecDepth 100000 in
set_option maxHeartbeats 3200000 in
theorem law03_each_small (k many : Int) (p : Option Addr) (c : Nat) (xs : List Int) (b1 : IsBytes xs) (hs : xs.length ≤ 100) (k63 : k < 9223372036854775808) (w : World) (x1 : ByS w p xs) (hF : Fit3 w) :
    CallsIn Fence.wide 9 Tryd.prog 6 #[.slice p xs.length c, .int .i64 k, .int .i64 many] w fun e w' => e = .returned (.bool true) ∧ Below w.heap.size w w' := by
  have hbig : ¬ 100 < (xs.length : Int) := by omega
  obtain ⟨i0, hi, hz0, hz1, hz2⟩ := info_parts infoU32e
  have HI := Lib.hid (And.intro hi (And.intro hz0 (And.intro hz1 hz2)))
  have HF := Lib.hid hF
  have B1 := Lib.hid b1
  have X1 := Lib.hid x1
  clear hF b1 x1 hi hz0 hz1 hz2
  refine callsIn_of_wp_marks Tryd.func6 rfl trivial ?_ rfl
  simp only [Tryd.ntmps6, List.size_toArray, List.length_cons, List.length_nil, Nat.reduceAdd, Nat.reduceSub, Array.replicate_succ, Array.replicate_zero, List.push_toArray, List.append_toArray, List.nil_append, List.cons_append]
  gi_wp2_with fail
  refine wpIn_wide.2 ?_
  have c0 : Blk ((((w.alloc (.cells #[.int .i64 k] 3)).alloc (.cells #[.int .i64 many] 3)).alloc (.cells #[.bool false] 4)).alloc (.cells #[.slice none 0 0] 53)) w.heap.size 3 #[.int .i64 k] := (((Blk.new w _ _).alloc _).alloc _).alloc _
  have c1 : Blk ((((w.alloc (.cells #[.int .i64 k] 3)).alloc (.cells #[.int .i64 many] 3)).alloc (.cells #[.bool false] 4)).alloc (.cells #[.slice none 0 0] 53)) (w.heap.size + 1) 3 #[.int .i64 many] := by
    have := ((Blk.new (w.alloc (.cells #[.int .i64 k] 3)) 3 #[.int .i64 many]).alloc (.cells #[.bool false] 4)).alloc (.cells #[.slice none 0 0] 53)
    simpa using this
  have c2 : Blk ((((w.alloc (.cells #[.int .i64 k] 3)).alloc (.cells #[.int .i64 many] 3)).alloc (.cells #[.bool false] 4)).alloc (.cells #[.slice none 0 0] 53)) (w.heap.size + 2) 4 #[.bool false] := by
    have := (Blk.new ((w.alloc (.cells #[.int .i64 k] 3)).alloc (.cells #[.int .i64 many] 3)) 4 #[.bool false]).alloc (.cells #[.slice none 0 0] 53)
    simpa using this
  have c3 : Blk ((((w.alloc (.cells #[.int .i64 k] 3)).alloc (.cells #[.int .i64 many] 3)).alloc (.cells #[.bool false] 4)).alloc (.cells #[.slice none 0 0] 53)) (w.heap.size + 3) 53 #[.slice none 0 0] := by
    have := Blk.new (((w.alloc (.cells #[.int .i64 k] 3)).alloc (.cells #[.int .i64 many] 3)).alloc (.cells #[.bool false] 4)) 53 #[.slice none 0 0]
    simpa using this
  have hb0 : Below w.heap.size w ((((w.alloc (.cells #[.int .i64 k] 3)).alloc (.cells #[.int .i64 many] 3)).alloc (.cells #[.bool false] 4)).alloc (.cells #[.slice none 0 0] 53)) := ((((Below.refl w.heap.size w).alloc (Nat.le_refl _) _).alloc (by simp) _).alloc (by simp; omega) _).alloc (by simp; omega) _
  have hs0 : ((((w.alloc (.cells #[.int .i64 k] 3)).alloc (.cells #[.int .i64 many] 3)).alloc (.cells #[.bool false] 4)).alloc (.cells #[.slice none 0 0] 53)).heap.size = w.heap.size + 4 := by simp
  generalize ((((w.alloc (.cells #[.int .i64 k] 3)).alloc (.cells #[.int .i64 many] 3)).alloc (.cells #[.bool false] 4)).alloc (.cells #[.slice none 0 0] 53)) = W0 at *
  have C0 := Lib.hid c0
  have C1 := Lib.hid c1
  have C2 := Lib.hid c2
  have HB0 := Lib.hid hb0
  have C3 : Hid (Blk W0 (w.heap.size + 3) 53 #[.slice none 0 0]) := c3
  clear c0 c1 c2 c3 hb0
  go_wp2
  go_loopw [8] (fun a wr => ∃ (f at_ : Nat) (done : List (Int × Int)) (v : Value), a = .int .i64 at_ ∧ at_ ≤ xs.length ∧ xs.length + 1 ≤ at_ + f ∧ done.length ≤ at_ ∧ Hid (eachN k xs = done ++ restN k xs f at_) ∧
      Hid (wr.ownsRow (w.heap.size + 4) 22 1 v done.length (numCells done)) ∧ Hid (Blk wr (w.heap.size + 3) 53 #[v]) ∧ Hid (Below (w.heap.size + 3) W0 wr) ∧ w.heap.size + 4 ≤ wr.heap.size) (fun a _ => xs.length + 1 - (intOf a).toNat)
  case atStart => exact ⟨xs.length + 1, 0, [], _, rfl, by omega, by omega, by simp, by rw [restN_start]; simp [Hid], World.ownsRow_nil _ _ _ _, C3, Below.refl _ _, by omega⟩
  case round =>
    obtain ⟨f, at_, done, v, rfl, hat, hf, hdl, HL, HO, H3, HB, hsz⟩ := hrel
    clear C3
    obtain ⟨f, rfl⟩ : ∃ m, f = m + 1 := ⟨f - 1, by omega⟩
    have c_k := (C0.out.below HB.out (by omega)).cell 0
    have c_v := H3.out.cell 0
    simp only [List.getElem?_toArray, List.getElem?_cons_zero] at c_k c_v
    have hread := refRead_any p c xs B1.out (by omega) at_ k wr (X1.out.below (HB0.out.trans (HB.out.mono (by omega))))
    have HR := Lib.hid hread
    clear hread
    have hatz : (at_ : Int) ≤ (xs.length : Int) := by omega
    by_cases hz : readNo xs at_ k = 0
    · have HG := Lib.hid (restN_go (k := k) (at_ := at_) f hz)
      rw [hz] at HR
      generalize hrn : readN xs at_ k = rn at *
      have HRN := Lib.hid hrn
      clear hrn
      go_wp2_with fail
      refine HR.out.mono ?_
      rintro e wc ⟨rfl, hbc⟩
      have hcv : wc.cell? ⟨w.heap.size + 3, 0, none⟩ = some v := (hbc.cell (p := ⟨w.heap.size + 3, 0, none⟩) (by simp only; omega)).trans c_v
      have hck : wc.cell? ⟨w.heap.size, 0, none⟩ = some (.int .i64 k) := (hbc.cell (p := ⟨w.heap.size, 0, none⟩) (by simp only; omega)).trans c_k
      have hfv : wc.frozen? ⟨w.heap.size + 3, 0, none⟩ = false := (H3.out.below hbc (by omega)).frozen 0
      have HOc := Lib.hid (row_past HO.out hbc)
      have HBc := Lib.hid (HB.out.trans (hbc.mono (by omega)))
      have H3c := Lib.hid (H3.out.below hbc (by omega))
      have hszc := hbc.size
      clear hbc c_k c_v HO HR
      go_wp2_with (at_builtin; refine wpList_append_own _ rfl _ _ 53 rfl (w.heap.size + 4) 22 i0 (.int .u32 0) 1 4 Tryd.underlying53 HI.out.1 HI.out.2.1 HI.out.2.2.1 HI.out.2.2.2 rfl (by decide) _ _ _ rfl (HOc.out.alloc _) ⟨wc.heap.size, 0, none⟩ 1 1 [.int .u32 rn] rfl rfl ?c1 ?c2 ?c3 ?c4 ?c5 ?_)
      case c1 => intro j u hj; match j, hj with | 0, hj => simp at hj; subst hj; simp [Addr.add]
      case c2 => intro u hu; simp at hu; subst hu; rfl
      case c3 => unfold maxLen; omega
      case c4 => omega
      case c5 => simp; omega
      intro v' w1 hown' hgrow _
      obtain ⟨g', cap', hv'⟩ := ownsRow_succ hown'
      have hba : Below (w.heap.size + 3) W0 (wc.alloc (.cells #[.int .u32 rn] 22)) := HBc.out.alloc (by omega) _
      have hb1 : Below (w.heap.size + 3) W0 w1 := hba.grown hgrow (by simp; omega) (fun g hg => by have := (HOc.out.lt g hg).1; omega)
      have h31 : Blk w1 (w.heap.size + 3) 53 #[v] := ((H3c.out.alloc _).grown hgrow (fun hg => by have := (HOc.out.lt _ hg.symm).1; omega))
      have hfv1 := h31.frozen 0
      have c_v1 := h31.cell 0
      simp only [List.getElem?_toArray, List.getElem?_cons_zero] at c_v1
      have hown2 : (w1.setCell ⟨w.heap.size + 3, 0, none⟩ v').ownsRow (w.heap.size + 4) 22 1 v' (done ++ [((at_ : Int), rn)]).length (numCells (done ++ [((at_ : Int), rn)])) := by
        rw [numCells_snoc, List.length_append]
        exact ownsRow_setCell_below hown' (by simp) _
      have h32 : Blk (w1.setCell ⟨w.heap.size + 3, 0, none⟩ v') (w.heap.size + 3) 53 #[v'] := by
        have := h31.set_ 0 v'
        simpa using this
      have hb2 : Below (w.heap.size + 3) W0 (w1.setCell ⟨w.heap.size + 3, 0, none⟩ v') := hb1.setCell (p := ⟨w.heap.size + 3, 0, none⟩) (Nat.le_refl _) _
      have hsz2 : w.heap.size + 4 ≤ (w1.setCell ⟨w.heap.size + 3, 0, none⟩ v').heap.size := by have := hb2.size; omega
      obtain ⟨m, hkm, hm1, hm4, hml, hrest⟩ := HG.out
      have hk1 : 1 ≤ k := by omega
      have hk4 : k ≤ 4 := by omega
      have hkl : (at_ : Int) + k ≤ 100 := by omega
      have c_k2 := (C0.out.below hb2 (by omega)).cell 0
      simp only [List.getElem?_toArray, List.getElem?_cons_zero] at c_k2
      have HO2 := Lib.hid hown2
      have H32 := Lib.hid h32
      have HB2 := Lib.hid hb2
      have HRS := Lib.hid hrest
      have HM := Lib.hid (And.intro hkm (And.intro hm1 (And.intro hm4 hml)))
      subst hv'
      clear hown' hown2 h31 h32 hb1 hb2 hba hgrow HG HOc HBc H3c H3 HB hrest hck hcv hkm hm1 hm4 hml hsz hszc hsz2
      go_wp2
      obtain ⟨hkm, hm1, hm4, hml⟩ := HM.out
      have hsz2 : w.heap.size + 4 ≤ (w1.setCell ⟨w.heap.size + 3, 0, none⟩ (.slice (some ⟨g', 0, none⟩) (done.length + 1) cap')).heap.size := by have := HB2.out.size; omega
      go_roundw
      case rel => exact ⟨f, at_ + m, done ++ [((at_ : Int), rn)], _, by rw [hkm]; rfl, by omega, by omega, by simp; omega, by have h1 := HL.out; rw [HRS.out] at h1; show eachN _ _ = _; rw [h1]; simp, HO2, H32, HB2, hsz2⟩
      case measure => simp [intOf]; omega
    · have HLs : Hid (eachN k xs = done) := by have := HL.out; rw [restN_stop _ hz, List.append_nil] at this; exact this
      generalize readNo xs at_ k = no at *
      generalize readN xs at_ k = rn at *
      clear HL
      go_wp2_with fail
      refine HR.out.mono ?_
      rintro e w1 ⟨rfl, hb1⟩
      have H31 := Lib.hid (H3.out.below hb1 (by omega))
      have HO1 := Lib.hid (row_past HO.out hb1)
      have HB1 := Lib.hid (HB.out.trans (hb1.mono (by omega)))
      have hsz1 : w.heap.size + 4 ≤ w1.heap.size := by have := hb1.size; omega
      clear H3 HO HB hb1 c_k c_v HR
      go_wp2_with fail
      have hbw1 : Below w.heap.size w w1 := HB0.out.trans (HB1.out.mono (by omega))
      have c_k := (C0.out.below HB1.out (by omega)).cell 0
      simp only [List.getElem?_toArray, List.getElem?_cons_zero] at c_k
      have HBW1 := Lib.hid hbw1
      clear hbw1
      gi_wp2_with fail
      refine ⟨trivial, ?_⟩
      refine (callsIn_wide.2 (each3_any p c xs k w1 (by omega) (X1.out.below HBW1.out))).mono ?_
      rintro e w2 ⟨Bw, Bo, g, cap, q, rfl, hcapq, hq, lw, lg, cw, co, hx2, hb2⟩
      have hfn := fun W => func3Nil 28 #[.pointer (some ⟨Bw, 0, none⟩), .pointer (some ⟨Bo, 0, none⟩)] W
      have HX2 := Lib.hid (And.intro hcapq (And.intro hq (And.intro lw (And.intro lg (And.intro cw (And.intro co hx2))))))
      have H32 := Lib.hid (H31.out.below hb2 (by omega))
      have HO2 := Lib.hid (row_past HO1.out hb2)
      have HB2 := Lib.hid (HB1.out.trans (hb2.mono (by omega)))
      have hsz2 : w.heap.size + 4 ≤ w2.heap.size := by have := hb2.size; omega
      clear hcapq hq lw lg cw co hx2 hb2 H31 HO1 HB1 HBW1 hsz1 c_k
      have hct : ∀ v, (w2.alloc (.cells #[v] 3)).cell? ⟨w2.heap.size, 0, none⟩ = some v := fun v => by simp
      gi_wp2_with fail
      clear hfn
      obtain ⟨A, cap2, hv2, hcap2, hel⟩ := own3_open HO2.out
      subst hv2
      have hLs : done.length ≤ 101 := by omega
      have HC0 : Hid (Ctx3 w w2 k many A cap2 done w2) := ⟨Below.refl _ _, C0.out.below HB2.out (by omega), C1.out.below HB2.out (by omega), C2.out.below HB2.out (by omega), H32.out, hel, hsz2⟩
      have HBW2 := Lib.hid (HB0.out.trans (HB2.out.mono (by omega)))
      have hat1 : ∀ (j : Nat) (hj : j < done.length), (done[j]'hj).1 = j * k := by
        have := HLs.out
        subst this
        exact fun j hj => eachN_at hj
      have hw3 : 0 < done.length → 1 ≤ k ∧ k ≤ 4 := by
        intro h
        have := HLs.out
        subst this
        unfold eachN at h
        split at h
        · rename_i hk; unfold W3 at hk; omega
        · simp at h
      have hseq0 : SeqStopsT Fence.wide 8 Tryd.prog 28 #[.pointer (some ⟨Bw, 0, none⟩), .pointer (some ⟨Bo, 0, none⟩)] (fun x : Int × Int => #[.int .i64 x.1, .int .u32 x.2]) (fun i => i < w2.heap.size ∧ i ≠ w.heap.size + 2) (fun ys => ys = done) (fun pre => pre <+: done) (pcs k.toNat xs.length (xs.length + 1) 0).length w2 := by
        obtain ⟨hcapq, hq, lw, lg, cw, co, hx2⟩ := HX2.out
        have r0 := HC0.out.r.cell 0
        simp only [List.getElem?_toArray, List.getElem?_cons_zero] at r0
        have nw : Bw ≠ w.heap.size + 2 := fun e => by rw [e, r0] at cw; simp at cw
        obtain ⟨g2, hq2, lg2, ng, hx3⟩ : ∃ g2, (0 < xs.length → q = some ⟨g2, 0, none⟩) ∧ g2 < w2.heap.size ∧ g2 ≠ w.heap.size + 2 ∧ ByS w2 (some ⟨g2, 0, none⟩) xs := by
          by_cases h0 : 0 < xs.length
          · refine ⟨g, hq, lg, fun e => ?_, hx2⟩
            obtain ⟨b, o, hbo, _, hc⟩ := hx2 h0
            cases hbo
            have := hc 0 h0
            rw [e] at this
            simp only [Nat.add_zero] at this
            rw [r0] at this
            simp at this
          · exact ⟨Bw, fun h => absurd h h0, lw, nw, fun h => absurd h h0⟩
        have := each3_stopsK 8 (by omega) Bw Bo g2 cap (fun i => i < w2.heap.size ∧ i ≠ w.heap.size + 2) q k xs B1.out (by omega) hcapq hq2 w2 (fun _ h => h.1) ⟨lw, nw⟩ ⟨lg2, ng⟩ cw co hx3 (HF.out.below HBW2.out)
        rw [HLs.out] at this
        exact this
      have HSEQ := Lib.hid hseq0
      have HAT := Lib.hid hat1
      have HW3 := Lib.hid hw3
      clear hseq0 hat1 hw3 hel HO2 H32 HB2 HX2 HLs
      generalize (pcs k.toNat xs.length (xs.length + 1) 0).length = N at *
      refine wpIn_loop_rounds 3 ?_
      rw [roundsIn_succ]
      gi_wp2
      clear hct
      have hbt : Blk ((w2.alloc (.cells #[.int .i64 0] 3)).alloc (.cells #[.int .i64 0] 3)) w2.heap.size 3 #[.int .i64 0] := (Blk.new _ _ _).alloc _
      have hbn : Blk ((w2.alloc (.cells #[.int .i64 0] 3)).alloc (.cells #[.int .i64 0] 3)) (w2.heap.size + 1) 3 #[.int .i64 0] := by
        have := Blk.new (w2.alloc (.cells #[.int .i64 0] 3)) 3 #[.int .i64 0]
        simpa using this
      have hbw : Below w2.heap.size w2 ((w2.alloc (.cells #[.int .i64 0] 3)).alloc (.cells #[.int .i64 0] 3)) := ((Below.refl _ _).alloc (Nat.le_refl _) _).alloc (by simp) _
      have hszA : ((w2.alloc (.cells #[.int .i64 0] 3)).alloc (.cells #[.int .i64 0] 3)).heap.size = w2.heap.size + 2 := by simp
      generalize ((w2.alloc (.cells #[.int .i64 0] 3)).alloc (.cells #[.int .i64 0] 3)) = WA at *
      have HC := Lib.hid (HC0.out.mono hbw)
      have HBT := Lib.hid hbt
      clear HC0 hbw hbt
      refine rangeFuncT_brk (S := fun ys => ys = done) (Sp := fun pre => pre <+: done) (N := N) (K₀ := fun i => i < w2.heap.size ∧ i ≠ w.heap.size + 2) (w0 := w2) rfl (by omega) (gf := 28) (lb := #[.pointer (some ⟨Bw, 0, none⟩), .pointer (some ⟨Bo, 0, none⟩)]) rfl trivial (enters_of Tryd.func28 (by kernel_rfl) rfl)
        HSEQ.out (by omega) HC.out.b2 (fun _ => rfl)
        (fun pre W => Hold3 WA (w2.heap.size + 1) pre.length W ∧ goes3 many pre) (fun pre W => Hold3 WA (w2.heap.size + 1) pre.length W ∧ breaks3 many pre)
        (OwnM.and (hold3_own (by omega) (by omega) _) (ownM_pure _)) (OwnM.and (hold3_own (by omega) (by omega) _) (ownM_pure _))
        ⟨⟨hbn, Below.refl _ _⟩, .inl rfl⟩ ?a₁ ?assign ?body ?after
      case assign =>
        intro l x W K hK
        gi_wp2
        exact hK
      case body =>
        rintro l pre x W ⟨hH, hp⟩ _
        have C := HC.out.mono (hH.2.mono (by omega))
        have c_n := hH.1.cell 0
        have c_w := C.wn.cell 0
        have c_k := C.wd.cell 0
        have c_t := (HBT.out.below hH.2 (by omega)).cell 0
        have c_m := C.m.cell 0
        have hf_n := hH.1.frozen 0
        have hf_r := C.r.frozen 0
        have c_r := C.r.cell 0
        simp only [List.getElem?_toArray, List.getElem?_cons_zero] at c_n c_w c_t c_m c_k c_r
        have hkp : ∀ E u, w2.heap.size + 1 < E → Kept2 (fun i => i < w2.heap.size ∧ i ≠ w.heap.size + 2) E W (W.setCell ⟨w2.heap.size + 1, 0, none⟩ u) := fun E u h => .grown (grown_set W _ _ _) (by omega) h
        have hkr : ∀ E u, w.heap.size + 2 < E → Kept2 (fun i => i < w2.heap.size ∧ i ≠ w.heap.size + 2) E W (W.setCell ⟨w.heap.size + 2, 0, none⟩ u) := fun E u h => .grown (grown_set W _ _ _) (by omega) h
        have HN := Lib.hid hH
        have HKP := Lib.hid hkp
        have HKR := Lib.hid hkr
        by_cases hlt : pre.length < done.length
        · obtain ⟨g0, rfl, hg, hel⟩ := C.el (by omega)
          have e2 := hel pre.length hlt
          have e1 := HAT.out pre.length hlt
          obtain ⟨hk1, hk4⟩ := HW3.out (by omega)
          have HL2 := Lib.hid hel
          have HCC := Lib.hid C
          clear hH hel C hkp hkr
          have k1 : ¬ (done.length : Int) ≤ (pre.length : Int) := by omega
          have hz1 := HCC.out.z
          generalize hz : (done[pre.length]'hlt).1 = z1 at *
          generalize hzz : (done[pre.length]'hlt).2 = z2 at *
          have hz0 : 0 ≤ (pre.length : Int) * k := Int.mul_nonneg (by omega) (by omega)
          have hz4 : (pre.length : Int) * k ≤ (pre.length : Int) * 4 := Int.mul_le_mul_of_nonneg_left hk4 (by omega)
          have hpl : (pre.length : Int) ≤ 101 := by omega
          have hwm : IntKind.i64.wrap ((pre.length : Int) * k) = z1 := by rw [IntKind.wrap_i64, e1]; omega
          by_cases hx1 : x.1 = z1
          · by_cases hx2 : x.2 = z2
            · by_cases hmk : many ≤ (pre.length : Int) + 1
              · gi_wp2
                refine ⟨(KeepsOthers.setCell _ _ _).from _, HKP.out _ _ (by omega), .inr ⟨rfl, by simpa using HN.out.set, by have := hp.brk; unfold breaks3; simp only [List.length_append, List.length_cons, List.length_nil]; omega⟩⟩
              · gi_wp2
                exact ⟨(KeepsOthers.setCell _ _ _).from _, HKP.out _ _ (by omega), by simpa using HN.out.set, .inr (by simp; omega)⟩
            · have hne : ¬ x = done[pre.length]'hlt := fun e => hx2 (by rw [e]; exact hzz)
              gi_wp2
              exact ⟨(KeepsOthers.setCell _ _ _).from _, HKR.out _ _ (by omega), .inl ⟨rfl, not_pre3 hlt hne⟩⟩
          · have hne : ¬ x = done[pre.length]'hlt := fun e => hx1 (by rw [e]; exact hz)
            gi_wp2
            exact ⟨(KeepsOthers.setCell _ _ _).from _, HKR.out _ _ (by omega), .inl ⟨rfl, not_pre3 hlt hne⟩⟩
        · have k1 : (done.length : Int) ≤ (pre.length : Int) := by omega
          have HCC := Lib.hid C
          clear hH C hkp hkr
          gi_wp2
          exact ⟨(KeepsOthers.setCell _ _ _).from _, HKR.out _ _ (by omega), .inl ⟨rfl, long_pre3 hlt⟩⟩
      case after =>
        rintro D ys W hD hxs hK
        obtain ⟨j, hj, hH, hjv⟩ : ∃ j : Nat, (j : Int) = min (done.length : Int) (max 1 many) ∧ Hold3 WA (w2.heap.size + 1) j W ∧ j ≤ 101 := by
          rcases hxs with ⟨rfl, hH, hp⟩ | ⟨hpre, hH, hp⟩
          · refine ⟨_, ?_, hH, hLs⟩
            rcases hp with rfl | hp
            · simp; omega
            · omega
          · refine ⟨_, ?_, hH, by have := hpre.length_le; omega⟩
            have := hpre.length_le
            obtain ⟨h1, h2, h3⟩ := hp
            omega
        clear hxs
        have C := HC.out.mono (hH.2.mono (by omega))
        have c_n := hH.1.cell 0
        have c_w := C.wn.cell 0
        have c_t := (HBT.out.below hH.2 (by omega)).cell 0
        have c_m := C.m.cell 0
        simp only [List.getElem?_toArray, List.getElem?_cons_zero] at c_n c_w c_t c_m
        have HN := Lib.hid hH
        have HCC := Lib.hid C
        have HD := Lib.hid hK
        clear hH C hK
        gi_wp2_with fail
        rw [roundsIn_succ]
        have hsz2 : ∀ (v : Value) (t : TypeId), (W.alloc (.cells #[v] t)).cell? ⟨W.heap.size, 0, none⟩ = some v := fun v t => by simp
        have hsf2 : ∀ (v : Value) (t : TypeId), (W.alloc (.cells #[v] t)).frozen? ⟨W.heap.size, 0, none⟩ = false := fun v t => (Blk.new W t #[v]).frozen 0
        gi_wp2
        have hct2 : Blk ((W.alloc (.cells #[.int .i64 1] 3)).alloc (.cells #[.int .i64 0] 3)) W.heap.size 3 #[.int .i64 1] := (Blk.new W _ _).alloc _
        have hcn2 : Blk ((W.alloc (.cells #[.int .i64 1] 3)).alloc (.cells #[.int .i64 0] 3)) (W.heap.size + 1) 3 #[.int .i64 0] := by
          have := Blk.new (W.alloc (.cells #[.int .i64 1] 3)) 3 #[.int .i64 0]
          simpa using this
        have hcw2 : Below W.heap.size W ((W.alloc (.cells #[.int .i64 1] 3)).alloc (.cells #[.int .i64 0] 3)) := ((Below.refl _ _).alloc (Nat.le_refl _) _).alloc (by simp) _
        have hszB : ((W.alloc (.cells #[.int .i64 1] 3)).alloc (.cells #[.int .i64 0] 3)).heap.size = W.heap.size + 2 := by simp
        have hszW : w2.heap.size + 2 ≤ W.heap.size := by have := HN.out.2.size; omega
        have hDlt : D < W.heap.size := (Array.getElem?_eq_some_iff.1 HD.out).1
        generalize hWB : ((W.alloc (.cells #[.int .i64 1] 3)).alloc (.cells #[.int .i64 0] 3)) = WB at *
        have HC2 := Lib.hid (HCC.out.mono (hcw2.mono (by omega)))
        have HD2 := Lib.hid ((hcw2.block D hDlt).trans HD.out)
        have HT2 := Lib.hid hct2
        clear hWB hsz2 hsf2 hct2 c_n c_w c_t c_m
        refine rangeFuncT_brk (S := fun ys => ys = done) (Sp := fun pre => pre <+: done) (N := N) (K₀ := fun i => i < w2.heap.size ∧ i ≠ w.heap.size + 2) (w0 := w2) rfl (by omega) (gf := 28) (lb := #[.pointer (some ⟨Bw, 0, none⟩), .pointer (some ⟨Bo, 0, none⟩)]) rfl trivial (enters_of Tryd.func28 (by kernel_rfl) rfl)
          HSEQ.out (by omega) HC2.out.b2 (fun _ => rfl)
          (fun pre W' => Hold3 WB (W.heap.size + 1) pre.length W') (fun _ _ => 1 = 2)
          (hold3_own (by omega) (by omega) _) (fun _ _ _ h _ => h)
          ⟨hcn2, Below.refl _ _⟩ ?a₂ ?assign2 ?body2 ?after2
        case assign2 =>
          intro l x W K hK
          gi_wp2
          exact hK
        case body2 =>
          rintro l pre x W' hH _
          have C := HC2.out.mono (hH.2.mono (by omega))
          have c_n := hH.1.cell 0
          have c_w := C.wn.cell 0
          have c_k := C.wd.cell 0
          have c_t := (HT2.out.below hH.2 (by omega)).cell 0
          have c_m := C.m.cell 0
          have hf_n := hH.1.frozen 0
          have hf_r := C.r.frozen 0
          have c_r := C.r.cell 0
          simp only [List.getElem?_toArray, List.getElem?_cons_zero] at c_n c_w c_t c_m c_k c_r
          have hkp : ∀ E u, W.heap.size + 1 < E → Kept2 (fun i => i < w2.heap.size ∧ i ≠ w.heap.size + 2) E W' (W'.setCell ⟨W.heap.size + 1, 0, none⟩ u) := fun E u h => .grown (grown_set W' _ _ _) (by omega) h
          have hkr : ∀ E u, w.heap.size + 2 < E → Kept2 (fun i => i < w2.heap.size ∧ i ≠ w.heap.size + 2) E W' (W'.setCell ⟨w.heap.size + 2, 0, none⟩ u) := fun E u h => .grown (grown_set W' _ _ _) (by omega) h
          have HN2 := Lib.hid hH
          have HKP := Lib.hid hkp
          have HKR := Lib.hid hkr
          by_cases hlt : pre.length < done.length
          · obtain ⟨g0, rfl, hg, hel⟩ := C.el (by omega)
            have e2 := hel pre.length hlt
            have e1 := HAT.out pre.length hlt
            obtain ⟨hk1, hk4⟩ := HW3.out (by omega)
            have HL2 := Lib.hid hel
            have HCC2 := Lib.hid C
            clear hH hel C hkp hkr
            have k1 : ¬ (done.length : Int) ≤ (pre.length : Int) := by omega
            have hz1 := HCC2.out.z
            generalize hz : (done[pre.length]'hlt).1 = z1 at *
            generalize hzz : (done[pre.length]'hlt).2 = z2 at *
            have hz0 : 0 ≤ (pre.length : Int) * k := Int.mul_nonneg (by omega) (by omega)
            have hz4 : (pre.length : Int) * k ≤ (pre.length : Int) * 4 := Int.mul_le_mul_of_nonneg_left hk4 (by omega)
            have hpl : (pre.length : Int) ≤ 101 := by omega
            have hwm : IntKind.i64.wrap ((pre.length : Int) * k) = z1 := by rw [IntKind.wrap_i64, e1]; omega
            by_cases hx1 : x.1 = z1
            · by_cases hx2 : x.2 = z2
              · gi_wp2
                exact ⟨(KeepsOthers.setCell _ _ _).from _, HKP.out _ _ (by omega), by simpa using HN2.out.set⟩
              · have hne : ¬ x = done[pre.length]'hlt := fun e => hx2 (by rw [e]; exact hzz)
                gi_wp2
                exact ⟨(KeepsOthers.setCell _ _ _).from _, HKR.out _ _ (by omega), ⟨rfl, not_pre3 hlt hne⟩⟩
            · have hne : ¬ x = done[pre.length]'hlt := fun e => hx1 (by rw [e]; exact hz)
              gi_wp2
              exact ⟨(KeepsOthers.setCell _ _ _).from _, HKR.out _ _ (by omega), ⟨rfl, not_pre3 hlt hne⟩⟩
          · have k1 : (done.length : Int) ≤ (pre.length : Int) := by omega
            have HCC2 := Lib.hid C
            clear hH C hkp hkr
            gi_wp2
            exact ⟨(KeepsOthers.setCell _ _ _).from _, HKR.out _ _ (by omega), .inl ⟨rfl, long_pre3 hlt⟩⟩
        case after2 =>
          rintro D2 xs2 W2 hD2 (⟨rfl, hH⟩ | ⟨_, hH⟩) hK
          · have C := HC2.out.mono (hH.2.mono (by omega))
            have c_n := hH.1.cell 0
            have c_w := C.wn.cell 0
            have c_t := (HT2.out.below hH.2 (by omega)).cell 0
            have c_m := C.m.cell 0
            simp only [List.getElem?_toArray, List.getElem?_cons_zero] at c_n c_w c_t c_m
            have HN2 := Lib.hid hH
            have HCC2 := Lib.hid C
            have HDa := Lib.hid ((hH.2.block D (by omega)).trans HD2.out)
            have HDb := Lib.hid hK
            clear hH C hK
            have hDlt2 : D2 < W2.heap.size := (Array.getElem?_eq_some_iff.1 HDb.out).1
            have hszW2 : W.heap.size < W2.heap.size := by have := HN2.out.2.size; omega
            have hct3 : (W2.alloc (.cells #[.int .i64 2] 3)).cell? ⟨W2.heap.size, 0, none⟩ = some (.int .i64 2) := by simp
            gi_wp2_with fail
            rw [roundsIn_succ]
            gi_wp2_with fail
            have hwa : Below W2.heap.size W2 (W2.alloc (.cells #[.int .i64 2] 3)) := (Below.refl _ _).alloc (Nat.le_refl _) _
            have HC3 := Lib.hid (HCC2.out.mono (hwa.mono (by omega)))
            refine ⟨trivial, ?_⟩
            refine (callsIn_wide.2 (works3_any _ (HF.out.below (HBW2.out.trans (HC3.out.b2.mono HBW2.out.size))))).mono ?_
            rintro e w4 ⟨rfl, hb⟩
            have hb2 : Below W2.heap.size W2 w4 := hwa.trans (hb.mono (by simp))
            have HC4 := Lib.hid (HCC2.out.mono (hb2.mono (by omega)))
            have c_r := HC4.out.r.cell 0
            have hf_r := HC4.out.r.frozen 0
            simp only [List.getElem?_toArray, List.getElem?_cons_zero] at c_r
            have HD4 := Lib.hid ((hb2.block D2 hDlt2).trans HDb.out)
            have HD5 := Lib.hid ((hb2.block D (by omega)).trans HDa.out)
            clear hb hb2 hwa hct3
            gi_wp2_with fail
            have hz4 := HC4.out.z
            have hr4 : Blk (w4.setCell ⟨w.heap.size + 2, 0, none⟩ (.bool true)) (w.heap.size + 2) 4 #[.bool true] := by
              have := HC4.out.r.set_ 0 (.bool true)
              simpa using this
            have hb4 : Below w.heap.size w (w4.setCell ⟨w.heap.size + 2, 0, none⟩ (.bool true)) := (HBW2.out.trans (HC4.out.b2.mono HBW2.out.size)).setCell (p := ⟨w.heap.size + 2, 0, none⟩) (by simp) _
            have hk4 := (Below.heap_setCell w4 ⟨w.heap.size + 2, 0, none⟩ (.bool true) D2 (by simp only; omega)).trans HD4.out
            have hk5 := (Below.heap_setCell w4 ⟨w.heap.size + 2, 0, none⟩ (.bool true) D (by simp only; omega)).trans HD5.out
            generalize (w4.setCell ⟨w.heap.size + 2, 0, none⟩ (.bool true)) = w5 at *
            refine ⟨by simp, .inl ⟨_, _, rfl, run_takeDeferred hk4, ?_⟩⟩
            have hg1 := grownBy_putObj' w5 D2 (.deferred none)
            have hk6 := (hg1.block D (Array.getElem?_eq_some_iff.1 hk5).1 (by simp; omega)).trans hk5
            refine ⟨by simp, .inl ⟨_, _, rfl, run_takeDeferred hk6, ?_⟩⟩
            have hg2 := grownBy_putObj' (w5.putObj D2 (.deferred none)) D (.deferred none)
            have hr6 := (hr4.grown hg1 (by simp; omega)).grown hg2 (by simp; omega)
            have hb6 : Below w.heap.size w ((w5.putObj D2 (.deferred none)).putObj D (.deferred none)) := (hb4.grown hg1 hb4.size (fun k e => by cases e; omega)).grown hg2 (by have := hg1.size; have := hb4.size; omega) (fun k e => by cases e; omega)
            have c_r6 := hr6.cell 0
            simp only [List.getElem?_toArray, List.getElem?_cons_zero] at c_r6
            refine ⟨.bool true, ?_, rfl, hb6⟩
            simp [results, Tryd.f6, go_sem, c_r6]
          · exact absurd hH (by decide)

set_option maxRecDepth 100000 in
set_option maxHeartbeats 1600000 in
theorem law03_each (k many : Int) (p : Option Addr) (c : Nat) (xs : List Int) (b1 : IsBytes xs) (k63 : k < 9223372036854775808) (w : World) (x1 : ByS w p xs) (hF : Fit3 w) :
    Calls Tryd.prog 6 #[.slice p xs.length c, .int .i64 k, .int .i64 many] w fun e w' => e = .returned (.bool true) ∧ Below w.heap.size w w' := by
  by_cases hs : xs.length ≤ 100
  · exact callsIn_wide.1 (law03_each_small k many p c xs b1 hs k63 w x1 hF)
  · have hbig : 100 < (xs.length : Int) := by omega
    have HF := Lib.hid hF
    clear hF x1 b1
    go_enter Tryd.func6, Tryd.ntmps6
    go_wp2_with fail
    have hba : Below w.heap.size w (((w.alloc (.cells #[.int .i64 k] 3)).alloc (.cells #[.int .i64 many] 3)).alloc (.cells #[.bool false] 4)) := (((Below.refl _ _).alloc (Nat.le_refl _) _).alloc (by simp) _).alloc (by simp; omega) _
    refine (works3_any _ (HF.out.below hba)).mono ?_
    rintro e w4 ⟨rfl, hb⟩
    have hb4 : Below w.heap.size w w4 := hba.trans (hb.mono hba.size)
    have br : Blk w4 (w.heap.size + 2) 4 #[.bool false] := by
      have := (Blk.new ((w.alloc (.cells #[.int .i64 k] 3)).alloc (.cells #[.int .i64 many] 3)) 4 #[.bool false]).below hb (by simp)
      simpa using this
    have c_r := br.cell 0
    have hf_r := br.frozen 0
    simp only [List.getElem?_toArray, List.getElem?_cons_zero] at c_r
    have c_r2 := (br.set_ 0 (.bool true)).cell 0
    have HB4 := Lib.hid hb4
    clear hba hb hb4 br
    go_wp2
    simp at c_r2
    refine ⟨rfl, .bool true, ?_, rfl, HB4.out.setCell (p := ⟨w.heap.size + 2, 0, none⟩) (by simp) _⟩
    simp [results, Tryd.f6, go_sem, c_r2]
end Go.Proofs.YthpmfeijnphdbaaDoor
