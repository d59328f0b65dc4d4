/- Contract of layer 3's Each: the numbers that stand one behind the other. -/
import Derived.Test.YthpmfeijnphdbaaDoorE3
import Derived.Test.YthpmfeijnphdbaaDoorG0
namespace Go.Proofs.YthpmfeijnphdbaaDoor
open Go Go.RowKit Go.Shelf Go.Sort
attribute [local go_sem] Oper.semAt_some

theorem yield_wide {a : Nat} {P : Program} {l : Nat} {args : Array Value} {W : World} {R : Ending → World → Prop} (h : YieldAt Fence.wide a P l args W R) (b l2 : Nat) : YieldAt (Fence.wide.inRound l2) b P l args W R := by
  obtain ⟨fn, tmps, assign, body, hy, hF, hc⟩ := h
  exact ⟨fn, tmps, assign, body, hy, hF, fun c cs _ => hc c cs (fun d hd => by cases hd)⟩

theorem below_drewE (w : World) : Below w.heap.size w w.drew := ⟨rfl, rfl, rfl, Nat.le_refl _, fun _ _ => rfl⟩
/-- The number of a piece, with its place. -/
def tellP (xs : List Int) (x : Nat × Nat) : Int × Int := (x.1, valB ((xs.drop x.1).take x.2))
/-- What Each tells: the pieces that are whole. -/
def numsF (k : Nat) (xs : List Int) : List (Int × Int) := ((pcs k xs.length (xs.length + 1) 0).takeWhile (fun x => x.2 == k)).map (tellP xs)

theorem pcs_mem {k n : Nat} (hk : 1 ≤ k) : ∀ (f at_ : Nat) (x : Nat × Nat), x ∈ pcs k n f at_ → x.1 < n ∧ x.1 + x.2 ≤ n ∧ 1 ≤ x.2 ∧ x.2 ≤ k
  | 0, _, _, h => by simp [pcs] at h
  | f + 1, at_, x, h => by
    unfold pcs at h
    split at h
    · rcases List.mem_cons.1 h with rfl | h
      · simp; omega
      · exact pcs_mem hk f _ x h
    · cases h

theorem takeWhile_all {α : Type} (p : α → Bool) : ∀ l : List α, (∀ x ∈ l, p x = true) → l.takeWhile p = l
  | [], _ => rfl
  | a :: l, h => by rw [List.takeWhile_cons, if_pos (h a (by simp)), takeWhile_all p l (fun x hx => h x (by simp [hx]))]
theorem takeWhile_stop {α : Type} (p : α → Bool) : ∀ (l : List α) (x : α) (r : List α), (∀ y ∈ l, p y = true) → p x = false → (l ++ x :: r).takeWhile p = l
  | [], x, r, _, hx => by simp [hx]
  | a :: l, x, r, h, hx => by rw [List.cons_append, List.takeWhile_cons, if_pos (h a (by simp)), takeWhile_stop p l x r (fun y hy => h y (by simp [hy])) hx]
theorem takeWhile_pre {α : Type} (p : α → Bool) : ∀ (l r : List α), (∀ y ∈ l, p y = true) → l <+: (l ++ r).takeWhile p
  | [], r, _ => List.nil_prefix
  | a :: l, r, h => by
    rw [List.cons_append, List.takeWhile_cons, if_pos (h a (by simp))]
    exact (List.cons_prefix_cons).2 ⟨rfl, takeWhile_pre p l r (fun y hy => h y (by simp [hy]))⟩

theorem nums_done {α : Type} {β : Type} (K : Nat) (f : Nat × Nat → β) (v : α → Nat × Nat) (q : List α) (P : List (Nat × Nat)) (h : q.map v = P) (hq : ∀ z ∈ q, (v z).2 = K) : (q.map fun z => f (v z)) = (P.takeWhile (fun x => x.2 == K)).map f := by
  subst h
  rw [takeWhile_all _ _ (fun y hy => by obtain ⟨z, hz, rfl⟩ := List.mem_map.1 hy; simp [hq z hz]), List.map_map]
  rfl
theorem nums_stop {α : Type} {β : Type} (K : Nat) (f : Nat × Nat → β) (v : α → Nat × Nat) (q : List α) (x : α) (P : List (Nat × Nat)) (h : (q ++ [x]).map v <+: P) (hq : ∀ z ∈ q, (v z).2 = K) (hx : (v x).2 ≠ K) : (q.map fun z => f (v z)) = (P.takeWhile (fun x => x.2 == K)).map f := by
  obtain ⟨r, rfl⟩ := h
  rw [List.map_append, List.map_singleton, List.append_assoc, List.singleton_append, takeWhile_stop _ _ _ _ (fun y hy => by obtain ⟨z, hz, rfl⟩ := List.mem_map.1 hy; simp [hq z hz]) (by simpa using hx), List.map_map]
  rfl
theorem nums_left {α : Type} {β : Type} (K : Nat) (f : Nat × Nat → β) (v : α → Nat × Nat) (q : List α) (P : List (Nat × Nat)) (h : q.map v <+: P) (hq : ∀ z ∈ q, (v z).2 = K) : (q.map fun z => f (v z)) <+: (P.takeWhile (fun x => x.2 == K)).map f := by
  obtain ⟨r, rfl⟩ := h
  have h2 := (takeWhile_pre (fun y : Nat × Nat => y.2 == K) (q.map v) r (fun y hy => by obtain ⟨z, hz, rfl⟩ := List.mem_map.1 hy; simp [hq z hz])).map f
  rw [List.map_map] at h2
  exact h2

/-- How a round leaves: at a piece that is not whole, or as the caller wants no more. -/
def EachX (K : Nat) (xs : List Int) (J Jx : List (Int × Int) → World → Prop) (q : List (Pc K xs.length)) (W : World) : Prop := ∃ (pre : List (Pc K xs.length)) (x : Pc K xs.length), q = pre ++ [x] ∧ (∀ y ∈ pre, y.1.2 = K) ∧ ((x.1.2 ≠ K ∧ J (pre.map fun y => tellP xs y.1) W) ∨ (x.1.2 = K ∧ Jx ((pre ++ [x]).map fun y => tellP xs y.1) W))

/-- The blocks of K are as they were. -/
def AsIn (K : Nat → Prop) (W2 W : World) : Prop := W2.heap.size ≤ W.heap.size ∧ ∀ k, k < W2.heap.size → K k → W.heap[k]? = W2.heap[k]?
theorem AsIn.cell {K : Nat → Prop} {W2 W : World} (h : AsIn K W2 W) {b i : Nat} {v : Value} (hb : K b) (hc : W2.cell? ⟨b, i, none⟩ = some v) : W.cell? ⟨b, i, none⟩ = some v := by
  have hl := World.block_lt_of_cell? _ _ hc
  simp only [World.cell?, h.2 b hl hb] at hc ⊢
  exact hc
theorem AsIn.kept {K : Nat → Prop} {E : Nat} {W2 A B : World} (h : AsIn K W2 A) (k : Kept2 K E A B) : AsIn K W2 B :=
  ⟨Nat.le_trans h.1 k.size, fun i hl hi => (k.block i (Nat.lt_of_lt_of_le hl h.1) (.inl hi)).trans (h.2 i hl hi)⟩
theorem AsIn.byS {K : Nat → Prop} {W2 W : World} (h : AsIn K W2 W) {g : Nat} {xs : List Int} (hb : K g) (hx : ByS W2 (some ⟨g, 0, none⟩) xs) : ByS W (some ⟨g, 0, none⟩) xs := fun hn => by
  obtain ⟨b, o, e, hl, hc⟩ := hx hn
  cases e
  exact ⟨g, 0, rfl, Nat.lt_of_lt_of_le hl h.1, fun i hi => h.cell hb (hc i hi)⟩
theorem asIn_own {β : Type} {M : Obj → Bool} {K : Nat → Prop} {W2 : World} : OwnM M W2.heap.size (fun (_ : β) W => AsIn K W2 W) := fun _ A B hs ⟨row, hg, hr⟩ =>
  ⟨Nat.le_trans hs.1 hg.size, fun k hl hk => (hg.block k (Nat.lt_of_lt_of_le hl hs.1) (fun e => by have := (hr k e.symm).1; omega)).trans (hs.2 k hl hk)⟩

set_option maxRecDepth 100000 in
set_option maxHeartbeats 3200000 in
theorem each3_in (n : Nat) (hn : 6 ≤ n) (l Bw Bo g cap : Nat) (K₀ : Nat → Prop) (k : Int) (xs : List Int) (hb : IsBytes xs) (hN : xs.length ≤ 1000000) (hcap : xs.length ≤ cap) (q : Option Addr) (hq : 0 < xs.length → q = some ⟨g, 0, none⟩) (J Jx : List (Int × Int) → World → Prop)
    (W : World) (hJ : AbidesM (fun _ => true) W.heap.size J) (hJx : AbidesM (fun _ => true) W.heap.size Jx)
    (hY : ∀ pre x W', J pre W' → pre.length < (pcs k.toNat xs.length (xs.length + 1) 0).length → YieldAt Fence.wide (n - 1) Tryd.prog l #[.int .i64 x.1, .int .u32 x.2] W' fun e W'' =>
      Kept2 K₀ W.heap.size W' W'' ∧ ((e = .returned (.bool true) ∧ J (pre ++ [x]) W'') ∨ (e = .returned (.bool false) ∧ Jx (pre ++ [x]) W'')))
    (hlt : ∀ i, K₀ i → i < W.heap.size) (hw : K₀ Bw) (hgb : K₀ g) (cw : W.cell? ⟨Bw, 0, none⟩ = some (.int .i64 k)) (co : W.cell? ⟨Bo, 0, none⟩ = some (.slice q xs.length cap)) (hx : ByS W (some ⟨g, 0, none⟩) xs) (hf : Fit3 W) (h0 : J [] W) :
    CallsIn Fence.wide n Tryd.prog 28 #[.func (.yield l) #[] #[], .pointer (some ⟨Bw, 0, none⟩), .pointer (some ⟨Bo, 0, none⟩)] W fun e W' => (∃ v, e = .returned v) ∧
      ((∃ ys, ys = (if W3 k then numsF k.toNat xs else []) ∧ J ys W') ∨ (∃ pre, pre <+: (if W3 k then numsF k.toNat xs else []) ∧ Jx pre W')) := by
  generalize hT : (if W3 k then numsF k.toNat xs else []) = T at *
  have hn1 : 1 ≤ n := by omega
  have hn3 : 1 ≤ n - 1 - 1 := by omega
  have hb1 : Below W.heap.size W (W.alloc (.cells #[.func (.yield l) #[] #[]] 65)) := (Below.refl _ _).alloc (Nat.le_refl _) _
  have cy : Blk (W.alloc (.cells #[.func (.yield l) #[] #[]] 65)) W.heap.size 65 #[.func (.yield l) #[] #[]] := Blk.new _ _ _
  have hs1 : (W.alloc (.cells #[.func (.yield l) #[] #[]] 65)).heap.size = W.heap.size + 1 := by simp
  have hJ1 : J [] (W.alloc (.cells #[.func (.yield l) #[] #[]] 65)) := hJ [] W _ h0 (.calls hb1)
  have HY := Lib.hid hY
  have HAJ := Lib.hid hJ
  have HAX := Lib.hid hJx
  have HB := Lib.hid hb
  clear hY hJ hJx hb
  by_cases hk : W3 k
  · rw [if_pos hk] at hT
    have HT := Lib.hid hT
    clear hT
    refine callsIn_of_wp_marks Tryd.func28 rfl trivial ?_ rfl
    simp only [Tryd.ntmps28, List.size_toArray, List.length_cons, List.length_nil, Nat.reduceAdd, Nat.reduceSub, Array.replicate_succ, Array.replicate_zero, List.push_toArray, List.append_toArray, List.nil_append, List.cons_append]
    gi_wp2_with fail
    generalize hW1 : W.alloc (.cells #[.func (.yield l) #[] #[]] 65) = W1 at *
    replace cw := (hb1.cell (p := ⟨Bw, 0, none⟩) (World.block_lt_of_cell? _ _ cw)).trans cw
    replace co := (hb1.cell (p := ⟨Bo, 0, none⟩) (World.block_lt_of_cell? _ _ co)).trans co
    replace hx := hx.below hb1
    replace hf := hf.below hb1
    generalize hB : W.heap.size = B at *
    have hWi := isWidth_any k W1 hf
    rw [decide_eq_true hk] at hWi
    have HW3 := Lib.hid hWi
    have HX := Lib.hid hx
    have HJ1 := Lib.hid hJ1
    have HCY := Lib.hid cy
    clear hx hf h0 hJ1 hb1 hW1 hB cy hWi
    refine wpInWide_scope ?_
    gi_wp2_with fail
    refine ⟨trivial, ?_⟩
    refine (callsIn_wide.2 HW3.out).mono ?_
    rintro e w' ⟨rfl, rfl⟩
    gi_wp2_with fail
    refine wpIn_label ?_
    gi_wp2_with fail
    refine ⟨trivial, ?_⟩
    refine (callsIn_wide.2 (pieces_any q xs.length cap k W1)).mono ?_
    rintro e w2 ⟨rfl, hw2⟩
    obtain ⟨K, hKk, hK14⟩ := hk.nat
    subst hKk
    simp only [Int.toNat_natCast] at HT HY
    have hb2 : Below W1.heap.size W1 w2 := by rw [hw2]; exact ((Below.refl _ _).alloc (Nat.le_refl _) _).alloc (by simp) _
    have hs2 : w2.heap.size = W1.heap.size + 2 := by rw [hw2]; simp
    have c2o : w2.cell? ⟨W1.heap.size, 0, none⟩ = some (.slice q xs.length cap) := by
      rw [hw2]; exact (((Blk.new W1 59 #[.slice q xs.length cap]).alloc _).cell 0)
    have c2k : w2.cell? ⟨W1.heap.size + 1, 0, none⟩ = some (.int .i64 K) := by
      rw [hw2]
      simp
    have cw2 := (hb2.cell (p := ⟨Bw, 0, none⟩) (World.block_lt_of_cell? _ _ cw)).trans cw
    have hx2 := HX.out.below hb2
    have hJ2 := HAJ.out [] W1 w2 HJ1.out (.calls hb2)
    have hy2 := HCY.out.below hb2 (by omega)
    have HX2 := Lib.hid hx2
    have HJ2 := Lib.hid hJ2
    have HY2 := Lib.hid hy2
    have hb2s := hb2.size
    rw [hs1] at c2o c2k hs2 hb2s
    clear hw2 hx2 hJ2 hy2 HJ1 HCY HX HW3 cw co hb2
    gi_wp2_with fail
    have kB : ∀ i, B ≤ i → i < w2.heap.size → (K₀ i ∨ (B ≤ i ∧ i < w2.heap.size)) := fun i h1 h2 => .inr ⟨h1, h2⟩
    have hst := pieces_stops (n - 1) (by omega) (B + 1) (B + 1 + 1) g cap xs.length K (fun i => K₀ i ∨ (B ≤ i ∧ i < w2.heap.size)) (by omega) (by omega) hN hcap q hq (kB _ (by omega) (by omega)) (kB _ (by omega) (by omega)) w2 (by omega) (by omega) c2o c2k
    refine wpIn_rangeFunc_T1 (α := Pc K xs.length) (K₀ := fun i => K₀ i ∨ (B ≤ i ∧ i < w2.heap.size)) (S := fun ys => ys.map (·.1) = pcs K xs.length (xs.length + 1) 0) (Sp := fun pre => pre.map (·.1) <+: pcs K xs.length (xs.length + 1) 0) (N := (pcs K xs.length (xs.length + 1) 0).length) rfl hn1 (gf := 31) (lb := #[.pointer (some ⟨B + 1, 0, none⟩), .pointer (some ⟨B + 1 + 1, 0, none⟩)]) rfl trivial (enters_of Tryd.func31 (by kernel_rfl) rfl)
      hst (fun h => by rcases h with h | h; (have := hlt _ h; omega); omega) (Below.refl _ _) (fun _ => rfl)
      (fun pre W' => (∀ y ∈ pre, y.1.2 = K) ∧ J (pre.map fun y => tellP xs y.1) W' ∧ AsIn (fun i => K₀ i ∨ (B ≤ i ∧ i < w2.heap.size)) w2 W')
      (fun c pre' W' => c = .exit 0 ∧ EachX K xs J Jx pre' W')
      ?hI ?hIx ⟨fun y h => by simp at h, HJ2.out, Nat.le_refl _, fun _ _ _ => rfl⟩ ?a₁ ?assign ?body ?done ?stop
    case hI => exact fun pre A C hs ht => ⟨hs.1, HAJ.out _ A C hs.2.1 (Turns.mono ht (by omega)), asIn_own (β := Unit) () A C hs.2.2 ht⟩
    case hIx =>
      rintro c pre' A C ⟨hc, pre, x, e, hp, h⟩ ht
      exact ⟨hc, ⟨pre, x, e, hp, h.imp (fun h => ⟨h.1, HAJ.out _ A C h.2 (Turns.mono ht (by omega))⟩) (fun h => ⟨h.1, HAX.out _ A C h.2 (Turns.mono ht (by omega))⟩)⟩⟩
    case assign =>
      intro l2 x W' K' hK'
      gi_wp2
      exact hK'
    case body =>
      rintro l2 pre x W' ⟨hp, hj, ha⟩ hlen
      obtain ⟨m1, m2, m3, m4⟩ := pcs_mem (by omega) _ _ _ (show x.1 ∈ pcs K xs.length (xs.length + 1) 0 from x.2)
      have c_w := ha.cell (.inl hw) cw2
      have c_y := ha.cell (kB B (Nat.le_refl _) (by omega)) (show w2.cell? ⟨B, 0, none⟩ = some (.func (.yield l) #[] #[]) from by have := HY2.out.cell 0; simpa using this)
      by_cases hfull : x.1.2 = K
      · have hnl : ¬ (x.1.2 : Int) < (K : Int) := by omega
        gi_wp2_with fail
        have hnum := number_any (some ⟨g, x.1.1, none⟩) x.1.2 ((xs.drop x.1.1).take x.1.2) ((HB.out.drop _).take _) (by simp; omega) W'.drew (by
          have h := (ha.byS (.inl hgb) HX2.out).window x.1.1 x.1.2 m2
          simpa using (h.below (below_drewE W')))
        have hlen2 : ((xs.drop x.1.1).take x.1.2).length = x.1.2 := by simp; omega
        rw [hlen2, hfull] at hnum
        have HNUM := Lib.hid hnum
        have c_y2 : W'.drew.cell? ⟨B, 0, none⟩ = some (.func (.yield l) #[] #[]) := c_y
        have hJd := HAJ.out _ W' W'.drew hj (.calls (below_drewE W'))
        have hyy := yield_wide (HY.out (pre.map fun y => tellP xs y.1) (tellP xs x.1) W'.drew hJd (by simpa using hlen)) (n - 1 - 1 - 1) l2
        have HYY := Lib.hid hyy
        have htl : tellP xs x.1 = ((x.1.1 : Int), valB ((xs.drop x.1.1).take K)) := by unfold tellP; rw [hfull]
        have HTL := Lib.hid htl
        generalize valB ((xs.drop x.1.1).take K) = vv at *
        have hfin : ∀ W3, Kept2 K₀ B W'.drew W3 → KeepsFrom w2.heap.size W' W3 ∧ Kept2 (fun i => K₀ i ∨ (B ≤ i ∧ i < w2.heap.size)) (w2.heap.size + 2) W' W3 ∧ (∀ y ∈ pre ++ [x], y.1.2 = K) ∧ AsIn (fun i => K₀ i ∨ (B ≤ i ∧ i < w2.heap.size)) w2 W3 := fun W3 h3 => by
          have h4 : Kept2 K₀ B W' W3 := (Kept2.calls (below_drewE W')).trans h3
          have h5 := h4.sub (K₁ := fun i => K₀ i ∨ (B ≤ i ∧ i < w2.heap.size)) (E' := w2.heap.size + 2) (fun i hi => by rcases hi with (hi | hi) | hi; exact .inl hi; exact .inr hi.1; exact .inr (by omega))
          refine ⟨⟨h4.size, fun i o hi ho _ => (h4.block i (Array.getElem?_eq_some_iff.1 ho).1 (.inr (by omega))).trans ho⟩, h5, fun y hy => ?_, ha.kept h5⟩
          rcases List.mem_append.1 hy with hy | hy
          · exact hp y hy
          · rw [List.mem_singleton.1 hy]; exact hfull
        have FIN := Lib.hid hfin
        clear hnum hyy hlen2 hfin htl
        refine wpIn_region_any (by kernel_rfl) ?_
        change wpAnyIn _ _ _ _ _ _ _ _ _ W'.drew
        refine wpAnyIn_ready (rs := [0, 1, 2]) (by kernel_rfl) (by simp) ?_
        refine AllReadyIn.cons (by rw [List.getElem?_toArray]; exact rfl) (fun K0 hK0 => ?_) ?_
        · go_simp
          refine hK0 _ _ ?_
          refine wpAnyIn_ready (rs := [1, 2]) (by kernel_rfl) (by simp) ?_
          refine AllReadyIn.cons (by rw [List.getElem?_toArray]; exact rfl) (fun K1 hK1 => ?_) ?_
          · go_simp
            refine hK1 _ _ ?_
            refine wpAnyIn_ready (rs := [2]) (by kernel_rfl) (by simp) ?_
            refine AllReadyIn.cons (by rw [List.getElem?_toArray]; exact rfl) (fun K2 hK2 => ?_) AllReadyIn.nil
            go_simp
            refine hK2 _ _ ?_
            refine wpAnyIn_ready (rs := [3]) (by kernel_rfl) (by simp) ?_
            refine AllReadyIn.cons (by rw [List.getElem?_toArray]; exact rfl) (fun K3 hK3 => ?_) AllReadyIn.nil
            go_simp
            refine ⟨trivial, (CallsIn.inRound l2 (callsIn_wide.2 HNUM.out)).mono ?_⟩
            rintro e w' ⟨rfl, rfl⟩
            refine hK3 _ _ ?_
            obtain ⟨fn, tmps, assign, body, hy, hR⟩ := HYY.out
            have HR := Lib.hid hR
            clear hR
            rw [HTL.out] at hy
            dsimp only at hy
            refine wpAnyIn_ready (rs := [4]) (by kernel_rfl) (by simp) ?_
            refine AllReadyIn.cons (by rw [List.getElem?_toArray]; exact rfl) (fun K4 hK4 => ?_) AllReadyIn.nil
            go_simp
            refine HR.out.mono ?_
            rintro e W3 ⟨hk3, ⟨rfl, hJ3⟩ | ⟨rfl, hJ3⟩⟩
            · have hfin := FIN.out W3 hk3
              refine hK4 _ _ ?_
              refine wpAnyIn_ready (rs := [5]) (by kernel_rfl) (by simp) ?_
              refine AllReadyIn.cons (by rw [List.getElem?_toArray]; exact rfl) (fun K5 hK5 => ?_) AllReadyIn.nil
              go_simp
              refine hK5 _ _ ?_
              refine wpAnyIn_ready (rs := [6]) (by kernel_rfl) (by simp) ?_
              refine AllReadyIn.cons (by rw [List.getElem?_toArray]; exact rfl) (fun K6 hK6 => ?_) AllReadyIn.nil
              go_simp
              refine hK6 _ _ ?_
              refine wpAnyIn_done (by kernel_rfl) ?_ _
              gi_wp2
              exact ⟨hfin.1, hfin.2.1, hfin.2.2.1, by rw [List.map_append]; exact hJ3, hfin.2.2.2⟩
            · have hfin := FIN.out W3 hk3
              refine hK4 _ _ ?_
              refine wpAnyIn_ready (rs := [5]) (by kernel_rfl) (by simp) ?_
              refine AllReadyIn.cons (by rw [List.getElem?_toArray]; exact rfl) (fun K5 hK5 => ?_) AllReadyIn.nil
              go_simp
              refine hK5 _ _ ?_
              refine wpAnyIn_ready (rs := [6]) (by kernel_rfl) (by simp) ?_
              refine AllReadyIn.cons (by rw [List.getElem?_toArray]; exact rfl) (fun K6 hK6 => ?_) AllReadyIn.nil
              go_simp
              refine hK6 _ _ ?_
              refine wpAnyIn_done (by kernel_rfl) ?_ _
              gi_wp2
              exact ⟨hfin.1, hfin.2.1, rfl, ⟨pre, x, rfl, hp, .inr ⟨hfull, by rw [List.map_append]; exact hJ3⟩⟩⟩
          · skip
            refine AllReadyIn.cons (by rw [List.getElem?_toArray]; exact rfl) (fun K2 hK2 => ?_) AllReadyIn.nil
            go_simp
            refine hK2 _ _ ?_
            refine wpAnyIn_ready (rs := [1, 3]) (by kernel_rfl) (by simp) ?_
            refine AllReadyIn.cons (by rw [List.getElem?_toArray]; exact rfl) (fun K1 hK1 => ?_) ?_
            · go_simp
              refine hK1 _ _ ?_
              refine wpAnyIn_ready (rs := [3]) (by kernel_rfl) (by simp) ?_
              refine AllReadyIn.cons (by rw [List.getElem?_toArray]; exact rfl) (fun K3 hK3 => ?_) AllReadyIn.nil
              go_simp
              refine ⟨trivial, (CallsIn.inRound l2 (callsIn_wide.2 HNUM.out)).mono ?_⟩
              rintro e w' ⟨rfl, rfl⟩
              refine hK3 _ _ ?_
              obtain ⟨fn, tmps, assign, body, hy, hR⟩ := HYY.out
              have HR := Lib.hid hR
              clear hR
              rw [HTL.out] at hy
              dsimp only at hy
              refine wpAnyIn_ready (rs := [4]) (by kernel_rfl) (by simp) ?_
              refine AllReadyIn.cons (by rw [List.getElem?_toArray]; exact rfl) (fun K4 hK4 => ?_) AllReadyIn.nil
              go_simp
              refine HR.out.mono ?_
              rintro e W3 ⟨hk3, ⟨rfl, hJ3⟩ | ⟨rfl, hJ3⟩⟩
              · have hfin := FIN.out W3 hk3
                refine hK4 _ _ ?_
                refine wpAnyIn_ready (rs := [5]) (by kernel_rfl) (by simp) ?_
                refine AllReadyIn.cons (by rw [List.getElem?_toArray]; exact rfl) (fun K5 hK5 => ?_) AllReadyIn.nil
                go_simp
                refine hK5 _ _ ?_
                refine wpAnyIn_ready (rs := [6]) (by kernel_rfl) (by simp) ?_
                refine AllReadyIn.cons (by rw [List.getElem?_toArray]; exact rfl) (fun K6 hK6 => ?_) AllReadyIn.nil
                go_simp
                refine hK6 _ _ ?_
                refine wpAnyIn_done (by kernel_rfl) ?_ _
                gi_wp2
                exact ⟨hfin.1, hfin.2.1, hfin.2.2.1, by rw [List.map_append]; exact hJ3, hfin.2.2.2⟩
              · have hfin := FIN.out W3 hk3
                refine hK4 _ _ ?_
                refine wpAnyIn_ready (rs := [5]) (by kernel_rfl) (by simp) ?_
                refine AllReadyIn.cons (by rw [List.getElem?_toArray]; exact rfl) (fun K5 hK5 => ?_) AllReadyIn.nil
                go_simp
                refine hK5 _ _ ?_
                refine wpAnyIn_ready (rs := [6]) (by kernel_rfl) (by simp) ?_
                refine AllReadyIn.cons (by rw [List.getElem?_toArray]; exact rfl) (fun K6 hK6 => ?_) AllReadyIn.nil
                go_simp
                refine hK6 _ _ ?_
                refine wpAnyIn_done (by kernel_rfl) ?_ _
                gi_wp2
                exact ⟨hfin.1, hfin.2.1, rfl, ⟨pre, x, rfl, hp, .inr ⟨hfull, by rw [List.map_append]; exact hJ3⟩⟩⟩
            · skip
              refine AllReadyIn.cons (by rw [List.getElem?_toArray]; exact rfl) (fun K3 hK3 => ?_) AllReadyIn.nil
              go_simp
              refine ⟨trivial, (CallsIn.inRound l2 (callsIn_wide.2 HNUM.out)).mono ?_⟩
              rintro e w' ⟨rfl, rfl⟩
              refine hK3 _ _ ?_
              refine wpAnyIn_ready (rs := [1]) (by kernel_rfl) (by simp) ?_
              refine AllReadyIn.cons (by rw [List.getElem?_toArray]; exact rfl) (fun K1 hK1 => ?_) AllReadyIn.nil
              go_simp
              refine hK1 _ _ ?_
              obtain ⟨fn, tmps, assign, body, hy, hR⟩ := HYY.out
              have HR := Lib.hid hR
              clear hR
              rw [HTL.out] at hy
              dsimp only at hy
              refine wpAnyIn_ready (rs := [4]) (by kernel_rfl) (by simp) ?_
              refine AllReadyIn.cons (by rw [List.getElem?_toArray]; exact rfl) (fun K4 hK4 => ?_) AllReadyIn.nil
              go_simp
              refine HR.out.mono ?_
              rintro e W3 ⟨hk3, ⟨rfl, hJ3⟩ | ⟨rfl, hJ3⟩⟩
              · have hfin := FIN.out W3 hk3
                refine hK4 _ _ ?_
                refine wpAnyIn_ready (rs := [5]) (by kernel_rfl) (by simp) ?_
                refine AllReadyIn.cons (by rw [List.getElem?_toArray]; exact rfl) (fun K5 hK5 => ?_) AllReadyIn.nil
                go_simp
                refine hK5 _ _ ?_
                refine wpAnyIn_ready (rs := [6]) (by kernel_rfl) (by simp) ?_
                refine AllReadyIn.cons (by rw [List.getElem?_toArray]; exact rfl) (fun K6 hK6 => ?_) AllReadyIn.nil
                go_simp
                refine hK6 _ _ ?_
                refine wpAnyIn_done (by kernel_rfl) ?_ _
                gi_wp2
                exact ⟨hfin.1, hfin.2.1, hfin.2.2.1, by rw [List.map_append]; exact hJ3, hfin.2.2.2⟩
              · have hfin := FIN.out W3 hk3
                refine hK4 _ _ ?_
                refine wpAnyIn_ready (rs := [5]) (by kernel_rfl) (by simp) ?_
                refine AllReadyIn.cons (by rw [List.getElem?_toArray]; exact rfl) (fun K5 hK5 => ?_) AllReadyIn.nil
                go_simp
                refine hK5 _ _ ?_
                refine wpAnyIn_ready (rs := [6]) (by kernel_rfl) (by simp) ?_
                refine AllReadyIn.cons (by rw [List.getElem?_toArray]; exact rfl) (fun K6 hK6 => ?_) AllReadyIn.nil
                go_simp
                refine hK6 _ _ ?_
                refine wpAnyIn_done (by kernel_rfl) ?_ _
                gi_wp2
                exact ⟨hfin.1, hfin.2.1, rfl, ⟨pre, x, rfl, hp, .inr ⟨hfull, by rw [List.map_append]; exact hJ3⟩⟩⟩
        · skip
          refine AllReadyIn.cons (by rw [List.getElem?_toArray]; exact rfl) (fun K1 hK1 => ?_) ?_
          · go_simp
            refine hK1 _ _ ?_
            refine wpAnyIn_ready (rs := [0, 2]) (by kernel_rfl) (by simp) ?_
            refine AllReadyIn.cons (by rw [List.getElem?_toArray]; exact rfl) (fun K0 hK0 => ?_) ?_
            · go_simp
              refine hK0 _ _ ?_
              refine wpAnyIn_ready (rs := [2]) (by kernel_rfl) (by simp) ?_
              refine AllReadyIn.cons (by rw [List.getElem?_toArray]; exact rfl) (fun K2 hK2 => ?_) AllReadyIn.nil
              go_simp
              refine hK2 _ _ ?_
              refine wpAnyIn_ready (rs := [3]) (by kernel_rfl) (by simp) ?_
              refine AllReadyIn.cons (by rw [List.getElem?_toArray]; exact rfl) (fun K3 hK3 => ?_) AllReadyIn.nil
              go_simp
              refine ⟨trivial, (CallsIn.inRound l2 (callsIn_wide.2 HNUM.out)).mono ?_⟩
              rintro e w' ⟨rfl, rfl⟩
              refine hK3 _ _ ?_
              obtain ⟨fn, tmps, assign, body, hy, hR⟩ := HYY.out
              have HR := Lib.hid hR
              clear hR
              rw [HTL.out] at hy
              dsimp only at hy
              refine wpAnyIn_ready (rs := [4]) (by kernel_rfl) (by simp) ?_
              refine AllReadyIn.cons (by rw [List.getElem?_toArray]; exact rfl) (fun K4 hK4 => ?_) AllReadyIn.nil
              go_simp
              refine HR.out.mono ?_
              rintro e W3 ⟨hk3, ⟨rfl, hJ3⟩ | ⟨rfl, hJ3⟩⟩
              · have hfin := FIN.out W3 hk3
                refine hK4 _ _ ?_
                refine wpAnyIn_ready (rs := [5]) (by kernel_rfl) (by simp) ?_
                refine AllReadyIn.cons (by rw [List.getElem?_toArray]; exact rfl) (fun K5 hK5 => ?_) AllReadyIn.nil
                go_simp
                refine hK5 _ _ ?_
                refine wpAnyIn_ready (rs := [6]) (by kernel_rfl) (by simp) ?_
                refine AllReadyIn.cons (by rw [List.getElem?_toArray]; exact rfl) (fun K6 hK6 => ?_) AllReadyIn.nil
                go_simp
                refine hK6 _ _ ?_
                refine wpAnyIn_done (by kernel_rfl) ?_ _
                gi_wp2
                exact ⟨hfin.1, hfin.2.1, hfin.2.2.1, by rw [List.map_append]; exact hJ3, hfin.2.2.2⟩
              · have hfin := FIN.out W3 hk3
                refine hK4 _ _ ?_
                refine wpAnyIn_ready (rs := [5]) (by kernel_rfl) (by simp) ?_
                refine AllReadyIn.cons (by rw [List.getElem?_toArray]; exact rfl) (fun K5 hK5 => ?_) AllReadyIn.nil
                go_simp
                refine hK5 _ _ ?_
                refine wpAnyIn_ready (rs := [6]) (by kernel_rfl) (by simp) ?_
                refine AllReadyIn.cons (by rw [List.getElem?_toArray]; exact rfl) (fun K6 hK6 => ?_) AllReadyIn.nil
                go_simp
                refine hK6 _ _ ?_
                refine wpAnyIn_done (by kernel_rfl) ?_ _
                gi_wp2
                exact ⟨hfin.1, hfin.2.1, rfl, ⟨pre, x, rfl, hp, .inr ⟨hfull, by rw [List.map_append]; exact hJ3⟩⟩⟩
            · skip
              refine AllReadyIn.cons (by rw [List.getElem?_toArray]; exact rfl) (fun K2 hK2 => ?_) AllReadyIn.nil
              go_simp
              refine hK2 _ _ ?_
              refine wpAnyIn_ready (rs := [0, 3]) (by kernel_rfl) (by simp) ?_
              refine AllReadyIn.cons (by rw [List.getElem?_toArray]; exact rfl) (fun K0 hK0 => ?_) ?_
              · go_simp
                refine hK0 _ _ ?_
                refine wpAnyIn_ready (rs := [3]) (by kernel_rfl) (by simp) ?_
                refine AllReadyIn.cons (by rw [List.getElem?_toArray]; exact rfl) (fun K3 hK3 => ?_) AllReadyIn.nil
                go_simp
                refine ⟨trivial, (CallsIn.inRound l2 (callsIn_wide.2 HNUM.out)).mono ?_⟩
                rintro e w' ⟨rfl, rfl⟩
                refine hK3 _ _ ?_
                obtain ⟨fn, tmps, assign, body, hy, hR⟩ := HYY.out
                have HR := Lib.hid hR
                clear hR
                rw [HTL.out] at hy
                dsimp only at hy
                refine wpAnyIn_ready (rs := [4]) (by kernel_rfl) (by simp) ?_
                refine AllReadyIn.cons (by rw [List.getElem?_toArray]; exact rfl) (fun K4 hK4 => ?_) AllReadyIn.nil
                go_simp
                refine HR.out.mono ?_
                rintro e W3 ⟨hk3, ⟨rfl, hJ3⟩ | ⟨rfl, hJ3⟩⟩
                · have hfin := FIN.out W3 hk3
                  refine hK4 _ _ ?_
                  refine wpAnyIn_ready (rs := [5]) (by kernel_rfl) (by simp) ?_
                  refine AllReadyIn.cons (by rw [List.getElem?_toArray]; exact rfl) (fun K5 hK5 => ?_) AllReadyIn.nil
                  go_simp
                  refine hK5 _ _ ?_
                  refine wpAnyIn_ready (rs := [6]) (by kernel_rfl) (by simp) ?_
                  refine AllReadyIn.cons (by rw [List.getElem?_toArray]; exact rfl) (fun K6 hK6 => ?_) AllReadyIn.nil
                  go_simp
                  refine hK6 _ _ ?_
                  refine wpAnyIn_done (by kernel_rfl) ?_ _
                  gi_wp2
                  exact ⟨hfin.1, hfin.2.1, hfin.2.2.1, by rw [List.map_append]; exact hJ3, hfin.2.2.2⟩
                · have hfin := FIN.out W3 hk3
                  refine hK4 _ _ ?_
                  refine wpAnyIn_ready (rs := [5]) (by kernel_rfl) (by simp) ?_
                  refine AllReadyIn.cons (by rw [List.getElem?_toArray]; exact rfl) (fun K5 hK5 => ?_) AllReadyIn.nil
                  go_simp
                  refine hK5 _ _ ?_
                  refine wpAnyIn_ready (rs := [6]) (by kernel_rfl) (by simp) ?_
                  refine AllReadyIn.cons (by rw [List.getElem?_toArray]; exact rfl) (fun K6 hK6 => ?_) AllReadyIn.nil
                  go_simp
                  refine hK6 _ _ ?_
                  refine wpAnyIn_done (by kernel_rfl) ?_ _
                  gi_wp2
                  exact ⟨hfin.1, hfin.2.1, rfl, ⟨pre, x, rfl, hp, .inr ⟨hfull, by rw [List.map_append]; exact hJ3⟩⟩⟩
              · skip
                refine AllReadyIn.cons (by rw [List.getElem?_toArray]; exact rfl) (fun K3 hK3 => ?_) AllReadyIn.nil
                go_simp
                refine ⟨trivial, (CallsIn.inRound l2 (callsIn_wide.2 HNUM.out)).mono ?_⟩
                rintro e w' ⟨rfl, rfl⟩
                refine hK3 _ _ ?_
                refine wpAnyIn_ready (rs := [0]) (by kernel_rfl) (by simp) ?_
                refine AllReadyIn.cons (by rw [List.getElem?_toArray]; exact rfl) (fun K0 hK0 => ?_) AllReadyIn.nil
                go_simp
                refine hK0 _ _ ?_
                obtain ⟨fn, tmps, assign, body, hy, hR⟩ := HYY.out
                have HR := Lib.hid hR
                clear hR
                rw [HTL.out] at hy
                dsimp only at hy
                refine wpAnyIn_ready (rs := [4]) (by kernel_rfl) (by simp) ?_
                refine AllReadyIn.cons (by rw [List.getElem?_toArray]; exact rfl) (fun K4 hK4 => ?_) AllReadyIn.nil
                go_simp
                refine HR.out.mono ?_
                rintro e W3 ⟨hk3, ⟨rfl, hJ3⟩ | ⟨rfl, hJ3⟩⟩
                · have hfin := FIN.out W3 hk3
                  refine hK4 _ _ ?_
                  refine wpAnyIn_ready (rs := [5]) (by kernel_rfl) (by simp) ?_
                  refine AllReadyIn.cons (by rw [List.getElem?_toArray]; exact rfl) (fun K5 hK5 => ?_) AllReadyIn.nil
                  go_simp
                  refine hK5 _ _ ?_
                  refine wpAnyIn_ready (rs := [6]) (by kernel_rfl) (by simp) ?_
                  refine AllReadyIn.cons (by rw [List.getElem?_toArray]; exact rfl) (fun K6 hK6 => ?_) AllReadyIn.nil
                  go_simp
                  refine hK6 _ _ ?_
                  refine wpAnyIn_done (by kernel_rfl) ?_ _
                  gi_wp2
                  exact ⟨hfin.1, hfin.2.1, hfin.2.2.1, by rw [List.map_append]; exact hJ3, hfin.2.2.2⟩
                · have hfin := FIN.out W3 hk3
                  refine hK4 _ _ ?_
                  refine wpAnyIn_ready (rs := [5]) (by kernel_rfl) (by simp) ?_
                  refine AllReadyIn.cons (by rw [List.getElem?_toArray]; exact rfl) (fun K5 hK5 => ?_) AllReadyIn.nil
                  go_simp
                  refine hK5 _ _ ?_
                  refine wpAnyIn_ready (rs := [6]) (by kernel_rfl) (by simp) ?_
                  refine AllReadyIn.cons (by rw [List.getElem?_toArray]; exact rfl) (fun K6 hK6 => ?_) AllReadyIn.nil
                  go_simp
                  refine hK6 _ _ ?_
                  refine wpAnyIn_done (by kernel_rfl) ?_ _
                  gi_wp2
                  exact ⟨hfin.1, hfin.2.1, rfl, ⟨pre, x, rfl, hp, .inr ⟨hfull, by rw [List.map_append]; exact hJ3⟩⟩⟩
          · skip
            refine AllReadyIn.cons (by rw [List.getElem?_toArray]; exact rfl) (fun K2 hK2 => ?_) AllReadyIn.nil
            go_simp
            refine hK2 _ _ ?_
            refine wpAnyIn_ready (rs := [0, 1, 3]) (by kernel_rfl) (by simp) ?_
            refine AllReadyIn.cons (by rw [List.getElem?_toArray]; exact rfl) (fun K0 hK0 => ?_) ?_
            · go_simp
              refine hK0 _ _ ?_
              refine wpAnyIn_ready (rs := [1, 3]) (by kernel_rfl) (by simp) ?_
              refine AllReadyIn.cons (by rw [List.getElem?_toArray]; exact rfl) (fun K1 hK1 => ?_) ?_
              · go_simp
                refine hK1 _ _ ?_
                refine wpAnyIn_ready (rs := [3]) (by kernel_rfl) (by simp) ?_
                refine AllReadyIn.cons (by rw [List.getElem?_toArray]; exact rfl) (fun K3 hK3 => ?_) AllReadyIn.nil
                go_simp
                refine ⟨trivial, (CallsIn.inRound l2 (callsIn_wide.2 HNUM.out)).mono ?_⟩
                rintro e w' ⟨rfl, rfl⟩
                refine hK3 _ _ ?_
                obtain ⟨fn, tmps, assign, body, hy, hR⟩ := HYY.out
                have HR := Lib.hid hR
                clear hR
                rw [HTL.out] at hy
                dsimp only at hy
                refine wpAnyIn_ready (rs := [4]) (by kernel_rfl) (by simp) ?_
                refine AllReadyIn.cons (by rw [List.getElem?_toArray]; exact rfl) (fun K4 hK4 => ?_) AllReadyIn.nil
                go_simp
                refine HR.out.mono ?_
                rintro e W3 ⟨hk3, ⟨rfl, hJ3⟩ | ⟨rfl, hJ3⟩⟩
                · have hfin := FIN.out W3 hk3
                  refine hK4 _ _ ?_
                  refine wpAnyIn_ready (rs := [5]) (by kernel_rfl) (by simp) ?_
                  refine AllReadyIn.cons (by rw [List.getElem?_toArray]; exact rfl) (fun K5 hK5 => ?_) AllReadyIn.nil
                  go_simp
                  refine hK5 _ _ ?_
                  refine wpAnyIn_ready (rs := [6]) (by kernel_rfl) (by simp) ?_
                  refine AllReadyIn.cons (by rw [List.getElem?_toArray]; exact rfl) (fun K6 hK6 => ?_) AllReadyIn.nil
                  go_simp
                  refine hK6 _ _ ?_
                  refine wpAnyIn_done (by kernel_rfl) ?_ _
                  gi_wp2
                  exact ⟨hfin.1, hfin.2.1, hfin.2.2.1, by rw [List.map_append]; exact hJ3, hfin.2.2.2⟩
                · have hfin := FIN.out W3 hk3
                  refine hK4 _ _ ?_
                  refine wpAnyIn_ready (rs := [5]) (by kernel_rfl) (by simp) ?_
                  refine AllReadyIn.cons (by rw [List.getElem?_toArray]; exact rfl) (fun K5 hK5 => ?_) AllReadyIn.nil
                  go_simp
                  refine hK5 _ _ ?_
                  refine wpAnyIn_ready (rs := [6]) (by kernel_rfl) (by simp) ?_
                  refine AllReadyIn.cons (by rw [List.getElem?_toArray]; exact rfl) (fun K6 hK6 => ?_) AllReadyIn.nil
                  go_simp
                  refine hK6 _ _ ?_
                  refine wpAnyIn_done (by kernel_rfl) ?_ _
                  gi_wp2
                  exact ⟨hfin.1, hfin.2.1, rfl, ⟨pre, x, rfl, hp, .inr ⟨hfull, by rw [List.map_append]; exact hJ3⟩⟩⟩
              · skip
                refine AllReadyIn.cons (by rw [List.getElem?_toArray]; exact rfl) (fun K3 hK3 => ?_) AllReadyIn.nil
                go_simp
                refine ⟨trivial, (CallsIn.inRound l2 (callsIn_wide.2 HNUM.out)).mono ?_⟩
                rintro e w' ⟨rfl, rfl⟩
                refine hK3 _ _ ?_
                refine wpAnyIn_ready (rs := [1]) (by kernel_rfl) (by simp) ?_
                refine AllReadyIn.cons (by rw [List.getElem?_toArray]; exact rfl) (fun K1 hK1 => ?_) AllReadyIn.nil
                go_simp
                refine hK1 _ _ ?_
                obtain ⟨fn, tmps, assign, body, hy, hR⟩ := HYY.out
                have HR := Lib.hid hR
                clear hR
                rw [HTL.out] at hy
                dsimp only at hy
                refine wpAnyIn_ready (rs := [4]) (by kernel_rfl) (by simp) ?_
                refine AllReadyIn.cons (by rw [List.getElem?_toArray]; exact rfl) (fun K4 hK4 => ?_) AllReadyIn.nil
                go_simp
                refine HR.out.mono ?_
                rintro e W3 ⟨hk3, ⟨rfl, hJ3⟩ | ⟨rfl, hJ3⟩⟩
                · have hfin := FIN.out W3 hk3
                  refine hK4 _ _ ?_
                  refine wpAnyIn_ready (rs := [5]) (by kernel_rfl) (by simp) ?_
                  refine AllReadyIn.cons (by rw [List.getElem?_toArray]; exact rfl) (fun K5 hK5 => ?_) AllReadyIn.nil
                  go_simp
                  refine hK5 _ _ ?_
                  refine wpAnyIn_ready (rs := [6]) (by kernel_rfl) (by simp) ?_
                  refine AllReadyIn.cons (by rw [List.getElem?_toArray]; exact rfl) (fun K6 hK6 => ?_) AllReadyIn.nil
                  go_simp
                  refine hK6 _ _ ?_
                  refine wpAnyIn_done (by kernel_rfl) ?_ _
                  gi_wp2
                  exact ⟨hfin.1, hfin.2.1, hfin.2.2.1, by rw [List.map_append]; exact hJ3, hfin.2.2.2⟩
                · have hfin := FIN.out W3 hk3
                  refine hK4 _ _ ?_
                  refine wpAnyIn_ready (rs := [5]) (by kernel_rfl) (by simp) ?_
                  refine AllReadyIn.cons (by rw [List.getElem?_toArray]; exact rfl) (fun K5 hK5 => ?_) AllReadyIn.nil
                  go_simp
                  refine hK5 _ _ ?_
                  refine wpAnyIn_ready (rs := [6]) (by kernel_rfl) (by simp) ?_
                  refine AllReadyIn.cons (by rw [List.getElem?_toArray]; exact rfl) (fun K6 hK6 => ?_) AllReadyIn.nil
                  go_simp
                  refine hK6 _ _ ?_
                  refine wpAnyIn_done (by kernel_rfl) ?_ _
                  gi_wp2
                  exact ⟨hfin.1, hfin.2.1, rfl, ⟨pre, x, rfl, hp, .inr ⟨hfull, by rw [List.map_append]; exact hJ3⟩⟩⟩
            · skip
              refine AllReadyIn.cons (by rw [List.getElem?_toArray]; exact rfl) (fun K1 hK1 => ?_) ?_
              · go_simp
                refine hK1 _ _ ?_
                refine wpAnyIn_ready (rs := [0, 3]) (by kernel_rfl) (by simp) ?_
                refine AllReadyIn.cons (by rw [List.getElem?_toArray]; exact rfl) (fun K0 hK0 => ?_) ?_
                · go_simp
                  refine hK0 _ _ ?_
                  refine wpAnyIn_ready (rs := [3]) (by kernel_rfl) (by simp) ?_
                  refine AllReadyIn.cons (by rw [List.getElem?_toArray]; exact rfl) (fun K3 hK3 => ?_) AllReadyIn.nil
                  go_simp
                  refine ⟨trivial, (CallsIn.inRound l2 (callsIn_wide.2 HNUM.out)).mono ?_⟩
                  rintro e w' ⟨rfl, rfl⟩
                  refine hK3 _ _ ?_
                  obtain ⟨fn, tmps, assign, body, hy, hR⟩ := HYY.out
                  have HR := Lib.hid hR
                  clear hR
                  rw [HTL.out] at hy
                  dsimp only at hy
                  refine wpAnyIn_ready (rs := [4]) (by kernel_rfl) (by simp) ?_
                  refine AllReadyIn.cons (by rw [List.getElem?_toArray]; exact rfl) (fun K4 hK4 => ?_) AllReadyIn.nil
                  go_simp
                  refine HR.out.mono ?_
                  rintro e W3 ⟨hk3, ⟨rfl, hJ3⟩ | ⟨rfl, hJ3⟩⟩
                  · have hfin := FIN.out W3 hk3
                    refine hK4 _ _ ?_
                    refine wpAnyIn_ready (rs := [5]) (by kernel_rfl) (by simp) ?_
                    refine AllReadyIn.cons (by rw [List.getElem?_toArray]; exact rfl) (fun K5 hK5 => ?_) AllReadyIn.nil
                    go_simp
                    refine hK5 _ _ ?_
                    refine wpAnyIn_ready (rs := [6]) (by kernel_rfl) (by simp) ?_
                    refine AllReadyIn.cons (by rw [List.getElem?_toArray]; exact rfl) (fun K6 hK6 => ?_) AllReadyIn.nil
                    go_simp
                    refine hK6 _ _ ?_
                    refine wpAnyIn_done (by kernel_rfl) ?_ _
                    gi_wp2
                    exact ⟨hfin.1, hfin.2.1, hfin.2.2.1, by rw [List.map_append]; exact hJ3, hfin.2.2.2⟩
                  · have hfin := FIN.out W3 hk3
                    refine hK4 _ _ ?_
                    refine wpAnyIn_ready (rs := [5]) (by kernel_rfl) (by simp) ?_
                    refine AllReadyIn.cons (by rw [List.getElem?_toArray]; exact rfl) (fun K5 hK5 => ?_) AllReadyIn.nil
                    go_simp
                    refine hK5 _ _ ?_
                    refine wpAnyIn_ready (rs := [6]) (by kernel_rfl) (by simp) ?_
                    refine AllReadyIn.cons (by rw [List.getElem?_toArray]; exact rfl) (fun K6 hK6 => ?_) AllReadyIn.nil
                    go_simp
                    refine hK6 _ _ ?_
                    refine wpAnyIn_done (by kernel_rfl) ?_ _
                    gi_wp2
                    exact ⟨hfin.1, hfin.2.1, rfl, ⟨pre, x, rfl, hp, .inr ⟨hfull, by rw [List.map_append]; exact hJ3⟩⟩⟩
                · skip
                  refine AllReadyIn.cons (by rw [List.getElem?_toArray]; exact rfl) (fun K3 hK3 => ?_) AllReadyIn.nil
                  go_simp
                  refine ⟨trivial, (CallsIn.inRound l2 (callsIn_wide.2 HNUM.out)).mono ?_⟩
                  rintro e w' ⟨rfl, rfl⟩
                  refine hK3 _ _ ?_
                  refine wpAnyIn_ready (rs := [0]) (by kernel_rfl) (by simp) ?_
                  refine AllReadyIn.cons (by rw [List.getElem?_toArray]; exact rfl) (fun K0 hK0 => ?_) AllReadyIn.nil
                  go_simp
                  refine hK0 _ _ ?_
                  obtain ⟨fn, tmps, assign, body, hy, hR⟩ := HYY.out
                  have HR := Lib.hid hR
                  clear hR
                  rw [HTL.out] at hy
                  dsimp only at hy
                  refine wpAnyIn_ready (rs := [4]) (by kernel_rfl) (by simp) ?_
                  refine AllReadyIn.cons (by rw [List.getElem?_toArray]; exact rfl) (fun K4 hK4 => ?_) AllReadyIn.nil
                  go_simp
                  refine HR.out.mono ?_
                  rintro e W3 ⟨hk3, ⟨rfl, hJ3⟩ | ⟨rfl, hJ3⟩⟩
                  · have hfin := FIN.out W3 hk3
                    refine hK4 _ _ ?_
                    refine wpAnyIn_ready (rs := [5]) (by kernel_rfl) (by simp) ?_
                    refine AllReadyIn.cons (by rw [List.getElem?_toArray]; exact rfl) (fun K5 hK5 => ?_) AllReadyIn.nil
                    go_simp
                    refine hK5 _ _ ?_
                    refine wpAnyIn_ready (rs := [6]) (by kernel_rfl) (by simp) ?_
                    refine AllReadyIn.cons (by rw [List.getElem?_toArray]; exact rfl) (fun K6 hK6 => ?_) AllReadyIn.nil
                    go_simp
                    refine hK6 _ _ ?_
                    refine wpAnyIn_done (by kernel_rfl) ?_ _
                    gi_wp2
                    exact ⟨hfin.1, hfin.2.1, hfin.2.2.1, by rw [List.map_append]; exact hJ3, hfin.2.2.2⟩
                  · have hfin := FIN.out W3 hk3
                    refine hK4 _ _ ?_
                    refine wpAnyIn_ready (rs := [5]) (by kernel_rfl) (by simp) ?_
                    refine AllReadyIn.cons (by rw [List.getElem?_toArray]; exact rfl) (fun K5 hK5 => ?_) AllReadyIn.nil
                    go_simp
                    refine hK5 _ _ ?_
                    refine wpAnyIn_ready (rs := [6]) (by kernel_rfl) (by simp) ?_
                    refine AllReadyIn.cons (by rw [List.getElem?_toArray]; exact rfl) (fun K6 hK6 => ?_) AllReadyIn.nil
                    go_simp
                    refine hK6 _ _ ?_
                    refine wpAnyIn_done (by kernel_rfl) ?_ _
                    gi_wp2
                    exact ⟨hfin.1, hfin.2.1, rfl, ⟨pre, x, rfl, hp, .inr ⟨hfull, by rw [List.map_append]; exact hJ3⟩⟩⟩
              · skip
                refine AllReadyIn.cons (by rw [List.getElem?_toArray]; exact rfl) (fun K3 hK3 => ?_) AllReadyIn.nil
                go_simp
                refine ⟨trivial, (CallsIn.inRound l2 (callsIn_wide.2 HNUM.out)).mono ?_⟩
                rintro e w' ⟨rfl, rfl⟩
                refine hK3 _ _ ?_
                refine wpAnyIn_ready (rs := [0, 1]) (by kernel_rfl) (by simp) ?_
                refine AllReadyIn.cons (by rw [List.getElem?_toArray]; exact rfl) (fun K0 hK0 => ?_) ?_
                · go_simp
                  refine hK0 _ _ ?_
                  refine wpAnyIn_ready (rs := [1]) (by kernel_rfl) (by simp) ?_
                  refine AllReadyIn.cons (by rw [List.getElem?_toArray]; exact rfl) (fun K1 hK1 => ?_) AllReadyIn.nil
                  go_simp
                  refine hK1 _ _ ?_
                  obtain ⟨fn, tmps, assign, body, hy, hR⟩ := HYY.out
                  have HR := Lib.hid hR
                  clear hR
                  rw [HTL.out] at hy
                  dsimp only at hy
                  refine wpAnyIn_ready (rs := [4]) (by kernel_rfl) (by simp) ?_
                  refine AllReadyIn.cons (by rw [List.getElem?_toArray]; exact rfl) (fun K4 hK4 => ?_) AllReadyIn.nil
                  go_simp
                  refine HR.out.mono ?_
                  rintro e W3 ⟨hk3, ⟨rfl, hJ3⟩ | ⟨rfl, hJ3⟩⟩
                  · have hfin := FIN.out W3 hk3
                    refine hK4 _ _ ?_
                    refine wpAnyIn_ready (rs := [5]) (by kernel_rfl) (by simp) ?_
                    refine AllReadyIn.cons (by rw [List.getElem?_toArray]; exact rfl) (fun K5 hK5 => ?_) AllReadyIn.nil
                    go_simp
                    refine hK5 _ _ ?_
                    refine wpAnyIn_ready (rs := [6]) (by kernel_rfl) (by simp) ?_
                    refine AllReadyIn.cons (by rw [List.getElem?_toArray]; exact rfl) (fun K6 hK6 => ?_) AllReadyIn.nil
                    go_simp
                    refine hK6 _ _ ?_
                    refine wpAnyIn_done (by kernel_rfl) ?_ _
                    gi_wp2
                    exact ⟨hfin.1, hfin.2.1, hfin.2.2.1, by rw [List.map_append]; exact hJ3, hfin.2.2.2⟩
                  · have hfin := FIN.out W3 hk3
                    refine hK4 _ _ ?_
                    refine wpAnyIn_ready (rs := [5]) (by kernel_rfl) (by simp) ?_
                    refine AllReadyIn.cons (by rw [List.getElem?_toArray]; exact rfl) (fun K5 hK5 => ?_) AllReadyIn.nil
                    go_simp
                    refine hK5 _ _ ?_
                    refine wpAnyIn_ready (rs := [6]) (by kernel_rfl) (by simp) ?_
                    refine AllReadyIn.cons (by rw [List.getElem?_toArray]; exact rfl) (fun K6 hK6 => ?_) AllReadyIn.nil
                    go_simp
                    refine hK6 _ _ ?_
                    refine wpAnyIn_done (by kernel_rfl) ?_ _
                    gi_wp2
                    exact ⟨hfin.1, hfin.2.1, rfl, ⟨pre, x, rfl, hp, .inr ⟨hfull, by rw [List.map_append]; exact hJ3⟩⟩⟩
                · skip
                  refine AllReadyIn.cons (by rw [List.getElem?_toArray]; exact rfl) (fun K1 hK1 => ?_) AllReadyIn.nil
                  go_simp
                  refine hK1 _ _ ?_
                  refine wpAnyIn_ready (rs := [0]) (by kernel_rfl) (by simp) ?_
                  refine AllReadyIn.cons (by rw [List.getElem?_toArray]; exact rfl) (fun K0 hK0 => ?_) AllReadyIn.nil
                  go_simp
                  refine hK0 _ _ ?_
                  obtain ⟨fn, tmps, assign, body, hy, hR⟩ := HYY.out
                  have HR := Lib.hid hR
                  clear hR
                  rw [HTL.out] at hy
                  dsimp only at hy
                  refine wpAnyIn_ready (rs := [4]) (by kernel_rfl) (by simp) ?_
                  refine AllReadyIn.cons (by rw [List.getElem?_toArray]; exact rfl) (fun K4 hK4 => ?_) AllReadyIn.nil
                  go_simp
                  refine HR.out.mono ?_
                  rintro e W3 ⟨hk3, ⟨rfl, hJ3⟩ | ⟨rfl, hJ3⟩⟩
                  · have hfin := FIN.out W3 hk3
                    refine hK4 _ _ ?_
                    refine wpAnyIn_ready (rs := [5]) (by kernel_rfl) (by simp) ?_
                    refine AllReadyIn.cons (by rw [List.getElem?_toArray]; exact rfl) (fun K5 hK5 => ?_) AllReadyIn.nil
                    go_simp
                    refine hK5 _ _ ?_
                    refine wpAnyIn_ready (rs := [6]) (by kernel_rfl) (by simp) ?_
                    refine AllReadyIn.cons (by rw [List.getElem?_toArray]; exact rfl) (fun K6 hK6 => ?_) AllReadyIn.nil
                    go_simp
                    refine hK6 _ _ ?_
                    refine wpAnyIn_done (by kernel_rfl) ?_ _
                    gi_wp2
                    exact ⟨hfin.1, hfin.2.1, hfin.2.2.1, by rw [List.map_append]; exact hJ3, hfin.2.2.2⟩
                  · have hfin := FIN.out W3 hk3
                    refine hK4 _ _ ?_
                    refine wpAnyIn_ready (rs := [5]) (by kernel_rfl) (by simp) ?_
                    refine AllReadyIn.cons (by rw [List.getElem?_toArray]; exact rfl) (fun K5 hK5 => ?_) AllReadyIn.nil
                    go_simp
                    refine hK5 _ _ ?_
                    refine wpAnyIn_ready (rs := [6]) (by kernel_rfl) (by simp) ?_
                    refine AllReadyIn.cons (by rw [List.getElem?_toArray]; exact rfl) (fun K6 hK6 => ?_) AllReadyIn.nil
                    go_simp
                    refine hK6 _ _ ?_
                    refine wpAnyIn_done (by kernel_rfl) ?_ _
                    gi_wp2
                    exact ⟨hfin.1, hfin.2.1, rfl, ⟨pre, x, rfl, hp, .inr ⟨hfull, by rw [List.map_append]; exact hJ3⟩⟩⟩
      · have hnl : (x.1.2 : Int) < (K : Int) := by omega
        gi_wp2
        exact ⟨⟨Nat.le_refl _, fun _ _ _ h _ => h⟩, Kept2.refl _ _ _, rfl, ⟨pre, x, rfl, hp, .inl ⟨hfull, hj⟩⟩⟩
    case done =>
      rintro D ys W' hD hS ⟨hp, hj, _⟩ hK'
      gi_wp2
      refine ⟨by simp, .inl ⟨_, _, rfl, run_takeDeferred hK', ?_⟩⟩
      refine ⟨_, by first | exact results_none rfl _ _ _ | rfl, ⟨_, rfl⟩, .inl ⟨ys.map fun y => tellP xs y.1, ?_, ?_⟩⟩
      · rw [← HT.out]
        exact nums_done K (tellP xs) (fun y : Pc K xs.length => y.1) ys _ hS hp
      · exact HAJ.out _ W' _ hj (TurnsAny.of (grownBy_putObj' W' D _) (fun r e => by cases e; exact ⟨by omega, (Array.getElem?_eq_some_iff.1 hK').1⟩))
    case stop =>
      rintro D c pre' W' hD hSp ⟨rfl, pre, x, rfl, hp, h⟩ hK'
      gi_wp2
      refine ⟨by simp, .inl ⟨_, _, rfl, run_takeDeferred hK', ?_⟩⟩
      have hturn : TurnsAny B W' (W'.putObj D (.deferred none)) := TurnsAny.of (grownBy_putObj' W' D _) (fun r e => by cases e; exact ⟨by omega, (Array.getElem?_eq_some_iff.1 hK').1⟩)
      rcases h with ⟨hsh, hj⟩ | ⟨hfu, hj⟩
      · refine ⟨_, by first | exact results_none rfl _ _ _ | rfl, ⟨_, rfl⟩, .inl ⟨pre.map fun y => tellP xs y.1, ?_, HAJ.out _ W' _ hj hturn⟩⟩
        rw [← HT.out]
        exact nums_stop K (tellP xs) (fun y : Pc K xs.length => y.1) pre x _ hSp hp hsh
      · refine ⟨_, by first | exact results_none rfl _ _ _ | rfl, ⟨_, rfl⟩, .inr ⟨(pre ++ [x]).map fun y => tellP xs y.1, ?_, HAX.out _ W' _ hj hturn⟩⟩
        rw [← HT.out]
        refine nums_left K (tellP xs) (fun y : Pc K xs.length => y.1) _ _ hSp (fun z hz => ?_)
        rcases List.mem_append.1 hz with hz | hz
        · exact hp z hz
        · rw [List.mem_singleton.1 hz]; exact hfu
  · rw [if_neg hk] at hT
    subst hT
    refine callsIn_of_wp Tryd.func28 rfl trivial ?_ rfl
    simp only [Tryd.ntmps28, List.size_toArray, List.length_cons, List.length_nil, Nat.reduceAdd, Nat.reduceSub, Array.replicate_succ, Array.replicate_zero, List.push_toArray, List.append_toArray, List.nil_append, List.cons_append]
    gi_wp2_with fail
    generalize hW1 : W.alloc (.cells #[.func (.yield l) #[] #[]] 65) = W1 at *
    replace cw := (hb1.cell (p := ⟨Bw, 0, none⟩) (World.block_lt_of_cell? _ _ cw)).trans cw
    have hWi := isWidth_any k W1 (hf.below hb1)
    rw [decide_eq_false hk] at hWi
    have HW3 := Lib.hid hWi
    have HJ1 := Lib.hid hJ1
    clear hx hf h0 hJ1 hb1 hW1 cy hWi co
    refine wpInWide_scope ?_
    gi_wp2_with fail
    refine ⟨trivial, ?_⟩
    refine (callsIn_wide.2 HW3.out).mono ?_
    rintro e w' ⟨rfl, rfl⟩
    gi_wp2_with fail
    rw [Exit.noGoto_ret]
    refine bodyPost_ret (results_none rfl _ _ _) rfl ?_
    exact ⟨⟨_, rfl⟩, .inl ⟨[], rfl, HJ1.out⟩⟩
end Go.Proofs.YthpmfeijnphdbaaDoor
