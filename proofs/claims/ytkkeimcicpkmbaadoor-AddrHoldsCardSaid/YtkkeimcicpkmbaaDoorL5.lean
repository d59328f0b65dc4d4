/- The walk of AddrHolds. -/
import Derived.Test.YtkkeimcicpkmbaaDoorL4
import Derived.Test.YtkkeimcicpkmbaaDoorJ1
import Derived.Test.YtkkeimcicpkmbaaDoorJ2
namespace Go.Proofs.YtkkeimcicpkmbaaDoor
open Go Go.RowKit Go.Shelf Go.Sort
attribute [local go_sem] Oper.semAt_some

/-- The addresses that came in, wherever they lie. -/
def Came (A : Option Addr) (xs : List Int) (w : World) : Prop := 0 < xs.length → ∃ b o, A = some ⟨b, o, none⟩ ∧ b < w.heap.size ∧ ∀ j (hj : j < xs.length), w.cell? ⟨b, o + j, none⟩ = some (.int .u32 (xs[j]'hj))
theorem Came.below {A : Option Addr} {xs : List Int} {w w' : World} (h : Came A xs w) (hb : Below w.heap.size w w') : Came A xs w' := fun hn => by
  obtain ⟨b, o, e, hlt, hc⟩ := h hn
  exact ⟨b, o, e, by have := hb.size; omega, fun j hj => (hb.cell (p := ⟨b, o + j, none⟩) hlt).trans (hc j hj)⟩

/-- What the walk holds at every world behind the two calls. -/
structure CtxH (w : World) (h1 : Nat) (A : Option Addr) (cap : Nat) (xs : List Int) (T : ByteArray) (W : World) : Prop where
  fit : Fit w
  bel : Below w.heap.size w W
  lb : Blk W w.heap.size 51 #[.slice A xs.length cap]
  r : Blk W (w.heap.size + 1) 4 #[.bool false]
  tb : Blk W h1 9 #[.string T]
  str : Blk W (h1 + 1) 9 #[.string T]
  came : Came A xs w
  z : w.heap.size + 1 < h1
theorem CtxH.mono {w : World} {h1 : Nat} {A : Option Addr} {cap : Nat} {xs : List Int} {T : ByteArray} {W W' : World} (C : CtxH w h1 A cap xs T W) (hb : Below (h1 + 2) W W') : CtxH w h1 A cap xs T W' := by
  have hz := C.z
  exact ⟨C.fit, C.bel.trans (hb.mono (by omega)), C.lb.below hb (by omega), C.r.below hb (by omega), C.tb.below hb (by omega), C.str.below hb (by omega), C.came, C.z⟩
theorem CtxH.stops {w : World} {h1 : Nat} {A : Option Addr} {cap : Nat} {xs : List Int} {T : ByteArray} {W : World} (C : CtxH w h1 A cap xs T W) (hx : ∀ x ∈ xs, 0 ≤ x ∧ x < 4294967296) (hn : xs.length ≤ 12) (hT : T.data.toList = joinT xs) (n n₀ : Nat) (hn1 : 1 ≤ n) (hn₀ : h1 ≤ n₀) :
    SeqStopsK Fence.wide n Tryd.prog 31 #[.pointer (some ⟨h1 + 1, 0, none⟩)] (fun x : Int × Int => #[Value.int .i64 x.1, Value.int .u32 x.2]) (Below n₀) (fun ys => ys = placesT 0 xs) (fun pre => pre <+: placesT 0 xs) xs.length W := by
  obtain ⟨mx, hm⟩ := C.fit.len
  have l2 := World.block_lt_of_cell? _ _ hm
  have hz := C.z
  simp only at l2
  have hlen := joinT_len xs hx
  have hsz : T.size = (joinT xs).length := by rw [← hT]; simp
  have := each_stops n hn1 (h1 + 1) n₀ T (by omega) (by omega) W C.str.lt (by rw [C.str.cell]; rfl) mx ((C.bel.cell (p := ⟨0, 0, none⟩) l2).trans hm)
  rw [hT, hsz, each_join xs hx, placesT_length] at this
  exact this

/-- What is none of the places and addresses is told by one of the three. -/
theorem told {xs : List Int} {pre : List (Int × Int)} {x : Int × Int} (hlt : pre.length < xs.length) (h : ¬ (x.2 = xs[pre.length]'hlt ∧ 0 ≤ x.1 ∧ x.1 ≤ (joinT xs).length)) : ¬ (pre ++ [x]) <+: placesT 0 xs := by
  intro hp
  have hlt2 : pre.length < (placesT 0 xs).length := by rw [placesT_length]; exact hlt
  have hxe : x = (placesT 0 xs)[pre.length]'hlt2 := by
    refine Classical.byContradiction (fun hne => ?_)
    exact not_pre hlt2 hne hp
  have h2 := placesT_place xs 0 x (by rw [hxe]; exact List.getElem_mem hlt2)
  refine h ⟨?_, by omega, by omega⟩
  have h3 := congrArg (fun l => l[pre.length]?) (placesT_addr xs 0)
  simp only [List.getElem?_map, List.getElem?_eq_getElem hlt2, List.getElem?_eq_getElem hlt, Option.map_some, Option.some.injEq] at h3
  rw [hxe, h3]

theorem begins_cut (s : ByteArray) (hs : s.size ≤ 20) (i : Nat) (b : Bool) (hb : beginsB (s.data.toList.take i) = b) (w : World) :
    Calls Tryd.prog 22 #[.string (s.extract 0 i)] w fun e w' => e = .returned (.bool b) ∧ Below w.heap.size w w' := by
  have hl : (s.extract 0 i).data.toList = s.data.toList.take i := by simp
  have hsz : (s.extract 0 i).size ≤ 20 := by simp; omega
  refine (begins_any (s.extract 0 i) hsz w).mono ?_
  rintro e w' ⟨rfl, h⟩
  rw [hl, hb]
  exact ⟨rfl, h⟩

set_option maxRecDepth 100000 in
set_option maxHeartbeats 3200000 in
theorem law_holds_small (A : Option Addr) (cap : Nat) (xs : List Int) (hx : ∀ x ∈ xs, 0 ≤ x ∧ x < 4294967296) (hn : xs.length ≤ 12) (s : ByteArray) (hs : s.size ≤ 20) (w : World) (hF : Fit w) (hA : Came A xs w) :
    CallsIn Fence.wide 6 Tryd.prog 7 #[.slice A xs.length cap, .string s] w fun e w' => e = .returned (.bool true) ∧ Below w.heap.size w w' := by
  have hbig1 : ¬ 12 < (xs.length : Int) := by omega
  have hbig2 : ¬ 20 < (s.size : Int) := by omega
  have HF := Lib.hid hF
  have HA := Lib.hid hA
  clear hF hA
  refine callsIn_of_wp_marks Tryd.func7 rfl trivial ?_ rfl
  simp only [Tryd.ntmps7, List.size_toArray, List.length_cons, List.length_nil, Nat.reduceAdd, Nat.reduceSub, Array.replicate_succ, Array.replicate_zero, List.push_toArray, List.append_toArray, List.nil_append, List.cons_append]
  gi_wp2_with fail
  refine ⟨trivial, ?_⟩
  have hba : Below w.heap.size w ((w.alloc (.cells #[.slice A xs.length cap] 51)).alloc (.cells #[.bool false] 4)) := ((Below.refl _ _).alloc (Nat.le_refl _) _).alloc (by simp) _
  refine (callsIn_wide.2 (join_any A cap xs hx hn _ (HF.out.below hba) (HA.out.below hba))).mono ?_
  rintro e w1 ⟨rfl, hb1⟩
  have hz1 : w.heap.size + 1 < w1.heap.size := by have := hb1.size; simp at this; omega
  have hbw1 : Below w.heap.size w w1 := hba.trans (hb1.mono hba.size)
  have bl1 : Blk w1 w.heap.size 51 #[.slice A xs.length cap] := ((Blk.new w _ _).alloc _).below hb1 (by simp; omega)
  have br1 : Blk w1 (w.heap.size + 1) 4 #[.bool false] := by
    have := (Blk.new (w.alloc (.cells #[.slice A xs.length cap] 51)) 4 #[.bool false]).below hb1 (by simp)
    simpa using this
  generalize hTd : (⟨(joinT xs).toArray⟩ : ByteArray) = T
  have hT : T.data.toList = joinT xs := by rw [← hTd]
  have hTs : T.size = (joinT xs).length := by rw [← hTd]; rfl
  have HT := Lib.hid hT
  have HBL := Lib.hid bl1
  have HBR := Lib.hid br1
  have HB1 := Lib.hid hbw1
  clear hba hb1 bl1 br1 hbw1 hTd hT
  have hct : (w1.alloc (.cells #[.string T] 9)).cell? ⟨w1.heap.size, 0, none⟩ = some (.string T) := by simp
  gi_wp2_with fail
  refine ⟨trivial, ?_⟩
  refine (callsIn_wide.2 (each_any T _)).mono ?_
  rintro e w2 ⟨rfl, rfl⟩
  have hfn := fun (p : Addr) w => funcNil 31 #[.pointer (some p)] w
  have hsz0 : ((w1.alloc (.cells #[.string T] 9)).alloc (.cells #[.string T] 9)).heap.size = w1.heap.size + 2 := by simp
  have HC0 : Hid (CtxH w w1.heap.size A cap xs T ((w1.alloc (.cells #[.string T] 9)).alloc (.cells #[.string T] 9))) := Lib.hid ⟨HF.out, (HB1.out.alloc (by omega) (.cells #[.string T] 9)).alloc (by rw [World.size_alloc]; omega) (.cells #[.string T] 9), (HBL.out.alloc _).alloc _, (HBR.out.alloc _).alloc _, (Blk.new w1 _ _).alloc _, by
    have := Blk.new (w1.alloc (.cells #[.string T] 9)) 9 #[.string T]
    simpa using this, HA.out, hz1⟩
  clear HBL HBR HB1 hct
  generalize hW0 : ((w1.alloc (.cells #[.string T] 9)).alloc (.cells #[.string T] 9)) = W0 at *
  gi_wp2_with fail
  have hbn : Blk (W0.alloc (.cells #[.int .i64 0] 3)) (w1.heap.size + 2) 3 #[.int .i64 0] := by rw [← hsz0]; exact Blk.new _ _ _
  have hbw : Below (w1.heap.size + 2) W0 (W0.alloc (.cells #[.int .i64 0] 3)) := by rw [← hsz0]; exact (Below.refl _ _).alloc (Nat.le_refl _) _
  have hszA : (W0.alloc (.cells #[.int .i64 0] 3)).heap.size = w1.heap.size + 3 := by simp [hsz0]
  generalize hWA : (W0.alloc (.cells #[.int .i64 0] 3)) = WA at *
  have HC := Lib.hid (HC0.out.mono hbw)
  clear hWA hW0 hbw HC0 hfn
  refine rangeFunc_brk (S := fun ys => ys = placesT 0 xs) (Sp := fun pre => pre <+: placesT 0 xs) (N := xs.length) (n₀ := w1.heap.size + 2) rfl (by omega) (gf := 31) (lb := #[.pointer (some ⟨w1.heap.size + 1, 0, none⟩)]) rfl trivial (enters_of Tryd.func31 (by kernel_rfl) rfl)
    (HC.out.stops hx hn HT.out 5 (w1.heap.size + 2) (by omega) (by omega)) (by omega) (Below.refl _ _) (fun _ => rfl)
    (fun pre W => Hold WA (w1.heap.size + 2) pre.length W) (fun _ _ => 1 = 2)
    (hold_own (by omega) (by omega) _) (fun _ _ _ _ h _ _ => h)
    ⟨hbn, Below.refl _ _⟩ ?a₁ ?assign ?body ?after
  case assign =>
    intro l x W K hK
    gi_wp2
    exact hK
  case body =>
    rintro l pre x W hH hlt
    have C := HC.out.mono (hH.2.mono (by omega))
    have c_n := hH.1.cell 0
    have c_l := C.lb.cell 0
    have c_t := C.tb.cell 0
    have c_r := C.r.cell 0
    simp only [List.getElem?_toArray, List.getElem?_cons_zero] at c_n c_l c_t c_r
    obtain ⟨b, o, rfl, hb, hcells⟩ := C.came (by omega)
    have e1 := (C.bel.cell (p := ⟨b, o + pre.length, none⟩) hb).trans (hcells pre.length hlt)
    have hf_n := hH.1.frozen 0
    have hf_r := C.r.frozen 0
    have HN := Lib.hid hH
    have HL2 := Lib.hid hcells
    have HCC := Lib.hid C
    clear hH hcells C
    have k1 : ¬ (xs.length : Int) ≤ (pre.length : Int) := by omega
    by_cases hx2 : x.2 = xs[pre.length]'hlt
    · by_cases hx0 : 0 ≤ x.1
      · by_cases hx1 : x.1 ≤ (T.size : Int)
        · gi_wp2
          exact ⟨KeepsOthers.setCell _ _ _, (Below.refl _ W).setCell (p := ⟨w1.heap.size + 2, 0, none⟩) (Nat.le_refl _) _, by simpa using HN.out.set⟩
        · gi_wp2
          exact ⟨KeepsOthers.setCell _ _ _, ⟨rfl, told hlt (fun h => by have := h.2.2; omega)⟩⟩
      · gi_wp2
        exact ⟨KeepsOthers.setCell _ _ _, ⟨rfl, told hlt (fun h => by have := h.2.1; omega)⟩⟩
    · gi_wp2
      exact ⟨KeepsOthers.setCell _ _ _, ⟨rfl, told hlt (fun h => hx2 h.1)⟩⟩
  case after =>
    rintro D ys W hD (⟨rfl, hH⟩ | ⟨_, hH⟩) hK
    · rw [placesT_length] at hH
      have C := HC.out.mono (hH.2.mono (by omega))
      have c_n := hH.1.cell 0
      have c_l := C.lb.cell 0
      have c_t := C.tb.cell 0
      simp only [List.getElem?_toArray, List.getElem?_cons_zero] at c_n c_l c_t
      have hDlt : D < W.heap.size := (Array.getElem?_eq_some_iff.1 hK).1
      have hszW : w1.heap.size + 3 ≤ W.heap.size := by have := hH.2.size; omega
      have HN := Lib.hid hH
      have HCC := Lib.hid C
      have HD := Lib.hid hK
      clear hH C hK
      have hz : ¬ xs.length = 0 ∨ (xs.length = 0 ∧ T = ⟨#[]⟩) := by
        by_cases h0 : xs.length = 0
        · refine .inr ⟨h0, ?_⟩
          have hxs : xs = [] := List.eq_nil_of_length_eq_zero h0
          have hd : T.data.toList = [] := by rw [HT.out, hxs]; rfl
          have : T.data = #[] := by
            rw [← Array.toList_inj]; simpa using hd
          cases T
          simp only at this
          rw [this]
        · exact .inl h0
      rcases hz with hz | ⟨hz, rfl⟩
      all_goals
        (first | have hz' : ¬ (xs.length : Int) = 0 := by omega | have hz' : (xs.length : Int) = 0 := by omega)
        gi_wp2_with fail
        refine ⟨trivial, ?_⟩
        rcases parsed_cases s.data.toList with ⟨i, hi, hpar⟩ | ⟨a, ha0, ha1, hpar, _⟩
        · have hp : ∀ w, Calls Tryd.prog 15 #[.string s] w fun e w' => e = .returned (.tuple #[.int .u32 0, .int .i64 i, .int .i64 110]) ∧ Below w.heap.size w w' := fun w => (parse_any s w).mono fun _ _ ⟨he, hb⟩ => ⟨by rw [he, parseEnd, hpar], hb⟩
          refine (callsIn_wide.2 (hp W)).mono ?_
          rintro e w4 ⟨rfl, hb⟩
          have HC4 := Lib.hid (HCC.out.mono (hb.mono (by omega)))
          have HD4 := Lib.hid ((hb.block D hDlt).trans HD.out)
          have hsz4 := hb.size
          clear hb hp
          gi_wp2_with fail
          refine ⟨trivial, ?_⟩
          refine (callsIn_wide.2 (num_any _ _)).mono ?_
          rintro e wn ⟨rfl, rfl⟩
          have hi0 : ¬ (s.size : Int) < (i : Int) := by simp at hi; omega
          obtain ⟨hbeg, hbeg2⟩ := begins_at s.data.toList i hpar
          rcases Nat.lt_or_ge i s.size with hil | hil
          · have hil' : (i : Int) < (s.size : Int) := by omega
            have hbeg3 := hbeg2 (by simpa using hil)
            clear hbeg2
            gi_wp2_with fail
            refine ⟨trivial, ?_⟩
            refine (callsIn_wide.2 (begins_cut s hs i true hbeg _)).mono ?_
            rintro e w5 ⟨rfl, hb⟩
            have HC5 := Lib.hid (HC4.out.mono (hb.mono (by omega)))
            have HD5 := Lib.hid ((hb.block D (by omega)).trans HD4.out)
            have hsz5 := hb.size
            clear hb
            gi_wp2_with fail
            refine ⟨trivial, ?_⟩
            refine (callsIn_wide.2 (begins_cut s hs (i + 1) false hbeg3 _)).mono ?_
            rintro e w6 ⟨rfl, hb⟩
            have HC6 := Lib.hid (HC5.out.mono (hb.mono (by omega)))
            have HD6 := Lib.hid ((hb.block D (by omega)).trans HD5.out)
            have hsz6 := hb.size
            clear hb
            gi_wp2_with fail
            refine ⟨trivial, ?_⟩
            refine (callsIn_wide.2 (works_any _ (HC6.out.fit.below HC6.out.bel))).mono ?_
            rintro e w9 ⟨rfl, hb⟩
            have HC9 := Lib.hid (HC6.out.mono (hb.mono (by omega)))
            have HD9 := Lib.hid ((hb.block D (by omega)).trans HD6.out)
            have c_r := HC9.out.r.cell 0
            have hf_r := HC9.out.r.frozen 0
            simp only [List.getElem?_toArray, List.getElem?_cons_zero] at c_r
            clear hb
            gi_wp2_with fail
            have hr4 : Blk (w9.setCell ⟨w.heap.size + 1, 0, none⟩ (.bool true)) (w.heap.size + 1) 4 #[.bool true] := by
              have := HC9.out.r.set_ 0 (.bool true)
              simpa using this
            have hb4 : Below w.heap.size w (w9.setCell ⟨w.heap.size + 1, 0, none⟩ (.bool true)) := HC9.out.bel.setCell (p := ⟨w.heap.size + 1, 0, none⟩) (by simp) _
            have hk4 := (Below.heap_setCell w9 ⟨w.heap.size + 1, 0, none⟩ (.bool true) D (by simp only; omega)).trans HD9.out
            generalize (w9.setCell ⟨w.heap.size + 1, 0, none⟩ (.bool true)) = wE at *
            refine ⟨by simp, .inl ⟨_, _, rfl, run_takeDeferred hk4, ?_⟩⟩
            have hg1 := grownBy_putObj' wE D (.deferred none)
            have hr6 := hr4.grown hg1 (by simp; omega)
            have hb6 : Below w.heap.size w (wE.putObj D (.deferred none)) := hb4.grown hg1 hb4.size (fun k e => by cases e; omega)
            have c_r6 := hr6.cell 0
            simp only [List.getElem?_toArray, List.getElem?_cons_zero] at c_r6
            refine ⟨.bool true, ?_, rfl, hb6⟩
            simp [results, Tryd.f7, go_sem, c_r6]
          · have hil' : ¬ (i : Int) < (s.size : Int) := by omega
            clear hbeg2
            gi_wp2_with fail
            refine ⟨trivial, ?_⟩
            refine (callsIn_wide.2 (begins_cut s hs i true hbeg _)).mono ?_
            rintro e w5 ⟨rfl, hb⟩
            have HC5 := Lib.hid (HC4.out.mono (hb.mono (by omega)))
            have HD5 := Lib.hid ((hb.block D (by omega)).trans HD4.out)
            have hsz5 := hb.size
            clear hb
            gi_wp2_with fail
            refine ⟨trivial, ?_⟩
            gi_wp2_with fail
            refine ⟨trivial, ?_⟩
            refine (callsIn_wide.2 (works_any _ (HC5.out.fit.below HC5.out.bel))).mono ?_
            rintro e w9 ⟨rfl, hb⟩
            have HC9 := Lib.hid (HC5.out.mono (hb.mono (by omega)))
            have HD9 := Lib.hid ((hb.block D (by omega)).trans HD5.out)
            have c_r := HC9.out.r.cell 0
            have hf_r := HC9.out.r.frozen 0
            simp only [List.getElem?_toArray, List.getElem?_cons_zero] at c_r
            clear hb
            gi_wp2_with fail
            have hr4 : Blk (w9.setCell ⟨w.heap.size + 1, 0, none⟩ (.bool true)) (w.heap.size + 1) 4 #[.bool true] := by
              have := HC9.out.r.set_ 0 (.bool true)
              simpa using this
            have hb4 : Below w.heap.size w (w9.setCell ⟨w.heap.size + 1, 0, none⟩ (.bool true)) := HC9.out.bel.setCell (p := ⟨w.heap.size + 1, 0, none⟩) (by simp) _
            have hk4 := (Below.heap_setCell w9 ⟨w.heap.size + 1, 0, none⟩ (.bool true) D (by simp only; omega)).trans HD9.out
            generalize (w9.setCell ⟨w.heap.size + 1, 0, none⟩ (.bool true)) = wE at *
            refine ⟨by simp, .inl ⟨_, _, rfl, run_takeDeferred hk4, ?_⟩⟩
            have hg1 := grownBy_putObj' wE D (.deferred none)
            have hr6 := hr4.grown hg1 (by simp; omega)
            have hb6 : Below w.heap.size w (wE.putObj D (.deferred none)) := hb4.grown hg1 hb4.size (fun k e => by cases e; omega)
            have c_r6 := hr6.cell 0
            simp only [List.getElem?_toArray, List.getElem?_cons_zero] at c_r6
            refine ⟨.bool true, ?_, rfl, hb6⟩
            simp [results, Tryd.f7, go_sem, c_r6]
        · have hll : s.data.toList.length = s.size := by simp
          rw [hll] at hpar
          have hp : ∀ w, Calls Tryd.prog 15 #[.string s] w fun e w' => e = .returned (.tuple #[.int .u32 a, .int .i64 s.size, .int .i64 0]) ∧ Below w.heap.size w w' := fun w => (parse_any s w).mono fun _ _ ⟨he, hb⟩ => ⟨by rw [he, parseEnd, hpar], hb⟩
          refine (callsIn_wide.2 (hp W)).mono ?_
          rintro e w4 ⟨rfl, hb⟩
          have HC4 := Lib.hid (HCC.out.mono (hb.mono (by omega)))
          have HD4 := Lib.hid ((hb.block D hDlt).trans HD.out)
          have hsz4 := hb.size
          clear hb hp hpar hll
          gi_wp2_with fail
          refine ⟨trivial, ?_⟩
          refine (callsIn_wide.2 (num_any _ _)).mono ?_
          rintro e wn ⟨rfl, rfl⟩
          gi_wp2_with fail
          refine ⟨trivial, ?_⟩
          refine (callsIn_wide.2 (works_any _ (HC4.out.fit.below HC4.out.bel))).mono ?_
          rintro e w9 ⟨rfl, hb⟩
          have HC9 := Lib.hid (HC4.out.mono (hb.mono (by omega)))
          have HD9 := Lib.hid ((hb.block D (by omega)).trans HD4.out)
          have c_r := HC9.out.r.cell 0
          have hf_r := HC9.out.r.frozen 0
          simp only [List.getElem?_toArray, List.getElem?_cons_zero] at c_r
          clear hb
          gi_wp2_with fail
          have hr4 : Blk (w9.setCell ⟨w.heap.size + 1, 0, none⟩ (.bool true)) (w.heap.size + 1) 4 #[.bool true] := by
            have := HC9.out.r.set_ 0 (.bool true)
            simpa using this
          have hb4 : Below w.heap.size w (w9.setCell ⟨w.heap.size + 1, 0, none⟩ (.bool true)) := HC9.out.bel.setCell (p := ⟨w.heap.size + 1, 0, none⟩) (by simp) _
          have hk4 := (Below.heap_setCell w9 ⟨w.heap.size + 1, 0, none⟩ (.bool true) D (by simp only; omega)).trans HD9.out
          generalize (w9.setCell ⟨w.heap.size + 1, 0, none⟩ (.bool true)) = wE at *
          refine ⟨by simp, .inl ⟨_, _, rfl, run_takeDeferred hk4, ?_⟩⟩
          have hg1 := grownBy_putObj' wE D (.deferred none)
          have hr6 := hr4.grown hg1 (by simp; omega)
          have hb6 : Below w.heap.size w (wE.putObj D (.deferred none)) := hb4.grown hg1 hb4.size (fun k e => by cases e; omega)
          have c_r6 := hr6.cell 0
          simp only [List.getElem?_toArray, List.getElem?_cons_zero] at c_r6
          refine ⟨.bool true, ?_, rfl, hb6⟩
          simp [results, Tryd.f7, go_sem, c_r6]
    · exact absurd hH (by decide)

set_option maxRecDepth 100000 in
set_option maxHeartbeats 1600000 in
theorem law_holds_big (A : Option Addr) (n cap : Nat) (s : ByteArray) (h : 12 < n ∨ 20 < s.size) (w : World) (hF : Fit w) :
    Calls Tryd.prog 7 #[.slice A n cap, .string s] w fun e w' => e = .returned (.bool true) ∧ Below w.heap.size w w' := by
  have HF := Lib.hid hF
  clear hF
  by_cases hn : 12 < n
  · have hbig : 12 < (n : Int) := by omega
    clear h hn
    go_enter Tryd.func7, Tryd.ntmps7
    go_wp2_with fail
    have hba : Below w.heap.size w ((w.alloc (.cells #[.slice A n cap] 51)).alloc (.cells #[.bool false] 4)) := ((Below.refl _ _).alloc (Nat.le_refl _) _).alloc (by simp) _
    refine (works_any _ (HF.out.below hba)).mono ?_
    rintro e w4 ⟨rfl, hb⟩
    have hb4 : Below w.heap.size w w4 := hba.trans (hb.mono hba.size)
    have br : Blk w4 (w.heap.size + 1) 4 #[.bool false] := by
      have := (Blk.new (w.alloc (.cells #[.slice A n cap] 51)) 4 #[.bool false]).below hb (by simp)
      simpa using this
    have c_r := br.cell 0
    have hf_r := br.frozen 0
    simp only [List.getElem?_toArray, List.getElem?_cons_zero] at c_r
    have c_r2 := (br.set_ 0 (.bool true)).cell 0
    have HB4 := Lib.hid hb4
    clear hba hb hb4 br
    go_wp2
    simp at c_r2
    refine ⟨rfl, .bool true, ?_, rfl, HB4.out.setCell (p := ⟨w.heap.size + 1, 0, none⟩) (by simp) _⟩
    simp [results, Tryd.f7, go_sem, c_r2]
  · have hsmall : ¬ 12 < (n : Int) := by omega
    have hbig : 20 < (s.size : Int) := by omega
    clear h hn
    go_enter Tryd.func7, Tryd.ntmps7
    go_wp2_with fail
    have hba : Below w.heap.size w ((w.alloc (.cells #[.slice A n cap] 51)).alloc (.cells #[.bool false] 4)) := ((Below.refl _ _).alloc (Nat.le_refl _) _).alloc (by simp) _
    refine (works_any _ (HF.out.below hba)).mono ?_
    rintro e w4 ⟨rfl, hb⟩
    have hb4 : Below w.heap.size w w4 := hba.trans (hb.mono hba.size)
    have br : Blk w4 (w.heap.size + 1) 4 #[.bool false] := by
      have := (Blk.new (w.alloc (.cells #[.slice A n cap] 51)) 4 #[.bool false]).below hb (by simp)
      simpa using this
    have c_r := br.cell 0
    have hf_r := br.frozen 0
    simp only [List.getElem?_toArray, List.getElem?_cons_zero] at c_r
    have c_r2 := (br.set_ 0 (.bool true)).cell 0
    have HB4 := Lib.hid hb4
    clear hba hb hb4 br
    go_wp2
    simp at c_r2
    refine ⟨rfl, .bool true, ?_, rfl, HB4.out.setCell (p := ⟨w.heap.size + 1, 0, none⟩) (by simp) _⟩
    simp [results, Tryd.f7, go_sem, c_r2]

theorem law_holds (A : Option Addr) (cap : Nat) (xs : List Int) (hx : ∀ x ∈ xs, 0 ≤ x ∧ x < 4294967296) (s : ByteArray) (w : World) (hF : Fit w) (hA : Came A xs w) :
    Calls Tryd.prog 7 #[.slice A xs.length cap, .string s] w fun e w' => e = .returned (.bool true) ∧ Below w.heap.size w w' := by
  by_cases h : 12 < xs.length ∨ 20 < s.size
  · exact law_holds_big A xs.length cap s h w hF
  · exact callsIn_wide.1 (law_holds_small A cap xs hx (by omega) s (by omega) w hF hA)
end Go.Proofs.YtkkeimcicpkmbaaDoor
