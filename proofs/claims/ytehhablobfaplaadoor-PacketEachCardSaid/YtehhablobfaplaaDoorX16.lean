/- works of law 5 (laid by tools/gen/x16.py). -/
import Derived.Test.YtehhablobfaplaaDoorX15
namespace Go.Proofs.YtehhablobfaplaaDoor
open Go Go.RowKit Go.Shelf Go.Sort
attribute [local go_sem] Oper.semAt_some
attribute [local irreducible] wpQuiet

theorem num5_any (n : Int) (w : World) :
    Calls Tryd.prog 11 #[.int .i64 n] w fun e w' => e = .returned (.int .i64 n) ∧ w = w' := by
  go_enter Tryd.func11, Tryd.ntmps11
  go_wp2
  go_ret
  exact ⟨rfl, rfl⟩
theorem ByS.take5 {w : World} {p : Option Addr} {xs : List Int} (h : ByS w p xs) (k : Nat) : ByS w p (xs.take k) := fun h0 => by
  obtain ⟨b, o, e, hl, hcc⟩ := h (by rw [List.length_take] at h0; omega)
  refine ⟨b, o, e, hl, fun i hi => ?_⟩
  have hi' : i < xs.length := by rw [List.length_take] at hi; omega
  rw [hcc i hi']
  simp
theorem encRow5 (w : World) (g : Nat) (h : Blk w g 55 (sixA allE)) (hf : Fit3 w) : Calls Tryd.prog 9 #[.agg #[.int .i64 1, .slice (some ⟨g, 0, none⟩) 1 1]] w fun e w' => (∃ p c, e = .returned (.tuple #[.slice p 24 c, .int .i64 0]) ∧ 24 ≤ c ∧ ByS w' p [1, 2, 0, 0, 0, 0, 0, 0, 0, 0, 0, 0, 0, 0, 0, 0, 0, 0, 0, 0, 0, 0, 0, 16]) ∧ Below w.heap.size w w' := by
  have h0 : encNo ⟨1, [allE]⟩ = 0 := by decide +kernel
  refine (encode5_yes 1 (some ⟨g, 0, none⟩) 1 [allE] (by simp) (fun e he => by rw [List.mem_singleton.1 he]; exact ⟨by decide, by decide, by decide, by decide, by decide, by decide, by decide, by decide⟩) w (EntS.one h) hf h0).mono ?_
  rintro e w' ⟨⟨v, rfl, ho⟩, hb⟩
  have e1 : bytesD ⟨1, [allE]⟩ = [1, 2, 0, 0, 0, 0, 0, 0, 0, 0, 0, 0, 0, 0, 0, 0, 0, 0, 0, 0, 0, 0, 0, 16] := by decide +kernel
  rw [e1] at ho
  obtain ⟨p, c, rfl, hc, hy, _⟩ := OwnB.byS ho
  exact ⟨⟨p, c, rfl, hc, hy⟩, hb⟩
theorem convRow5 {w : World} {p : Option Addr} (h : ByS w p [1, 2, 0, 0, 0, 0, 0, 0, 0, 0, 0, 0, 0, 0, 0, 0, 0, 0, 0, 0, 0, 0, 0, 16]) (c : Nat) : (convert 27 9 (.slice p 6 c)).run Tryd.prog w = .ok (.string { data := #[1, 2, 0, 0, 0, 0] }) w := conv_bytes (h.take5 6) c
theorem decRow5 (w : World) (g : Nat) (h : Blk w g 5 #[.int .u8 2, .int .u8 2, .int .u8 0, .int .u8 0]) (hf : Fit3 w) : Calls Tryd.prog 14 #[.slice (some ⟨g, 0, none⟩) 4 4] w fun e w' => (∃ A c, e = .returned (.tuple #[.agg #[.int .i64 2, .slice A 0 c], .int .i64 0])) ∧ Below w.heap.size w w' := by
  have hd : decD [2, 2, 0, 0] = ⟨2, []⟩ := by decide +kernel
  have hk : chkNo [2, 2, 0, 0] = 0 := by decide +kernel
  have hy : ByS w (some ⟨g, 0, none⟩) [2, 2, 0, 0] := ByS.ofBlk (r := []) h
  refine (decode5_any (some ⟨g, 0, none⟩) 4 [2, 2, 0, 0] (by intro x hx; simp at hx; omega) (by simp) (by simp) w hy hf).mono ?_
  rintro e w' ⟨⟨v, rfl, ho⟩, hb⟩
  rw [hd] at ho ⊢
  rw [hk]
  obtain ⟨A, c, rfl, _⟩ := ownE_ents ho
  exact ⟨⟨A, c, rfl⟩, hb⟩
/-- Twenty-six entries of zeros, as they are made. -/
def zeroE : Ent := ⟨0, 0, 0, 0, 0, 0⟩
def zeros : List Ent := List.replicate 26 zeroE
theorem zerosCs : (madeCells #[.int .i64 0, .int .i64 0, .int .u32 0, .int .u32 0, .int .u32 0, .int .u32 0] 156).toList = entCs zeros := by kernel_rfl
theorem cutRow5 (w : World) (g : Nat) (h : w.ownsRow 0 55 6 (.slice (some ⟨g, 0, none⟩) 26 26) 26 (entCs zeros)) (hf : Fit3 w) : Calls Tryd.prog 18 #[.int .i64 2, .slice (some ⟨g, 0, none⟩) 26 26] w fun e w' => (∃ q c A c0 B c1, e = .returned (.tuple #[.slice (some ⟨q, 0, none⟩) 2 c, .int .i64 0]) ∧ q < w'.heap.size ∧ w'.cell? ⟨q, 1, none⟩ = some (.slice A 25 c0) ∧ w'.cell? ⟨q, 3, none⟩ = some (.slice B 1 c1)) ∧ Below w.heap.size w w' := by
  have hE : EntS w (some ⟨g, 0, none⟩) zeros := by
    obtain ⟨A, cap, e, _, hA⟩ := ownE_ents (l := zeros) h
    cases e
    exact hA
  have h0 : mayNo 2 1 zeros = 0 := by decide +kernel
  have hc : cutsE zeros = [List.replicate 25 zeroE, [zeroE]] := by decide +kernel
  refine (cutP_yes 2 (some ⟨g, 0, none⟩) 26 zeros (by simp [zeros]) (by simp [zeros]) (fun e he => by rw [(List.mem_replicate.1 he).2]; exact ⟨by decide, by decide, by decide, by decide, by decide, by decide, by decide, by decide⟩) w hE hf h0).mono ?_
  rintro e w' ⟨⟨v, vs, rfl, hd⟩, hb⟩
  rw [hc] at hd
  match vs, hd.len with
  | [v0, v1], _ =>
    obtain ⟨A, c0, rfl, _⟩ := ownE_ents (hd.ent 0 (by simp) (by simp))
    obtain ⟨B, c1, rfl, _⟩ := ownE_ents (hd.ent 1 (by simp) (by simp))
    have hrow := hd.row
    obtain ⟨q, c, rfl⟩ := ownsRow_succ (k := 1) hrow
    refine ⟨⟨q, c, A, c0, B, c1, rfl, (hrow.lt q rfl).2, ?_, ?_⟩, hb⟩
    · rw [hrow.cellAt 1 (by simp)]
      rfl
    · rw [hrow.cellAt 3 (by simp)]
      rfl

theorem chkRow5_0 (w : World) (g : Nat) (h : Blk w g 5 #[.int .u8 1, .int .u8 2, .int .u8 0]) (hf : Fit3 w) : Calls Tryd.prog 17 #[.slice (some ⟨g, 0, none⟩) 3 3] w fun e w' => e = .returned (.int .i64 150) ∧ Below w.heap.size w w' := by
  have hk : chkNo [1, 2, 0] = 150 := by decide +kernel
  have := check5_any (some ⟨g, 0, none⟩) 3 [1, 2, 0] (by intro x hx; simp at hx; omega) (by simp) (by simp) w (ByS.ofBlk (r := []) h) hf
  rwa [hk] at this
theorem chkRow5_1 (w : World) (g : Nat) (h : Blk w g 5 #[.int .u8 1, .int .u8 2, .int .u8 0, .int .u8 0, .int .u8 5]) (hf : Fit3 w) : Calls Tryd.prog 17 #[.slice (some ⟨g, 0, none⟩) 5 5] w fun e w' => e = .returned (.int .i64 151) ∧ Below w.heap.size w w' := by
  have hk : chkNo [1, 2, 0, 0, 5] = 151 := by decide +kernel
  have := check5_any (some ⟨g, 0, none⟩) 5 [1, 2, 0, 0, 5] (by intro x hx; simp at hx; omega) (by simp) (by simp) w (ByS.ofBlk (r := []) h) hf
  rwa [hk] at this
theorem chkRow5_2 (w : World) (g : Nat) (h : Blk w g 5 #[.int .u8 1, .int .u8 1, .int .u8 0, .int .u8 0]) (hf : Fit3 w) : Calls Tryd.prog 17 #[.slice (some ⟨g, 0, none⟩) 4 4] w fun e w' => e = .returned (.int .i64 152) ∧ Below w.heap.size w w' := by
  have hk : chkNo [1, 1, 0, 0] = 152 := by decide +kernel
  have := check5_any (some ⟨g, 0, none⟩) 4 [1, 1, 0, 0] (by intro x hx; simp at hx; omega) (by simp) (by simp) w (ByS.ofBlk (r := []) h) hf
  rwa [hk] at this
theorem chkRow5_3 (w : World) (g : Nat) (h : Blk w g 5 #[.int .u8 3, .int .u8 2, .int .u8 0, .int .u8 0]) (hf : Fit3 w) : Calls Tryd.prog 17 #[.slice (some ⟨g, 0, none⟩) 4 4] w fun e w' => e = .returned (.int .i64 153) ∧ Below w.heap.size w w' := by
  have hk : chkNo [3, 2, 0, 0] = 153 := by decide +kernel
  have := check5_any (some ⟨g, 0, none⟩) 4 [3, 2, 0, 0] (by intro x hx; simp at hx; omega) (by simp) (by simp) w (ByS.ofBlk (r := []) h) hf
  rwa [hk] at this
theorem chkRow5_4 (w : World) (g : Nat) (h : Blk w g 5 #[.int .u8 1, .int .u8 2, .int .u8 0, .int .u8 1]) (hf : Fit3 w) : Calls Tryd.prog 17 #[.slice (some ⟨g, 0, none⟩) 4 4] w fun e w' => e = .returned (.int .i64 154) ∧ Below w.heap.size w w' := by
  have hk : chkNo [1, 2, 0, 1] = 154 := by decide +kernel
  have := check5_any (some ⟨g, 0, none⟩) 4 [1, 2, 0, 1] (by intro x hx; simp at hx; omega) (by simp) (by simp) w (ByS.ofBlk (r := []) h) hf
  rwa [hk] at this

set_option maxRecDepth 100000 in
set_option maxHeartbeats 6400000 in
theorem works5_any  (w : World) (hf : Fit3 w) :
    Calls Tryd.prog 8 #[] w fun e w' => e = .returned (.bool true) ∧ Below w.heap.size w w' := by
  have HF := Lib.hid hf
  clear hf
  obtain ⟨i0, hi, hz0, hz1, hz2⟩ := info_parts infoEnt
  have HI := Lib.hid (And.intro hi (And.intro hz0 (And.intro hz1 hz2)))
  clear hi hz0 hz1 hz2
  go_enter Tryd.func8, Tryd.ntmps8
  go_wp2_with fail
  have hv := Below.refl w.heap.size w
  have hv := hv.alloc hv.size (.cells #[.int .i64 0, .int .i64 0, .int .u32 0, .int .u32 0, .int .u32 0, .int .u32 16] 55)
  have xTE : Blk (w.alloc (.cells #[.int .i64 0, .int .i64 0, .int .u32 0, .int .u32 0, .int .u32 0, .int .u32 16] 55)) (w.heap.size) 55 #[.int .i64 0, .int .i64 0, .int .u32 0, .int .u32 0, .int .u32 0, .int .u32 16] := by
    have := Blk.new w 55 #[.int .i64 0, .int .i64 0, .int .u32 0, .int .u32 0, .int .u32 0, .int .u32 16]
    simpa using this
  generalize hvv : (w.alloc (.cells #[.int .i64 0, .int .i64 0, .int .u32 0, .int .u32 0, .int .u32 0, .int .u32 16] 55)) = v1 at *
  clear hvv
  have HV := Lib.hid hv
  have TE := Lib.hid xTE
  clear hv xTE
  refine (encRow5 _ _ TE.out (HF.out.below HV.out)).mono ?_
  rintro e w1 ⟨⟨p1, c1, rfl, hc1, hy1⟩, hb⟩
  have hv := HV.out.trans (hb.mono HV.out.size)
  have xTE := TE.out.below hb TE.out.lt
  clear hb HV TE
  have HV := Lib.hid hv
  have TE := Lib.hid xTE
  clear hv xTE
  have HY := Lib.hid hy1
  clear hy1
  go_wp2_with fail
  have hcv := convRow5 HY.out c1
  have hcc : (6 : Int) ≤ (c1 : Int) := by omega
  have hcd : 6 ≤ c1 := by omega
  refine (num5_any _ _).mono ?_
  rintro e wn2 ⟨rfl, rfl⟩
  go_wp2_with fail
  clear hcv hcc hcd HY hc1
  have hv := HV.out
  have hv := hv.alloc hv.size (.cells #[.int .u8 1, .int .u8 2, .int .u8 0] 5)
  have hv := hv.alloc hv.size (.cells #[.int .u8 1, .int .u8 2, .int .u8 0, .int .u8 0, .int .u8 5] 5)
  have hv := hv.alloc hv.size (.cells #[.int .u8 1, .int .u8 1, .int .u8 0, .int .u8 0] 5)
  have hv := hv.alloc hv.size (.cells #[.int .u8 3, .int .u8 2, .int .u8 0, .int .u8 0] 5)
  have hv := hv.alloc hv.size (.cells #[.int .u8 1, .int .u8 2, .int .u8 0, .int .u8 1] 5)
  have hv := hv.alloc hv.size (.cells #[.slice (some ⟨w1.heap.size, 0, none⟩) 3 3, .slice (some ⟨w1.heap.size + 1, 0, none⟩) 5 5, .slice (some ⟨w1.heap.size + 1 + 1, 0, none⟩) 4 4, .slice (some ⟨w1.heap.size + 1 + 1 + 1, 0, none⟩) 4 4, .slice (some ⟨w1.heap.size + 1 + 1 + 1 + 1, 0, none⟩) 4 4] 27)
  have xTE := ((((((TE.out).alloc (.cells #[.int .u8 1, .int .u8 2, .int .u8 0] 5)).alloc (.cells #[.int .u8 1, .int .u8 2, .int .u8 0, .int .u8 0, .int .u8 5] 5)).alloc (.cells #[.int .u8 1, .int .u8 1, .int .u8 0, .int .u8 0] 5)).alloc (.cells #[.int .u8 3, .int .u8 2, .int .u8 0, .int .u8 0] 5)).alloc (.cells #[.int .u8 1, .int .u8 2, .int .u8 0, .int .u8 1] 5)).alloc (.cells #[.slice (some ⟨w1.heap.size, 0, none⟩) 3 3, .slice (some ⟨w1.heap.size + 1, 0, none⟩) 5 5, .slice (some ⟨w1.heap.size + 1 + 1, 0, none⟩) 4 4, .slice (some ⟨w1.heap.size + 1 + 1 + 1, 0, none⟩) 4 4, .slice (some ⟨w1.heap.size + 1 + 1 + 1 + 1, 0, none⟩) 4 4] 27)
  have xT0 : Blk ((((((w1.alloc (.cells #[.int .u8 1, .int .u8 2, .int .u8 0] 5)).alloc (.cells #[.int .u8 1, .int .u8 2, .int .u8 0, .int .u8 0, .int .u8 5] 5)).alloc (.cells #[.int .u8 1, .int .u8 1, .int .u8 0, .int .u8 0] 5)).alloc (.cells #[.int .u8 3, .int .u8 2, .int .u8 0, .int .u8 0] 5)).alloc (.cells #[.int .u8 1, .int .u8 2, .int .u8 0, .int .u8 1] 5)).alloc (.cells #[.slice (some ⟨w1.heap.size, 0, none⟩) 3 3, .slice (some ⟨w1.heap.size + 1, 0, none⟩) 5 5, .slice (some ⟨w1.heap.size + 1 + 1, 0, none⟩) 4 4, .slice (some ⟨w1.heap.size + 1 + 1 + 1, 0, none⟩) 4 4, .slice (some ⟨w1.heap.size + 1 + 1 + 1 + 1, 0, none⟩) 4 4] 27)) (w1.heap.size) 5 #[.int .u8 1, .int .u8 2, .int .u8 0] := by
    have := (((((Blk.new w1 5 #[.int .u8 1, .int .u8 2, .int .u8 0]).alloc (.cells #[.int .u8 1, .int .u8 2, .int .u8 0, .int .u8 0, .int .u8 5] 5)).alloc (.cells #[.int .u8 1, .int .u8 1, .int .u8 0, .int .u8 0] 5)).alloc (.cells #[.int .u8 3, .int .u8 2, .int .u8 0, .int .u8 0] 5)).alloc (.cells #[.int .u8 1, .int .u8 2, .int .u8 0, .int .u8 1] 5)).alloc (.cells #[.slice (some ⟨w1.heap.size, 0, none⟩) 3 3, .slice (some ⟨w1.heap.size + 1, 0, none⟩) 5 5, .slice (some ⟨w1.heap.size + 1 + 1, 0, none⟩) 4 4, .slice (some ⟨w1.heap.size + 1 + 1 + 1, 0, none⟩) 4 4, .slice (some ⟨w1.heap.size + 1 + 1 + 1 + 1, 0, none⟩) 4 4] 27)
    simpa using this
  have xT1 : Blk ((((((w1.alloc (.cells #[.int .u8 1, .int .u8 2, .int .u8 0] 5)).alloc (.cells #[.int .u8 1, .int .u8 2, .int .u8 0, .int .u8 0, .int .u8 5] 5)).alloc (.cells #[.int .u8 1, .int .u8 1, .int .u8 0, .int .u8 0] 5)).alloc (.cells #[.int .u8 3, .int .u8 2, .int .u8 0, .int .u8 0] 5)).alloc (.cells #[.int .u8 1, .int .u8 2, .int .u8 0, .int .u8 1] 5)).alloc (.cells #[.slice (some ⟨w1.heap.size, 0, none⟩) 3 3, .slice (some ⟨w1.heap.size + 1, 0, none⟩) 5 5, .slice (some ⟨w1.heap.size + 1 + 1, 0, none⟩) 4 4, .slice (some ⟨w1.heap.size + 1 + 1 + 1, 0, none⟩) 4 4, .slice (some ⟨w1.heap.size + 1 + 1 + 1 + 1, 0, none⟩) 4 4] 27)) (w1.heap.size + 1) 5 #[.int .u8 1, .int .u8 2, .int .u8 0, .int .u8 0, .int .u8 5] := by
    have := ((((Blk.new (w1.alloc (.cells #[.int .u8 1, .int .u8 2, .int .u8 0] 5)) 5 #[.int .u8 1, .int .u8 2, .int .u8 0, .int .u8 0, .int .u8 5]).alloc (.cells #[.int .u8 1, .int .u8 1, .int .u8 0, .int .u8 0] 5)).alloc (.cells #[.int .u8 3, .int .u8 2, .int .u8 0, .int .u8 0] 5)).alloc (.cells #[.int .u8 1, .int .u8 2, .int .u8 0, .int .u8 1] 5)).alloc (.cells #[.slice (some ⟨w1.heap.size, 0, none⟩) 3 3, .slice (some ⟨w1.heap.size + 1, 0, none⟩) 5 5, .slice (some ⟨w1.heap.size + 1 + 1, 0, none⟩) 4 4, .slice (some ⟨w1.heap.size + 1 + 1 + 1, 0, none⟩) 4 4, .slice (some ⟨w1.heap.size + 1 + 1 + 1 + 1, 0, none⟩) 4 4] 27)
    simpa using this
  have xT2 : Blk ((((((w1.alloc (.cells #[.int .u8 1, .int .u8 2, .int .u8 0] 5)).alloc (.cells #[.int .u8 1, .int .u8 2, .int .u8 0, .int .u8 0, .int .u8 5] 5)).alloc (.cells #[.int .u8 1, .int .u8 1, .int .u8 0, .int .u8 0] 5)).alloc (.cells #[.int .u8 3, .int .u8 2, .int .u8 0, .int .u8 0] 5)).alloc (.cells #[.int .u8 1, .int .u8 2, .int .u8 0, .int .u8 1] 5)).alloc (.cells #[.slice (some ⟨w1.heap.size, 0, none⟩) 3 3, .slice (some ⟨w1.heap.size + 1, 0, none⟩) 5 5, .slice (some ⟨w1.heap.size + 1 + 1, 0, none⟩) 4 4, .slice (some ⟨w1.heap.size + 1 + 1 + 1, 0, none⟩) 4 4, .slice (some ⟨w1.heap.size + 1 + 1 + 1 + 1, 0, none⟩) 4 4] 27)) (w1.heap.size + 1 + 1) 5 #[.int .u8 1, .int .u8 1, .int .u8 0, .int .u8 0] := by
    have := (((Blk.new ((w1.alloc (.cells #[.int .u8 1, .int .u8 2, .int .u8 0] 5)).alloc (.cells #[.int .u8 1, .int .u8 2, .int .u8 0, .int .u8 0, .int .u8 5] 5)) 5 #[.int .u8 1, .int .u8 1, .int .u8 0, .int .u8 0]).alloc (.cells #[.int .u8 3, .int .u8 2, .int .u8 0, .int .u8 0] 5)).alloc (.cells #[.int .u8 1, .int .u8 2, .int .u8 0, .int .u8 1] 5)).alloc (.cells #[.slice (some ⟨w1.heap.size, 0, none⟩) 3 3, .slice (some ⟨w1.heap.size + 1, 0, none⟩) 5 5, .slice (some ⟨w1.heap.size + 1 + 1, 0, none⟩) 4 4, .slice (some ⟨w1.heap.size + 1 + 1 + 1, 0, none⟩) 4 4, .slice (some ⟨w1.heap.size + 1 + 1 + 1 + 1, 0, none⟩) 4 4] 27)
    simpa using this
  have xT3 : Blk ((((((w1.alloc (.cells #[.int .u8 1, .int .u8 2, .int .u8 0] 5)).alloc (.cells #[.int .u8 1, .int .u8 2, .int .u8 0, .int .u8 0, .int .u8 5] 5)).alloc (.cells #[.int .u8 1, .int .u8 1, .int .u8 0, .int .u8 0] 5)).alloc (.cells #[.int .u8 3, .int .u8 2, .int .u8 0, .int .u8 0] 5)).alloc (.cells #[.int .u8 1, .int .u8 2, .int .u8 0, .int .u8 1] 5)).alloc (.cells #[.slice (some ⟨w1.heap.size, 0, none⟩) 3 3, .slice (some ⟨w1.heap.size + 1, 0, none⟩) 5 5, .slice (some ⟨w1.heap.size + 1 + 1, 0, none⟩) 4 4, .slice (some ⟨w1.heap.size + 1 + 1 + 1, 0, none⟩) 4 4, .slice (some ⟨w1.heap.size + 1 + 1 + 1 + 1, 0, none⟩) 4 4] 27)) (w1.heap.size + 1 + 1 + 1) 5 #[.int .u8 3, .int .u8 2, .int .u8 0, .int .u8 0] := by
    have := ((Blk.new (((w1.alloc (.cells #[.int .u8 1, .int .u8 2, .int .u8 0] 5)).alloc (.cells #[.int .u8 1, .int .u8 2, .int .u8 0, .int .u8 0, .int .u8 5] 5)).alloc (.cells #[.int .u8 1, .int .u8 1, .int .u8 0, .int .u8 0] 5)) 5 #[.int .u8 3, .int .u8 2, .int .u8 0, .int .u8 0]).alloc (.cells #[.int .u8 1, .int .u8 2, .int .u8 0, .int .u8 1] 5)).alloc (.cells #[.slice (some ⟨w1.heap.size, 0, none⟩) 3 3, .slice (some ⟨w1.heap.size + 1, 0, none⟩) 5 5, .slice (some ⟨w1.heap.size + 1 + 1, 0, none⟩) 4 4, .slice (some ⟨w1.heap.size + 1 + 1 + 1, 0, none⟩) 4 4, .slice (some ⟨w1.heap.size + 1 + 1 + 1 + 1, 0, none⟩) 4 4] 27)
    simpa using this
  have xT4 : Blk ((((((w1.alloc (.cells #[.int .u8 1, .int .u8 2, .int .u8 0] 5)).alloc (.cells #[.int .u8 1, .int .u8 2, .int .u8 0, .int .u8 0, .int .u8 5] 5)).alloc (.cells #[.int .u8 1, .int .u8 1, .int .u8 0, .int .u8 0] 5)).alloc (.cells #[.int .u8 3, .int .u8 2, .int .u8 0, .int .u8 0] 5)).alloc (.cells #[.int .u8 1, .int .u8 2, .int .u8 0, .int .u8 1] 5)).alloc (.cells #[.slice (some ⟨w1.heap.size, 0, none⟩) 3 3, .slice (some ⟨w1.heap.size + 1, 0, none⟩) 5 5, .slice (some ⟨w1.heap.size + 1 + 1, 0, none⟩) 4 4, .slice (some ⟨w1.heap.size + 1 + 1 + 1, 0, none⟩) 4 4, .slice (some ⟨w1.heap.size + 1 + 1 + 1 + 1, 0, none⟩) 4 4] 27)) (w1.heap.size + 1 + 1 + 1 + 1) 5 #[.int .u8 1, .int .u8 2, .int .u8 0, .int .u8 1] := by
    have := (Blk.new ((((w1.alloc (.cells #[.int .u8 1, .int .u8 2, .int .u8 0] 5)).alloc (.cells #[.int .u8 1, .int .u8 2, .int .u8 0, .int .u8 0, .int .u8 5] 5)).alloc (.cells #[.int .u8 1, .int .u8 1, .int .u8 0, .int .u8 0] 5)).alloc (.cells #[.int .u8 3, .int .u8 2, .int .u8 0, .int .u8 0] 5)) 5 #[.int .u8 1, .int .u8 2, .int .u8 0, .int .u8 1]).alloc (.cells #[.slice (some ⟨w1.heap.size, 0, none⟩) 3 3, .slice (some ⟨w1.heap.size + 1, 0, none⟩) 5 5, .slice (some ⟨w1.heap.size + 1 + 1, 0, none⟩) 4 4, .slice (some ⟨w1.heap.size + 1 + 1 + 1, 0, none⟩) 4 4, .slice (some ⟨w1.heap.size + 1 + 1 + 1 + 1, 0, none⟩) 4 4] 27)
    simpa using this
  have xTL : Blk ((((((w1.alloc (.cells #[.int .u8 1, .int .u8 2, .int .u8 0] 5)).alloc (.cells #[.int .u8 1, .int .u8 2, .int .u8 0, .int .u8 0, .int .u8 5] 5)).alloc (.cells #[.int .u8 1, .int .u8 1, .int .u8 0, .int .u8 0] 5)).alloc (.cells #[.int .u8 3, .int .u8 2, .int .u8 0, .int .u8 0] 5)).alloc (.cells #[.int .u8 1, .int .u8 2, .int .u8 0, .int .u8 1] 5)).alloc (.cells #[.slice (some ⟨w1.heap.size, 0, none⟩) 3 3, .slice (some ⟨w1.heap.size + 1, 0, none⟩) 5 5, .slice (some ⟨w1.heap.size + 1 + 1, 0, none⟩) 4 4, .slice (some ⟨w1.heap.size + 1 + 1 + 1, 0, none⟩) 4 4, .slice (some ⟨w1.heap.size + 1 + 1 + 1 + 1, 0, none⟩) 4 4] 27)) (w1.heap.size + 1 + 1 + 1 + 1 + 1) 27 #[.slice (some ⟨w1.heap.size, 0, none⟩) 3 3, .slice (some ⟨w1.heap.size + 1, 0, none⟩) 5 5, .slice (some ⟨w1.heap.size + 1 + 1, 0, none⟩) 4 4, .slice (some ⟨w1.heap.size + 1 + 1 + 1, 0, none⟩) 4 4, .slice (some ⟨w1.heap.size + 1 + 1 + 1 + 1, 0, none⟩) 4 4] := by
    have := Blk.new (((((w1.alloc (.cells #[.int .u8 1, .int .u8 2, .int .u8 0] 5)).alloc (.cells #[.int .u8 1, .int .u8 2, .int .u8 0, .int .u8 0, .int .u8 5] 5)).alloc (.cells #[.int .u8 1, .int .u8 1, .int .u8 0, .int .u8 0] 5)).alloc (.cells #[.int .u8 3, .int .u8 2, .int .u8 0, .int .u8 0] 5)).alloc (.cells #[.int .u8 1, .int .u8 2, .int .u8 0, .int .u8 1] 5)) 27 #[.slice (some ⟨w1.heap.size, 0, none⟩) 3 3, .slice (some ⟨w1.heap.size + 1, 0, none⟩) 5 5, .slice (some ⟨w1.heap.size + 1 + 1, 0, none⟩) 4 4, .slice (some ⟨w1.heap.size + 1 + 1 + 1, 0, none⟩) 4 4, .slice (some ⟨w1.heap.size + 1 + 1 + 1 + 1, 0, none⟩) 4 4]
    simpa using this
  generalize hvv : ((((((w1.alloc (.cells #[.int .u8 1, .int .u8 2, .int .u8 0] 5)).alloc (.cells #[.int .u8 1, .int .u8 2, .int .u8 0, .int .u8 0, .int .u8 5] 5)).alloc (.cells #[.int .u8 1, .int .u8 1, .int .u8 0, .int .u8 0] 5)).alloc (.cells #[.int .u8 3, .int .u8 2, .int .u8 0, .int .u8 0] 5)).alloc (.cells #[.int .u8 1, .int .u8 2, .int .u8 0, .int .u8 1] 5)).alloc (.cells #[.slice (some ⟨w1.heap.size, 0, none⟩) 3 3, .slice (some ⟨w1.heap.size + 1, 0, none⟩) 5 5, .slice (some ⟨w1.heap.size + 1 + 1, 0, none⟩) 4 4, .slice (some ⟨w1.heap.size + 1 + 1 + 1, 0, none⟩) 4 4, .slice (some ⟨w1.heap.size + 1 + 1 + 1 + 1, 0, none⟩) 4 4] 27)) = v2 at *
  clear hvv
  generalize w1.heap.size = gT0 at *
  clear HV TE
  have HV := Lib.hid hv
  have TE := Lib.hid xTE
  have T0 := Lib.hid xT0
  have T1 := Lib.hid xT1
  have T2 := Lib.hid xT2
  have T3 := Lib.hid xT3
  have T4 := Lib.hid xT4
  have TL := Lib.hid xTL
  clear hv xTE xT0 xT1 xT2 xT3 xT4 xTL
  clear TE
  go_loopw [4] (fun i wr => ∃ j : Nat, j ≤ 5 ∧ i = .int .i64 j ∧ Hid (Blk wr (gT0) 5 #[.int .u8 1, .int .u8 2, .int .u8 0]) ∧ Hid (Blk wr (gT0 + 1) 5 #[.int .u8 1, .int .u8 2, .int .u8 0, .int .u8 0, .int .u8 5]) ∧ Hid (Blk wr (gT0 + 1 + 1) 5 #[.int .u8 1, .int .u8 1, .int .u8 0, .int .u8 0]) ∧ Hid (Blk wr (gT0 + 1 + 1 + 1) 5 #[.int .u8 3, .int .u8 2, .int .u8 0, .int .u8 0]) ∧ Hid (Blk wr (gT0 + 1 + 1 + 1 + 1) 5 #[.int .u8 1, .int .u8 2, .int .u8 0, .int .u8 1]) ∧ Hid (Blk wr (gT0 + 1 + 1 + 1 + 1 + 1) 27 #[.slice (some ⟨gT0, 0, none⟩) 3 3, .slice (some ⟨gT0 + 1, 0, none⟩) 5 5, .slice (some ⟨gT0 + 1 + 1, 0, none⟩) 4 4, .slice (some ⟨gT0 + 1 + 1 + 1, 0, none⟩) 4 4, .slice (some ⟨gT0 + 1 + 1 + 1 + 1, 0, none⟩) 4 4]) ∧ Hid (Below w.heap.size w wr)) (fun i _ => 5 - (intOf i).toNat)
  case atStart => exact ⟨0, by omega, rfl, T0, T1, T2, T3, T4, TL, HV⟩
  case round =>
    clear T0 T1 T2 T3 T4 TL HV
    obtain ⟨j, hj, rfl, T0, T1, T2, T3, T4, TL, HV⟩ := hrel
    have hway : j = 0 ∨ j = 1 ∨ j = 2 ∨ j = 3 ∨ j = 4 ∨ j = 5 := by omega
    clear hj
    rcases hway with rfl | rfl | rfl | rfl | rfl | rfl
    · skip
      have lTL := TL.out.lt
      have kTL0 := TL.out.cell 0
      have kTL1 := TL.out.cell 1
      have kTL2 := TL.out.cell 2
      have kTL3 := TL.out.cell 3
      have kTL4 := TL.out.cell 4
      simp only [List.getElem?_toArray, List.getElem?_cons_zero, List.getElem?_cons_succ] at kTL0 kTL1 kTL2 kTL3 kTL4
      go_wp2_with fail
      refine (chkRow5_0 _ _ T0.out (HF.out.below HV.out)).mono ?_
      rintro e w3 ⟨rfl, hb⟩
      clear lTL kTL0 kTL1 kTL2 kTL3 kTL4
      have hv := HV.out.trans (hb.mono HV.out.size)
      have xT0 := T0.out.below hb T0.out.lt
      have xT1 := T1.out.below hb T1.out.lt
      have xT2 := T2.out.below hb T2.out.lt
      have xT3 := T3.out.below hb T3.out.lt
      have xT4 := T4.out.below hb T4.out.lt
      have xTL := TL.out.below hb TL.out.lt
      clear hb HV T0 T1 T2 T3 T4 TL
      have HV := Lib.hid hv
      have T0 := Lib.hid xT0
      have T1 := Lib.hid xT1
      have T2 := Lib.hid xT2
      have T3 := Lib.hid xT3
      have T4 := Lib.hid xT4
      have TL := Lib.hid xTL
      clear hv xT0 xT1 xT2 xT3 xT4 xTL
      go_wp2_with fail
      refine (num5_any _ _).mono ?_
      rintro e wn4 ⟨rfl, rfl⟩
      go_wp2_with fail
      exact ⟨⟨1, by omega, by simp, T0, T1, T2, T3, T4, TL, HV⟩, by simp [intOf]⟩
    · skip
      have lTL := TL.out.lt
      have kTL0 := TL.out.cell 0
      have kTL1 := TL.out.cell 1
      have kTL2 := TL.out.cell 2
      have kTL3 := TL.out.cell 3
      have kTL4 := TL.out.cell 4
      simp only [List.getElem?_toArray, List.getElem?_cons_zero, List.getElem?_cons_succ] at kTL0 kTL1 kTL2 kTL3 kTL4
      go_wp2_with fail
      refine (chkRow5_1 _ _ T1.out (HF.out.below HV.out)).mono ?_
      rintro e w5 ⟨rfl, hb⟩
      clear lTL kTL0 kTL1 kTL2 kTL3 kTL4
      have hv := HV.out.trans (hb.mono HV.out.size)
      have xT0 := T0.out.below hb T0.out.lt
      have xT1 := T1.out.below hb T1.out.lt
      have xT2 := T2.out.below hb T2.out.lt
      have xT3 := T3.out.below hb T3.out.lt
      have xT4 := T4.out.below hb T4.out.lt
      have xTL := TL.out.below hb TL.out.lt
      clear hb HV T0 T1 T2 T3 T4 TL
      have HV := Lib.hid hv
      have T0 := Lib.hid xT0
      have T1 := Lib.hid xT1
      have T2 := Lib.hid xT2
      have T3 := Lib.hid xT3
      have T4 := Lib.hid xT4
      have TL := Lib.hid xTL
      clear hv xT0 xT1 xT2 xT3 xT4 xTL
      go_wp2_with fail
      refine (num5_any _ _).mono ?_
      rintro e wn6 ⟨rfl, rfl⟩
      go_wp2_with fail
      exact ⟨⟨2, by omega, by simp, T0, T1, T2, T3, T4, TL, HV⟩, by simp [intOf]⟩
    · skip
      have lTL := TL.out.lt
      have kTL0 := TL.out.cell 0
      have kTL1 := TL.out.cell 1
      have kTL2 := TL.out.cell 2
      have kTL3 := TL.out.cell 3
      have kTL4 := TL.out.cell 4
      simp only [List.getElem?_toArray, List.getElem?_cons_zero, List.getElem?_cons_succ] at kTL0 kTL1 kTL2 kTL3 kTL4
      go_wp2_with fail
      refine (chkRow5_2 _ _ T2.out (HF.out.below HV.out)).mono ?_
      rintro e w7 ⟨rfl, hb⟩
      clear lTL kTL0 kTL1 kTL2 kTL3 kTL4
      have hv := HV.out.trans (hb.mono HV.out.size)
      have xT0 := T0.out.below hb T0.out.lt
      have xT1 := T1.out.below hb T1.out.lt
      have xT2 := T2.out.below hb T2.out.lt
      have xT3 := T3.out.below hb T3.out.lt
      have xT4 := T4.out.below hb T4.out.lt
      have xTL := TL.out.below hb TL.out.lt
      clear hb HV T0 T1 T2 T3 T4 TL
      have HV := Lib.hid hv
      have T0 := Lib.hid xT0
      have T1 := Lib.hid xT1
      have T2 := Lib.hid xT2
      have T3 := Lib.hid xT3
      have T4 := Lib.hid xT4
      have TL := Lib.hid xTL
      clear hv xT0 xT1 xT2 xT3 xT4 xTL
      go_wp2_with fail
      refine (num5_any _ _).mono ?_
      rintro e wn8 ⟨rfl, rfl⟩
      go_wp2_with fail
      exact ⟨⟨3, by omega, by simp, T0, T1, T2, T3, T4, TL, HV⟩, by simp [intOf]⟩
    · skip
      have lTL := TL.out.lt
      have kTL0 := TL.out.cell 0
      have kTL1 := TL.out.cell 1
      have kTL2 := TL.out.cell 2
      have kTL3 := TL.out.cell 3
      have kTL4 := TL.out.cell 4
      simp only [List.getElem?_toArray, List.getElem?_cons_zero, List.getElem?_cons_succ] at kTL0 kTL1 kTL2 kTL3 kTL4
      go_wp2_with fail
      refine (chkRow5_3 _ _ T3.out (HF.out.below HV.out)).mono ?_
      rintro e w9 ⟨rfl, hb⟩
      clear lTL kTL0 kTL1 kTL2 kTL3 kTL4
      have hv := HV.out.trans (hb.mono HV.out.size)
      have xT0 := T0.out.below hb T0.out.lt
      have xT1 := T1.out.below hb T1.out.lt
      have xT2 := T2.out.below hb T2.out.lt
      have xT3 := T3.out.below hb T3.out.lt
      have xT4 := T4.out.below hb T4.out.lt
      have xTL := TL.out.below hb TL.out.lt
      clear hb HV T0 T1 T2 T3 T4 TL
      have HV := Lib.hid hv
      have T0 := Lib.hid xT0
      have T1 := Lib.hid xT1
      have T2 := Lib.hid xT2
      have T3 := Lib.hid xT3
      have T4 := Lib.hid xT4
      have TL := Lib.hid xTL
      clear hv xT0 xT1 xT2 xT3 xT4 xTL
      go_wp2_with fail
      refine (num5_any _ _).mono ?_
      rintro e wn10 ⟨rfl, rfl⟩
      go_wp2_with fail
      exact ⟨⟨4, by omega, by simp, T0, T1, T2, T3, T4, TL, HV⟩, by simp [intOf]⟩
    · skip
      have lTL := TL.out.lt
      have kTL0 := TL.out.cell 0
      have kTL1 := TL.out.cell 1
      have kTL2 := TL.out.cell 2
      have kTL3 := TL.out.cell 3
      have kTL4 := TL.out.cell 4
      simp only [List.getElem?_toArray, List.getElem?_cons_zero, List.getElem?_cons_succ] at kTL0 kTL1 kTL2 kTL3 kTL4
      go_wp2_with fail
      refine (chkRow5_4 _ _ T4.out (HF.out.below HV.out)).mono ?_
      rintro e w11 ⟨rfl, hb⟩
      clear lTL kTL0 kTL1 kTL2 kTL3 kTL4
      have hv := HV.out.trans (hb.mono HV.out.size)
      have xT0 := T0.out.below hb T0.out.lt
      have xT1 := T1.out.below hb T1.out.lt
      have xT2 := T2.out.below hb T2.out.lt
      have xT3 := T3.out.below hb T3.out.lt
      have xT4 := T4.out.below hb T4.out.lt
      have xTL := TL.out.below hb TL.out.lt
      clear hb HV T0 T1 T2 T3 T4 TL
      have HV := Lib.hid hv
      have T0 := Lib.hid xT0
      have T1 := Lib.hid xT1
      have T2 := Lib.hid xT2
      have T3 := Lib.hid xT3
      have T4 := Lib.hid xT4
      have TL := Lib.hid xTL
      clear hv xT0 xT1 xT2 xT3 xT4 xTL
      go_wp2_with fail
      refine (num5_any _ _).mono ?_
      rintro e wn12 ⟨rfl, rfl⟩
      go_wp2_with fail
      exact ⟨⟨5, by omega, by simp, T0, T1, T2, T3, T4, TL, HV⟩, by simp [intOf]⟩
    · skip
      go_wp2_with fail
      clear T0 T1 T2 T3 T4 TL
      have hv := HV.out
      have hv := hv.alloc hv.size (.cells #[.int .u8 2, .int .u8 2, .int .u8 0, .int .u8 0] 5)
      have xTD : Blk (wr.alloc (.cells #[.int .u8 2, .int .u8 2, .int .u8 0, .int .u8 0] 5)) (wr.heap.size) 5 #[.int .u8 2, .int .u8 2, .int .u8 0, .int .u8 0] := by
        have := Blk.new wr 5 #[.int .u8 2, .int .u8 2, .int .u8 0, .int .u8 0]
        simpa using this
      generalize hvv : (wr.alloc (.cells #[.int .u8 2, .int .u8 2, .int .u8 0, .int .u8 0] 5)) = v3 at *
      clear hvv
      generalize wr.heap.size = gTD at *
      clear HV 
      have HV := Lib.hid hv
      have TD := Lib.hid xTD
      clear hv xTD
      refine (decRow5 _ _ TD.out (HF.out.below HV.out)).mono ?_
      rintro e w13 ⟨⟨A2, c2, rfl⟩, hb⟩
      have hv := HV.out.trans (hb.mono HV.out.size)
      have xTD := TD.out.below hb TD.out.lt
      clear hb HV TD
      have HV := Lib.hid hv
      have TD := Lib.hid xTD
      clear hv xTD
      go_upto_region 11 with fail
      have hv := HV.out
      have hv := hv.alloc hv.size (.cells #[.int .i64 2, .slice A2 0 c2] 25)
      have xTD := (TD.out).alloc (.cells #[.int .i64 2, .slice A2 0 c2] 25)
      have xT5 : Blk (w13.alloc (.cells #[.int .i64 2, .slice A2 0 c2] 25)) (w13.heap.size) 25 #[.int .i64 2, .slice A2 0 c2] := by
        have := Blk.new w13 25 #[.int .i64 2, .slice A2 0 c2]
        simpa using this
      generalize hvv : (w13.alloc (.cells #[.int .i64 2, .slice A2 0 c2] 25)) = v4 at *
      clear hvv
      generalize w13.heap.size = gT5 at *
      clear HV TD
      have HV := Lib.hid hv
      have TD := Lib.hid xTD
      have T5 := Lib.hid xT5
      clear hv xTD xT5
      have hfx := HF.out.below HV.out
      have HFX := Lib.hid hfx
      clear hfx
      go_wp2_with (first | (at_make; refine wpList_make_full _ rfl _ _ 23 rfl 0 55 i0 (.agg #[.int .i64 0, .int .i64 0, .int .u32 0, .int .u32 0, .int .u32 0, .int .u32 0]) 6 Tryd.underlying23 HI.out.1 HI.out.2.1 HI.out.2.2.1 .i64 .i64 26 26 26 rfl rfl rfl rfl ?b2 ?b3 ?b4 ?_))
      case b2 => rw [HI.out.2.2.2]; decide
      case b3 => unfold maxLen; omega
      case b4 => exact Nat.zero_le _
      intro wm hown hgrow
      have hbm : Below v4.heap.size v4 wm := (Below.refl _ _).grown hgrow (Nat.le_refl _) (fun k e => by cases e)
      rw [zerosCs] at hown
      have HOW := Lib.hid hown
      have xT5 := T5.out.below hbm T5.out.lt
      have hv := HV.out.trans (hbm.mono HV.out.size)
      clear HV T5 hown hgrow hbm
      have HV := Lib.hid hv
      have T5 := Lib.hid xT5
      clear hv xT5
      go_wp2_with fail
      refine (cutRow5 _ _ HOW.out (HF.out.below HV.out)).mono ?_
      rintro e w14 ⟨⟨q, c, A, c0, B, c1, rfl, hq, k1, k3⟩, hb⟩
      have hv := HV.out.trans (hb.mono HV.out.size)
      have xT5 := T5.out.below hb T5.out.lt
      clear hb HV T5
      have HV := Lib.hid hv
      have T5 := Lib.hid xT5
      clear hv xT5
      have lT5 := T5.out.lt
      have kT50 := T5.out.cell 0
      have kT51 := T5.out.cell 1
      simp only [List.getElem?_toArray, List.getElem?_cons_zero, List.getElem?_cons_succ] at kT50 kT51
      clear HOW
      go_wp2_with fail
      refine (num5_any _ _).mono ?_
      rintro e wn15 ⟨rfl, rfl⟩
      go_wp2_with fail
      refine (num5_any _ _).mono ?_
      rintro e wn16 ⟨rfl, rfl⟩
      go_wp2_with fail
      go_ret
      exact ⟨rfl, HV.out⟩
theorem yes5 : ∀ w : World, Fit3 w → Calls Tryd.prog 8 #[] w fun e w' => e = .returned (.bool true) ∧ Below w.heap.size w w' := fun w hf => works5_any w hf
end Go.Proofs.YtehhablobfaplaaDoor
