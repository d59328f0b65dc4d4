/- Contract of layer 2's reference: Parse. -/
import Derived.Test.YtabpkdblcinhjaaDoorT2
namespace Go.Proofs.YtabpkdblcinhjaaDoor
open Go Go.RowKit Go.Sort
attribute [local go_sem] Oper.semAt_some
attribute [local irreducible] wpQuiet

theorem head_range {l : List UInt8} {a : Int} {e : Nat} (h : headFrom 4 0 l 0 = (a, e, true)) : 0 ≤ a ∧ a < 4294967296 ∧ e ≤ l.length := by
  have hle := head_le 4 0 l 0
  rw [h] at hle
  obtain ⟨ps, h1, h2, h3, _⟩ := head_text 3 0 l 0 a e h
  match ps, h1 with
  | [p0, p1, p2, p3], _ =>
    obtain ⟨_, a0, a1⟩ := partsText4 p0 p1 p2 p3 (h2 _ (by simp)) (h2 _ (by simp)) (h2 _ (by simp)) (h2 _ (by simp))
    rw [← h3] at a0 a1
    simp only at hle
    exact ⟨a0, a1, by omega⟩

theorem slash_eq (s : ByteArray) (e : Nat) (n : Int) : s.extract e s.size = (⟨#[47]⟩ ++ sb n) ↔ s.data.toList.drop e = 47 :: Lib.itoa n := by
  have h1 : (s.extract e s.size).data.toList = s.data.toList.drop e := Lib.extract_to_end s e
  have h2 : ((⟨#[47]⟩ : ByteArray) ++ sb n).data.toList = 47 :: Lib.itoa n := by simp [sb, ByteArray.data_append]
  constructor
  · intro h; rw [← h1, h, h2]
  · intro h
    apply ByteArray.ext
    apply Array.toList_inj.1
    rw [h1, h2, h]

theorem bytes_ne {a b : ByteArray} (h : ¬ a = b) : (a.toList == b.toList) = false := by
  rw [ByteArray.toList_eq, ByteArray.toList_eq]
  simp only [beq_eq_false_iff_ne, ne_eq]
  intro e
  exact h (ByteArray.ext (Array.toList_inj.1 e))

set_option maxRecDepth 100000 in
set_option maxHeartbeats 3200000 in
theorem refPParse_any (s : ByteArray) (hs : s.size ≤ 60) (w : World) (hF : Fit w) :
    Calls Tryd.prog 7 #[.string s] w fun e w' => ((∃ (a : Int) (n : Nat), RefHit s.data.toList a n ∧ e = .returned (.tuple #[.agg #[.int .u32 a, .int .i64 n], .int .i64 0])) ∨ ((∀ a n, ¬ RefHit s.data.toList a n) ∧ e = .returned (.tuple #[.agg #[.int .u32 0, .int .i64 0], .int .i64 120]))) ∧ Below w.heap.size w w' := by
  have HF := Lib.hid hF
  have hh := head_any s 0 (by omega) (by unfold maxLen; omega) (w.alloc (.cells #[.int .u32 0, .int .i64 0] 25))
  rw [List.drop_zero] at hh
  unfold headEnd at hh
  have hlen : s.data.toList.length = s.size := by simp
  generalize hH : headFrom 4 0 s.data.toList 0 = H at *
  obtain ⟨a, at_, is_⟩ := H
  have HH := Lib.hid hH
  have HD := Lib.hid hh
  have bR := Blk.new w 25 #[.int .u32 0, .int .i64 0]
  have hbw : Below w.heap.size w (w.alloc (.cells #[.int .u32 0, .int .i64 0] 25)) := (Below.refl w.heap.size w).alloc (Nat.le_refl _) _
  have HR := Lib.hid bR
  have HB := Lib.hid hbw
  clear hF hh hH bR hbw
  cases is_ with
  | false =>
    have hno : ∀ a n, ¬ RefHit s.data.toList a n := fun a n ⟨_, _, e, h, _⟩ => by rw [HH.out] at h; cases h
    have HNO := Lib.hid hno
    clear hno hlen
    go_enter Tryd.func7, Tryd.ntmps7
    go_wp2_with fail
    refine HD.out.mono ?_
    rintro e w1 ⟨rfl, rfl⟩
    go_wp2_with fail
    exact bodyPost_ret (v := .tuple #[.agg #[.int .u32 0, .int .i64 0], .int .i64 120]) (by simp [results, Tryd.results7, go_sem]) rfl ⟨.inr ⟨HNO.out, rfl⟩, HB.out⟩
  | true =>
    obtain ⟨a0, a1, hle⟩ := head_range HH.out
    rw [hlen] at hle
    clear hlen
    have HA0 := Lib.hid a0
    have HA1 := Lib.hid a1
    clear a0 a1
    go_enter Tryd.func7, Tryd.ntmps7
    go_wp2_with fail
    refine HD.out.mono ?_
    rintro e w1 ⟨rfl, rfl⟩
    go_wp2_with fail
    go_loopw [7] (fun i wr => ∃ q : Nat, q ≤ 33 ∧ i = .int .i64 q ∧ Hid (∀ n, n < q → ¬ RefHit s.data.toList a n) ∧ Hid (Blk wr w.heap.size 25 #[.int .u32 0, .int .i64 0]) ∧ Hid (Below w.heap.size w wr)) (fun i _ => 33 - (intOf i).toNat)
    case atStart => exact ⟨0, by omega, rfl, Lib.hid (fun n h => by omega), HR, HB⟩
    case round =>
      clear HR HB HD
      obtain ⟨q, hq, rfl, HZ, HR, HB⟩ := hrel
      by_cases hlt : q ≤ 32
      · go_wp2_with fail
        have hw : Below w.heap.size w (wr.alloc (.cells #[.int .u32 a, .int .i64 q] 25)) := HB.out.alloc HB.out.size _
        have hFW := HF.out.below hw
        have b1 := Blk.new wr 25 #[.int .u32 a, .int .i64 q]
        have bR := HR.out.alloc (.cells #[.int .u32 a, .int .i64 q] 25)
        generalize hv : (wr.alloc (.cells #[.int .u32 a, .int .i64 q] 25)) = v1 at *
        clear hv
        generalize wr.heap.size = g1 at *
        have c0 := b1.cell 0
        have c1 := b1.cell 1
        simp only [List.getElem?_toArray, List.getElem?_cons_zero, List.getElem?_cons_succ] at c0 c1
        have k0 := cell_regrown c0
        have k1 := cell_regrown c1
        have hseq := slash_eq s at_ q
        have m1 : (sb (q : Int)).size ≤ 3 := itoa_len q (by omega) (by omega)
        have cI : ∀ d os, Calls Tryd.prog 20 #[.int .i64 q] (grow (redrawn v1 d) os) fun e w'' => e = .returned (.string (sb q)) ∧ ∃ p : Regrown, w'' = grow (redrawn v1 p.d) p.os := fun d os => Calls.regrown_of (itoa_any q (by omega) (by omega) _ (hFW.below (below_regrown v1 d os)))
        have cR : ∀ d os, Calls Tryd.prog 9 #[.agg #[.int .u32 a, .int .i64 q]] (grow (redrawn v1 d) os) fun e w'' => e = .returned (.bool (decide (right a q))) ∧ ∃ p : Regrown, w'' = grow (redrawn v1 p.d) p.os := fun d os => Calls.regrown_of (refRight_any a q HA0.out HA1.out _)
        have n1 : ¬ 9223372036854775807 < 1 + (sb (q : Int)).size := by omega
        have HSQ := Lib.hid hseq
        have HW := Lib.hid hw
        have HB1 := Lib.hid b1
        have HBR := Lib.hid bR
        clear hseq hw b1 bR hFW HB HR c0 c1
        by_cases hm : s.extract at_ s.size = ((⟨#[47]⟩ : ByteArray) ++ sb q)
        · by_cases hr : right a q
          · have hd : decide (right a q) = true := decide_eq_true hr
            rw [hd] at cR
            have hhit : RefHit s.data.toList a q := ⟨hlt, hr, at_, HH.out, HSQ.out.1 hm⟩
            have HIT := Lib.hid hhit
            clear hhit hd hr
            refine wp_region_quiet_below (by kernel_rfl) (by kernel_rfl) ?_
            repeat (quiet_step (first | (with_reducible exact cI _ _) | (with_reducible exact cR _ _)))
            refine wpQuiet_nil ?_
            intro wq hwq
            obtain ⟨⟨dq, osq⟩, rfl⟩ := hwq
            have hb := below_regrown v1 dq osq
            have HW4 := Lib.hid (HW.out.trans (hb.mono HW.out.size))
            have HB4 := Lib.hid (HB1.out.below hb HB1.out.lt)
            have HR4 := Lib.hid (HBR.out.below hb HBR.out.lt)
            generalize grow (redrawn v1 dq) osq = w4 at *
            clear hb k0 k1 cI cR HW HB1 HBR hm
            have c0 := HB4.out.cell 0
            have c1 := HB4.out.cell 1
            have r0 := HR4.out.cell 0
            have r1 := HR4.out.cell 1
            have f0 := HR4.out.frozen 0
            have f1 := HR4.out.frozen 1
            simp only [List.getElem?_toArray, List.getElem?_cons_zero, List.getElem?_cons_succ] at c0 c1 r0 r1
            have hset : Blk ((w4.setCell ⟨w.heap.size, 0, none⟩ (.int .u32 a)).setCell ⟨w.heap.size, 1, none⟩ (.int .i64 q)) w.heap.size 25 #[.int .u32 a, .int .i64 q] := by
              simpa using (HR4.out.set_ 0 (.int .u32 a)).set_ 1 (.int .i64 q)
            have hbs : Below w.heap.size w ((w4.setCell ⟨w.heap.size, 0, none⟩ (.int .u32 a)).setCell ⟨w.heap.size, 1, none⟩ (.int .i64 q)) := (HW4.out.setCell (p := ⟨w.heap.size, 0, none⟩) (Nat.le_refl _) _).setCell (p := ⟨w.heap.size, 1, none⟩) (Nat.le_refl _) _
            have HS := Lib.hid hset
            have HBS := Lib.hid hbs
            clear hset hbs
            go_wp2_with fail
            have d0 := HS.out.cell 0
            have d1 := HS.out.cell 1
            simp only [List.getElem?_toArray, List.getElem?_cons_zero, List.getElem?_cons_succ] at d0 d1
            exact bodyPost_ret (v := .tuple #[.agg #[.int .u32 a, .int .i64 q], .int .i64 0]) (by simp [results, Tryd.results7, go_sem, d0, d1]) rfl ⟨.inl ⟨a, q, HIT.out, rfl⟩, HBS.out⟩
          · have hd : decide (right a q) = false := decide_eq_false hr
            rw [hd] at cR
            have HZ2 : Hid (∀ n, n < q + 1 → ¬ RefHit s.data.toList a n) := Lib.hid (fun n hn hh => by
              rcases Nat.lt_or_ge n q with h | h
              · exact HZ.out n h hh
              · obtain rfl : n = q := by omega
                exact hr hh.2.1)
            clear hd hr
            refine wp_region_quiet_below (by kernel_rfl) (by kernel_rfl) ?_
            repeat (quiet_step (first | (with_reducible exact cI _ _) | (with_reducible exact cR _ _)))
            refine wpQuiet_nil ?_
            intro wq hwq
            obtain ⟨⟨dq, osq⟩, rfl⟩ := hwq
            have hb := below_regrown v1 dq osq
            have HW4 := Lib.hid (HW.out.trans (hb.mono HW.out.size))
            have HB4 := Lib.hid (HB1.out.below hb HB1.out.lt)
            have HR4 := Lib.hid (HBR.out.below hb HBR.out.lt)
            generalize grow (redrawn v1 dq) osq = w4 at *
            clear hb k0 k1 cI cR HW HB1 HBR hm
            go_wp2_with fail
            go_roundw
            case rel => exact ⟨q + 1, by omega, by go_num, HZ2, HR4, HW4⟩
            case measure => simp [intOf]; omega
        · have HZ2 : Hid (∀ n, n < q + 1 → ¬ RefHit s.data.toList a n) := Lib.hid (fun n hn hh => by
            rcases Nat.lt_or_ge n q with h | h
            · exact HZ.out n h hh
            · obtain rfl : n = q := by omega
              obtain ⟨_, _, e2, h1, h2⟩ := hh
              rw [HH.out] at h1
              cases h1
              exact hm (HSQ.out.2 h2))
          have hbe := bytes_ne hm
          refine wp_region_quiet_below (by kernel_rfl) (by kernel_rfl) ?_
          repeat (quiet_step (first | (with_reducible exact cI _ _) | (with_reducible exact cR _ _)))
          refine wpQuiet_nil ?_
          intro wq hwq
          obtain ⟨⟨dq, osq⟩, rfl⟩ := hwq
          have hb := below_regrown v1 dq osq
          have HW4 := Lib.hid (HW.out.trans (hb.mono HW.out.size))
          have HB4 := Lib.hid (HB1.out.below hb HB1.out.lt)
          have HR4 := Lib.hid (HBR.out.below hb HBR.out.lt)
          generalize grow (redrawn v1 dq) osq = w4 at *
          clear hb k0 k1 cI cR HW HB1 HBR hm hbe
          go_wp2_with fail
          go_roundw
          case rel => exact ⟨q + 1, by omega, by go_num, HZ2, HR4, HW4⟩
          case measure => simp [intOf]; omega
      · obtain rfl : q = 33 := by omega
        have hno : ∀ b n, ¬ RefHit s.data.toList b n := fun b n hh => by
          have hh2 := hh
          obtain ⟨h0, _, e2, h1, _⟩ := hh
          rw [HH.out] at h1
          cases h1
          exact HZ.out n (by omega) hh2
        have HNO := Lib.hid hno
        have r0 := HR.out.cell 0
        have r1 := HR.out.cell 1
        have f0 := HR.out.frozen 0
        have f1 := HR.out.frozen 1
        simp only [List.getElem?_toArray, List.getElem?_cons_zero, List.getElem?_cons_succ] at r0 r1
        have hset : Blk ((wr.setCell ⟨w.heap.size, 0, none⟩ (.int .u32 0)).setCell ⟨w.heap.size, 1, none⟩ (.int .i64 0)) w.heap.size 25 #[.int .u32 0, .int .i64 0] := by
          simpa using (HR.out.set_ 0 (.int .u32 0)).set_ 1 (.int .i64 0)
        have hbs : Below w.heap.size w ((wr.setCell ⟨w.heap.size, 0, none⟩ (.int .u32 0)).setCell ⟨w.heap.size, 1, none⟩ (.int .i64 0)) := (HB.out.setCell (p := ⟨w.heap.size, 0, none⟩) (Nat.le_refl _) _).setCell (p := ⟨w.heap.size, 1, none⟩) (Nat.le_refl _) _
        have HS := Lib.hid hset
        have HBS := Lib.hid hbs
        clear hset hbs hno hlt
        go_wp2_with fail
        have d0 := HS.out.cell 0
        have d1 := HS.out.cell 1
        simp only [List.getElem?_toArray, List.getElem?_cons_zero, List.getElem?_cons_succ] at d0 d1
        exact bodyPost_ret (v := .tuple #[.agg #[.int .u32 0, .int .i64 0], .int .i64 120]) (by simp [results, Tryd.results7, go_sem, d0, d1]) rfl ⟨.inr ⟨HNO.out, rfl⟩, HBS.out⟩
end Go.Proofs.YtabpkdblcinhjaaDoor
