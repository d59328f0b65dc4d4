/- The walk of AddrParts. -/
import Derived.Test.YtkkeimcicpkmbaaDoorA7
namespace Go.Proofs.YtkkeimcicpkmbaaDoor
open Go Go.RowKit Go.Sort

def ofP (p0 p1 p2 p3 : Int) : Int := p0 * 16777216 + p1 * 65536 + p2 * 256 + p3
theorem ofP_range (p0 p1 p2 p3 : Int) (h0 : 0 ≤ p0 ∧ p0 < 256) (h1 : 0 ≤ p1 ∧ p1 < 256) (h2 : 0 ≤ p2 ∧ p2 < 256) (h3 : 0 ≤ p3 ∧ p3 < 256) : 0 ≤ ofP p0 p1 p2 p3 ∧ ofP p0 p1 p2 p3 < 4294967296 := by
  unfold ofP; omega
theorem ofP_parts (p0 p1 p2 p3 : Int) (h1 : 0 ≤ p1 ∧ p1 < 256) (h2 : 0 ≤ p2 ∧ p2 < 256) (h3 : 0 ≤ p3 ∧ p3 < 256) :
    ofP p0 p1 p2 p3 / 16777216 = p0 ∧ ofP p0 p1 p2 p3 / 65536 % 256 = p1 ∧ ofP p0 p1 p2 p3 / 256 % 256 = p2 ∧ ofP p0 p1 p2 p3 % 256 = p3 := by
  unfold ofP; omega

def pq (p0 p1 p2 p3 : Int) : Nat → Int
  | 0 => p0
  | 1 => p1
  | 2 => p2
  | _ => p3

theorem ptVal (a : Int) (K : IntKind) (k : Nat) (hk : k < 4) : #[Value.int K (a / 16777216), .int K (a / 65536 % 256), .int K (a / 256 % 256), .int K (a % 256)][k]? = some (.int K (pt a k)) := by
  match k, hk with
  | 0, _ => rfl
  | 1, _ => rfl
  | 2, _ => rfl
  | 3, _ => rfl
theorem pqVal (p0 p1 p2 p3 : Int) (K : IntKind) (k : Nat) (hk : k < 4) : #[Value.int K p0, .int K p1, .int K p2, .int K p3][k]? = some (.int K (pq p0 p1 p2 p3 k)) := by
  match k, hk with
  | 0, _ => rfl
  | 1, _ => rfl
  | 2, _ => rfl
  | 3, _ => rfl
theorem pq_range (p0 p1 p2 p3 : Int) (h0 : 0 ≤ p0 ∧ p0 < 256) (h1 : 0 ≤ p1 ∧ p1 < 256) (h2 : 0 ≤ p2 ∧ p2 < 256) (h3 : 0 ≤ p3 ∧ p3 < 256) (k : Nat) : 0 ≤ pq p0 p1 p2 p3 k ∧ pq p0 p1 p2 p3 k < 256 := by
  match k with
  | 0 => exact h0
  | 1 => exact h1
  | 2 => exact h2
  | k + 3 => exact h3

set_option maxRecDepth 100000 in
set_option maxHeartbeats 3200000 in
theorem law_parts (a p0 p1 p2 p3 : Int) (ha0 : 0 ≤ a) (ha1 : a < 4294967296) (h0 : 0 ≤ p0 ∧ p0 < 256) (h1 : 0 ≤ p1 ∧ p1 < 256) (h2 : 0 ≤ p2 ∧ p2 < 256) (h3 : 0 ≤ p3 ∧ p3 < 256) (w : World) (hF : Fit w) :
    Calls Tryd.prog 3 #[.int .u32 a, .agg #[.int .u8 p0, .int .u8 p1, .int .u8 p2, .int .u8 p3]] w fun e w' => e = .returned (.bool true) ∧ Below w.heap.size w w' := by
  have HF := Lib.hid hF
  clear hF
  go_enter Tryd.func3, Tryd.ntmps3
  go_wp2_with fail
  refine (parts_any a ha0 ha1 _).mono ?_
  rintro e w1 ⟨rfl, hb1⟩
  go_wp2_with fail
  refine (refParts_any a ha0 ha1 _).mono ?_
  rintro e w2 ⟨rfl, hb2⟩
  have bp1 : Blk w1 w.heap.size 24 #[.int .u8 p0, .int .u8 p1, .int .u8 p2, .int .u8 p3] := (Blk.new w _ _).below hb1 (by simp)
  have bp2 : Blk w2 w.heap.size 24 #[.int .u8 p0, .int .u8 p1, .int .u8 p2, .int .u8 p3] := bp1.below hb2 bp1.lt
  have c0 := bp2.cell 0
  have c1 := bp2.cell 1
  have c2 := bp2.cell 2
  have c3 := bp2.cell 3
  have hz := bp2.lt
  have hbw2 : Below w.heap.size w w2 := (((Below.refl w.heap.size w).alloc (Nat.le_refl _) (.cells #[.int .u8 p0, .int .u8 p1, .int .u8 p2, .int .u8 p3] 24)).trans (hb1.mono (by simp))).trans (hb2.mono (Nat.le_of_lt bp1.lt))
  have HBP := Lib.hid bp2
  have HB2 := Lib.hid hbw2
  clear bp1 bp2 hb1 hb2 hbw2
  go_wp2_with fail
  refine (of_any p0 p1 p2 p3 _ h0 h1 h2 h3).mono ?_
  rintro e w3 ⟨rfl, hb3⟩
  have hr := ofP_range p0 p1 p2 p3 h0 h1 h2 h3
  obtain ⟨e0, e1, e2, e3⟩ := ofP_parts p0 p1 p2 p3 h1 h2 h3
  have hof : p0 * 16777216 + p1 * 65536 + p2 * 256 + p3 = ofP p0 p1 p2 p3 := rfl
  rw [hof]
  clear hof
  generalize ofP p0 p1 p2 p3 = b at *
  go_wp2_with fail
  refine (refParts_any b hr.1 hr.2 _).mono ?_
  rw [e0, e1, e2, e3]
  clear e0 e1 e2 e3
  rintro e w4 ⟨rfl, hb4⟩
  go_wp2_with fail
  have z2 : w2.heap.size + 1 < w3.heap.size := by have := hb3.size; simp at this; omega
  have z3 := hb4.size
  have bx3 : Blk w3 w2.heap.size 24 #[.int .u8 (a / 16777216), .int .u8 (a / 65536 % 256), .int .u8 (a / 256 % 256), .int .u8 (a % 256)] := ((Blk.new w2 _ _).alloc _).below hb3 (by simp; omega)
  have by3 : Blk w3 (w2.heap.size + 1) 26 #[.int .i64 (a / 16777216), .int .i64 (a / 65536 % 256), .int .i64 (a / 256 % 256), .int .i64 (a % 256)] := by
    have := (Blk.new (w2.alloc (.cells #[.int .u8 (a / 16777216), .int .u8 (a / 65536 % 256), .int .u8 (a / 256 % 256), .int .u8 (a % 256)] 24)) 26 #[.int .i64 (a / 16777216), .int .i64 (a / 65536 % 256), .int .i64 (a / 256 % 256), .int .i64 (a % 256)]).below hb3 (by simp)
    simpa using this
  have bp3 : Blk w3 w.heap.size 24 #[.int .u8 p0, .int .u8 p1, .int .u8 p2, .int .u8 p3] := ((HBP.out.alloc _).alloc _).below hb3 (by simp; omega)
  have bx := (bx3.below hb4 bx3.lt).alloc (.cells #[.int .i64 p0, .int .i64 p1, .int .i64 p2, .int .i64 p3] 26)
  have by4 := (by3.below hb4 by3.lt).alloc (.cells #[.int .i64 p0, .int .i64 p1, .int .i64 p2, .int .i64 p3] 26)
  have bp := (bp3.below hb4 bp3.lt).alloc (.cells #[.int .i64 p0, .int .i64 p1, .int .i64 p2, .int .i64 p3] 26)
  have bz := Blk.new w4 26 #[.int .i64 p0, .int .i64 p1, .int .i64 p2, .int .i64 p3]
  have hb2 := HB2.out
  have hbw : Below w.heap.size w (w4.alloc (.cells #[.int .i64 p0, .int .i64 p1, .int .i64 p2, .int .i64 p3] 26)) :=
    ((((hb2.alloc hb2.size _).alloc (by have := hb2.size; simp; omega) _).trans (hb3.mono (by have := hb2.size; simp; omega))).trans (hb4.mono (by have := hb2.size; omega))).alloc (by have := hb2.size; omega) _
  generalize (w4.alloc (.cells #[.int .i64 p0, .int .i64 p1, .int .i64 p2, .int .i64 p3] 26)) = W at *
  generalize w2.heap.size = n2 at *
  generalize w4.heap.size = n4 at *
  have HX := Lib.hid bx
  have HY := Lib.hid by4
  have HP := Lib.hid bp
  have HZ := Lib.hid bz
  have HB := Lib.hid hbw
  clear c0 c1 c2 c3 hz hb3 hb4 z2 z3 bx3 by3 bp3 bx by4 bp bz hbw HBP HB2 hb2
  go_loopw [9] (fun i wr => ∃ k : Nat, k ≤ 4 ∧ i = .int .i64 k ∧ ∃ n, wr = W.drewN n) (fun i _ => 4 - (intOf i).toNat)
  case atStart => exact ⟨0, by omega, rfl, 0, rfl⟩
  case round =>
    obtain ⟨k, hk, rfl, n, rfl⟩ := hrel
    by_cases hlt : k < 4
    · have hx := (HX.out.cell k).trans (ptVal a .u8 k hlt)
      have hy := (HY.out.cell k).trans (ptVal a .i64 k hlt)
      have hp := (HP.out.cell k).trans (pqVal p0 p1 p2 p3 .u8 k hlt)
      have hzz := (HZ.out.cell k).trans (pqVal p0 p1 p2 p3 .i64 k hlt)
      have r1 := pt_range a ha0 ha1 k
      have r2 := pq_range p0 p1 p2 p3 h0 h1 h2 h3 k
      generalize pt a k = v1 at *
      generalize pq p0 p1 p2 p3 k = v2 at *
      go_wp2_with fail
      go_quiet (fail)
      go_wp2
      go_roundw
      case rel => exact ⟨k + 1, by omega, by go_num, _, rfl⟩
      case measure => simp [intOf]; omega
    · obtain rfl : k = 4 := by omega
      have HB' : Hid (Below w.heap.size w (W.drewN n)) := below_drewN HB.out n
      generalize W.drewN n = W' at *
      go_wp2_with fail
      refine (kind_any a ha0 ha1 _).mono ?_
      rintro e w5 ⟨rfl, hb5⟩
      have hB5 := HB'.out.trans (hb5.mono HB'.out.size)
      have HB5 := Lib.hid hB5
      clear hb5 hB5
      go_wp2_with fail
      refine (refKind_any a ha0 ha1 _).mono ?_
      rintro e w6 ⟨rfl, hb6⟩
      have hB6 := HB5.out.trans (hb6.mono HB5.out.size)
      have HB6 := Lib.hid hB6
      clear hb6 hB6
      go_wp2_with fail
      refine (kind_any b hr.1 hr.2 _).mono ?_
      rintro e w7 ⟨rfl, hb7⟩
      have hB7 := HB6.out.trans (hb7.mono HB6.out.size)
      have HB7 := Lib.hid hB7
      clear hb7 hB7
      go_wp2_with fail
      refine (refKind_any b hr.1 hr.2 _).mono ?_
      rintro e w8 ⟨rfl, hb8⟩
      have hB8 := HB7.out.trans (hb8.mono HB7.out.size)
      have HB8 := Lib.hid hB8
      clear hb8 hB8
      go_wp2_with fail
      refine (works_any _ (HF.out.below HB8.out)).mono ?_
      rintro e w9 ⟨rfl, hb9⟩
      have hB9 := HB8.out.trans (hb9.mono HB8.out.size)
      have HB9 := Lib.hid hB9
      clear hb9 hB9
      go_wp2
      go_ret
      exact ⟨rfl, HB9.out⟩
end Go.Proofs.YtkkeimcicpkmbaaDoor
