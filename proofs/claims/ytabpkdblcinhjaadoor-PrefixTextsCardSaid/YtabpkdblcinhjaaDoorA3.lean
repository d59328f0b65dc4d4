/- Contracts of layer 1: Text and the reference's Text, over a world in which the library's table lies. -/
import Derived.Test.YtabpkdblcinhjaaDoorA2
import Derived.Test.YtabpkdblcinhjaaDoorShelf
import Derived.WalkSmall
import Derived.Lib.ItoaNum
import Derived.Lib.Join
import Derived.Lib.QuietBelow
namespace Go.Proofs.YtabpkdblcinhjaaDoor
open Go Go.RowKit Go.Sort

/-- What the callees ask of a world: the library's table of powers of ten lies, the library's MaxLen is a number. -/
structure Fit (w : World) : Prop where
  tab : Lib.TabIs Tryd.prog w "internal/strconv.uint64pow10" .u64 Lib.pow10Tab
  len : ∃ m, w.cell? ⟨1, 0, none⟩ = some (.int .i64 m)

theorem gPow : Tryd.prog.globalNamed "internal/strconv.uint64pow10" = some 0 := by kernel_rfl

theorem Fit.below {w w' : World} (h : Fit w) (hb : Below w.heap.size w w') : Fit w' := by
  obtain ⟨m, hm⟩ := h.len
  have l1 := World.block_lt_of_cell? _ _ (h.tab.cell gPow 0 (by decide))
  have l2 := World.block_lt_of_cell? _ _ hm
  exact ⟨var?_below hb gPow l1 h.tab, m, (hb.cell (p := ⟨1, 0, none⟩) l2).trans hm⟩

theorem below_grow (w : World) (k : Nat) (os : Array Obj) : Below w.heap.size w (grow (w.drewN k) os) :=
  ⟨rfl, rfl, rfl, by simp [grow, World.drewN], fun i hi => by
    show (w.heap ++ os)[i]? = _
    rw [Array.getElem?_append_left hi]⟩

def sb (n : Int) : ByteArray := ⟨(Lib.itoa n).toArray⟩

set_option maxHeartbeats 400000 in
theorem itoa_any (n : Int) (h0 : 0 ≤ n) (h1 : n ≤ 9223372036854775807) (w : World) (hF : Fit w) :
    Calls Tryd.prog 20 #[.int .i64 n] w fun e w' => e = .returned (.string (sb n)) ∧ Below w.heap.size w w' := by
  refine (Tryd.strconv_Itoa n (by omega) h1 w hF.tab).mono ?_
  rintro e w' ⟨rfl, k, os, rfl⟩
  exact ⟨rfl, below_grow _ _ _⟩

/-- The k-th part of an address. -/
def pt (a : Int) : Nat → Int
  | 0 => a / 16777216
  | 1 => a / 65536 % 256
  | 2 => a / 256 % 256
  | _ => a % 256

theorem pt_range (a : Int) (h0 : 0 ≤ a) (h1 : a < 4294967296) (k : Nat) : 0 ≤ pt a k ∧ pt a k < 256 := by
  match k with
  | 0 => simp only [pt]; omega
  | 1 => simp only [pt]; omega
  | 2 => simp only [pt]; omega
  | k + 3 => simp only [pt]; omega

def pts (a : Int) (k j : Nat) : ByteArray := if j < k then sb (pt a j) else ⟨#[]⟩

/-- An address's text. -/
def txt (a : Int) : List UInt8 := Lib.itoa (pt a 0) ++ 46 :: (Lib.itoa (pt a 1) ++ 46 :: (Lib.itoa (pt a 2) ++ 46 :: Lib.itoa (pt a 3)))

theorem ix0 (x0 x1 x2 x3 : Value) (w : World) : (Instr.index 67 (.agg #[x0, x1, x2, x3]) (.int .i64 0)).run Tryd.prog w = .ok x0 w := by kernel_rfl
theorem ix1 (x0 x1 x2 x3 : Value) (w : World) : (Instr.index 67 (.agg #[x0, x1, x2, x3]) (.int .i64 1)).run Tryd.prog w = .ok x1 w := by kernel_rfl
theorem ix2 (x0 x1 x2 x3 : Value) (w : World) : (Instr.index 67 (.agg #[x0, x1, x2, x3]) (.int .i64 2)).run Tryd.prog w = .ok x2 w := by kernel_rfl
theorem ix3 (x0 x1 x2 x3 : Value) (w : World) : (Instr.index 67 (.agg #[x0, x1, x2, x3]) (.int .i64 3)).run Tryd.prog w = .ok x3 w := by kernel_rfl
theorem pts_zero (a : Int) (j : Nat) : pts a 0 j = ⟨#[]⟩ := by simp [pts]
theorem pts_four (a : Int) (j : Nat) (h : j < 4) : pts a 4 j = sb (pt a j) := by simp [pts, h]
theorem pts_same (a : Int) (k : Nat) : pts a (k + 1) k = sb (pt a k) := by simp [pts]
theorem pts_other (a : Int) (k j : Nat) (h : j ≠ k) : pts a (k + 1) j = pts a k j := by
  unfold pts
  by_cases h1 : j < k
  · rw [if_pos h1, if_pos (by omega)]
  · rw [if_neg h1, if_neg (by omega)]

theorem join4 (a : Int) : Lib.join ([sb (pt a 0), sb (pt a 1), sb (pt a 2), sb (pt a 3)].map (·.data.toList)) [46] = txt a := by
  simp [Lib.join_cons, Lib.joinTail, txt, sb]

theorem itoa_len (n : Int) (h0 : 0 ≤ n) (h1 : n < 256) : (Lib.itoa n).length ≤ 3 := by
  obtain ⟨u, rfl⟩ : ∃ u : Nat, n = u := ⟨n.toNat, by omega⟩
  have hu : u < 256 := by omega
  have hi : Lib.itoa (u : Int) = Lib.decDigits u := by simp [Lib.itoa]
  rw [hi, Lib.decDigits]
  split
  · simp
  · rw [Lib.decDigits]
    split
    · simp
    · rw [Lib.decDigits, dif_pos (by omega)]
      simp

theorem txt_len (a : Int) (h0 : 0 ≤ a) (h1 : a < 4294967296) : (txt a).length ≤ 15 := by
  have l0 := itoa_len _ (pt_range a h0 h1 0).1 (pt_range a h0 h1 0).2
  have l1 := itoa_len _ (pt_range a h0 h1 1).1 (pt_range a h0 h1 1).2
  have l2 := itoa_len _ (pt_range a h0 h1 2).1 (pt_range a h0 h1 2).2
  have l3 := itoa_len _ (pt_range a h0 h1 3).1 (pt_range a h0 h1 3).2
  simp only [txt, List.length_append, List.length_cons]
  omega

/-- The four texts lie in block B behind k rounds. -/
def Held (a : Int) (B k : Nat) (w : World) : Prop := ∀ j, j < 4 → w.cell? ⟨B, j, none⟩ = some (.string (pts a k j)) ∧ w.frozen? ⟨B, j, none⟩ = false

theorem Held.below {a : Int} {B k : Nat} {w w' : World} (h : Held a B k w) (hB : B < w.heap.size) (hb : Below w.heap.size w w') : Held a B k w' :=
  fun j hj => ⟨(hb.cell (p := ⟨B, j, none⟩) hB).trans (h j hj).1, (hb.frozen (p := ⟨B, j, none⟩) hB).trans (h j hj).2⟩

theorem Held.next {a : Int} {B k : Nat} {w : World} (h : Held a B k w) (hk : k < 4) : Held a B (k + 1) (w.setCell ⟨B, k, none⟩ (.string (sb (pt a k)))) := by
  intro j hj
  refine ⟨?_, by rw [World.frozen?_setCell]; exact (h j hj).2⟩
  by_cases e : j = k
  · subst e
    rw [World.cell?_setCell_same _ _ _ (h j hj).1, pts_same]
  · rw [World.cell?_setCell_other _ _ _ _ (by intro c; cases c; exact e rfl), pts_other _ _ _ e]
    exact (h j hj).1

set_option maxRecDepth 100000 in
set_option maxHeartbeats 800000 in
theorem text_any (a : Int) (h0 : 0 ≤ a) (h1 : a < 4294967296) (w : World) (hF : Fit w) :
    Calls Tryd.prog 19 #[.int .u32 a] w fun e w' => e = .returned (.string ⟨(txt a).toArray⟩) ∧ Below w.heap.size w w' := by
  have i0 : ∀ w (k : Nat), k < 4 → (Instr.index 67 (.agg #[.int .u8 (a / 16777216), .int .u8 (a / 65536 % 256), .int .u8 (a / 256 % 256), .int .u8 (a % 256)]) (.int .i64 k)).run Tryd.prog w = .ok (.int .u8 (pt a k)) w := fun w k hk => by
    match k, hk with
    | 0, _ => exact ix0 _ _ _ _ w
    | 1, _ => exact ix1 _ _ _ _ w
    | 2, _ => exact ix2 _ _ _ _ w
    | 3, _ => exact ix3 _ _ _ _ w
  have I0 := Lib.hid i0
  clear i0
  have hheld0 : Held a w.heap.size 0 (w.alloc (.cells #[.string ⟨#[]⟩, .string ⟨#[]⟩, .string ⟨#[]⟩, .string ⟨#[]⟩] 66)) := fun j hj => by
    rw [pts_zero]
    match j, hj with
    | 0, _ => simp
    | 1, _ => simp
    | 2, _ => simp
    | 3, _ => simp
  have HH0 := Lib.hid hheld0
  clear hheld0
  go_enter Tryd.func19, Tryd.ntmps19
  go_wp2_with fail
  refine (parts_any a h0 h1 _).mono ?_
  rintro e w1 ⟨rfl, hb1⟩
  have hb1' := (Below.refl w.heap.size w).alloc (Nat.le_refl _) (.cells #[.string ⟨#[]⟩, .string ⟨#[]⟩, .string ⟨#[]⟩, .string ⟨#[]⟩] 66)
  have hbw : Below w.heap.size w w1 := hb1'.trans (hb1.mono (by simp))
  have hz1 : w.heap.size < w1.heap.size := by have := hb1.size; simp at this; omega
  have Hh1 := Lib.hid (Held.below HH0.out (by simp) hb1)
  have Hb := Lib.hid hbw
  have HF := Lib.hid hF
  clear hb1 hb1' hbw HH0 hF
  go_wp2_with fail
  go_loopw [8] (fun i wr => ∃ k : Nat, k ≤ 4 ∧ i = .int .i64 k ∧ Hid (Held a w.heap.size k wr) ∧ Hid (Below w.heap.size w wr) ∧ w.heap.size < wr.heap.size) (fun i _ => 4 - (intOf i).toNat)
  case atStart => exact ⟨0, by omega, rfl, Hh1, Hb, hz1⟩
  case round =>
    obtain ⟨k, hk, rfl, HH, HB, hz⟩ := hrel
    by_cases hlt : k < 4
    · have i1 := fun w => I0.out w k hlt
      have hc := (HH.out k hlt).1
      have hf := (HH.out k hlt).2
      have hr := pt_range a h0 h1 k
      generalize hp : pt a k = p at i1 hr
      have Hp := Lib.hid hp
      clear hp
      go_wp2_with fail
      refine (itoa_any p hr.1 (by omega) _ (HF.out.below HB.out)).mono ?_
      rintro e w3 ⟨rfl, hb3⟩
      have H3 := HH.out.below hz hb3
      have hB3 := (HB.out.trans (hb3.mono HB.out.size)).setCell (p := ⟨w.heap.size, k, none⟩) (Nat.le_refl _) (.string (sb p))
      have hz3 : w.heap.size < w3.heap.size := by have := hb3.size; omega
      have hc3 := (H3 k hlt).1
      have hf3 := (H3 k hlt).2
      have hn := H3.next hlt
      rw [Hp.out] at hn
      have Hn := Lib.hid hn
      have HB3 := Lib.hid hB3
      clear hb3 H3 hc hf hn hB3 i1
      go_wp2
      go_roundw
      case rel => exact ⟨k + 1, by omega, by go_num, Hn, HB3, by simpa [World.setCell] using hz3⟩
      case measure => simp [intOf]; omega
    · obtain rfl : k = 4 := by omega
      have hj := Tryd.strings_Join w.heap.size 0 4 [sb (pt a 0), sb (pt a 1), sb (pt a 2), sb (pt a 3)] ⟨#[46]⟩ wr (fun j x hx => by
          have hj4 : j < 4 := by have := (List.getElem?_eq_some_iff.1 hx).1; simpa using this
          have := (HH.out j hj4).1
          rw [pts_four _ _ hj4] at this
          rw [Nat.zero_add, this]
          match j, hj4 with
          | 0, _ => simpa using hx
          | 1, _ => simpa using hx
          | 2, _ => simpa using hx
          | 3, _ => simpa using hx) hz (by simp) (by simp) (by rw [join4]; have := txt_len a h0 h1; omega)
      rw [join4] at hj
      have HJ := Lib.hid hj
      clear hj
      go_wp2_with fail
      refine HJ.out.mono ?_
      rintro e w5 ⟨rfl, hb5⟩
      have hB5 := HB.out.trans (hb5.mono HB.out.size)
      go_wp2
      go_ret
      exact ⟨rfl, hB5⟩

set_option maxRecDepth 100000 in
set_option maxHeartbeats 800000 in
theorem refText_any (a : Int) (h0 : 0 ≤ a) (h1 : a < 4294967296) (w : World) (hF : Fit w) :
    Calls Tryd.prog 24 #[.int .u32 a] w fun e w' => e = .returned (.string ⟨(txt a).toArray⟩) ∧ Below w.heap.size w w' := by
  go_enter Tryd.func24, Tryd.ntmps24
  go_wp2_with fail
  refine (refParts_any a h0 h1 _).mono ?_
  rintro e w1 ⟨rfl, hb1⟩
  go_wp2_with fail
  have hbw : Below w.heap.size w (w1.alloc (.cells #[.int .i64 (a / 16777216), .int .i64 (a / 65536 % 256), .int .i64 (a / 256 % 256), .int .i64 (a % 256)] 76)) := hb1.alloc hb1.size _
  have c0 : (w1.alloc (.cells #[.int .i64 (a / 16777216), .int .i64 (a / 65536 % 256), .int .i64 (a / 256 % 256), .int .i64 (a % 256)] 76)).cell? ⟨w1.heap.size, 0, none⟩ = some (.int .i64 (pt a 0)) := by simp [pt]
  have c1 : (w1.alloc (.cells #[.int .i64 (a / 16777216), .int .i64 (a / 65536 % 256), .int .i64 (a / 256 % 256), .int .i64 (a % 256)] 76)).cell? ⟨w1.heap.size, 1, none⟩ = some (.int .i64 (pt a 1)) := by simp [pt]
  have c2 : (w1.alloc (.cells #[.int .i64 (a / 16777216), .int .i64 (a / 65536 % 256), .int .i64 (a / 256 % 256), .int .i64 (a % 256)] 76)).cell? ⟨w1.heap.size, 2, none⟩ = some (.int .i64 (pt a 2)) := by simp [pt]
  have c3 : (w1.alloc (.cells #[.int .i64 (a / 16777216), .int .i64 (a / 65536 % 256), .int .i64 (a / 256 % 256), .int .i64 (a % 256)] 76)).cell? ⟨w1.heap.size, 3, none⟩ = some (.int .i64 (pt a 3)) := by simp [pt]
  have hfin : sb (pt a 0) ++ ⟨#[46]⟩ ++ sb (pt a 1) ++ ⟨#[46]⟩ ++ sb (pt a 2) ++ ⟨#[46]⟩ ++ sb (pt a 3) = ⟨(txt a).toArray⟩ := by
    apply ByteArray.ext
    simp [sb, txt, ByteArray.data_append]
  generalize (w1.alloc (.cells #[.int .i64 (a / 16777216), .int .i64 (a / 65536 % 256), .int .i64 (a / 256 % 256), .int .i64 (a % 256)] 76)) = W at *
  have hFW := hF.below hbw
  have r0 := pt_range a h0 h1 0
  have r1 := pt_range a h0 h1 1
  have r2 := pt_range a h0 h1 2
  have r3 := pt_range a h0 h1 3
  generalize pt a 0 = p0 at *
  generalize pt a 1 = p1 at *
  generalize pt a 2 = p2 at *
  generalize pt a 3 = p3 at *
  have k0 := cell_regrown c0
  have k1 := cell_regrown c1
  have k2 := cell_regrown c2
  have k3 := cell_regrown c3
  have l0 : (sb p0).size ≤ 3 := itoa_len _ r0.1 r0.2
  have l1 : (sb p1).size ≤ 3 := itoa_len _ r1.1 r1.2
  have l2 : (sb p2).size ≤ 3 := itoa_len _ r2.1 r2.2
  have l3 : (sb p3).size ≤ 3 := itoa_len _ r3.1 r3.2
  have cI0 : ∀ d os, Calls Tryd.prog 20 #[.int .i64 p0] (grow (redrawn W d) os) fun e w'' => e = .returned (.string (sb p0)) ∧ ∃ p : Regrown, w'' = grow (redrawn W p.d) p.os := fun d os => Calls.regrown_of (itoa_any p0 r0.1 (by omega) _ (hFW.below (below_regrown W d os)))
  have cI1 : ∀ d os, Calls Tryd.prog 20 #[.int .i64 p1] (grow (redrawn W d) os) fun e w'' => e = .returned (.string (sb p1)) ∧ ∃ p : Regrown, w'' = grow (redrawn W p.d) p.os := fun d os => Calls.regrown_of (itoa_any p1 r1.1 (by omega) _ (hFW.below (below_regrown W d os)))
  have cI2 : ∀ d os, Calls Tryd.prog 20 #[.int .i64 p2] (grow (redrawn W d) os) fun e w'' => e = .returned (.string (sb p2)) ∧ ∃ p : Regrown, w'' = grow (redrawn W p.d) p.os := fun d os => Calls.regrown_of (itoa_any p2 r2.1 (by omega) _ (hFW.below (below_regrown W d os)))
  have cI3 : ∀ d os, Calls Tryd.prog 20 #[.int .i64 p3] (grow (redrawn W d) os) fun e w'' => e = .returned (.string (sb p3)) ∧ ∃ p : Regrown, w'' = grow (redrawn W p.d) p.os := fun d os => Calls.regrown_of (itoa_any p3 r3.1 (by omega) _ (hFW.below (below_regrown W d os)))
  generalize sb p0 = s0 at *
  generalize sb p1 = s1 at *
  generalize sb p2 = s2 at *
  generalize sb p3 = s3 at *
  have n1 : ¬ 9223372036854775807 < s0.size + 1 := by omega
  have n2 : ¬ 9223372036854775807 < s0.size + 1 + s1.size := by omega
  have n3 : ¬ 9223372036854775807 < s0.size + 1 + s1.size + 1 := by omega
  have n4 : ¬ 9223372036854775807 < s0.size + 1 + s1.size + 1 + s2.size := by omega
  have n5 : ¬ 9223372036854775807 < s0.size + 1 + s1.size + 1 + s2.size + 1 := by omega
  have n6 : ¬ 9223372036854775807 < s0.size + 1 + s1.size + 1 + s2.size + 1 + s3.size := by omega
  have Hf := Lib.hid hfin
  have HB := Lib.hid hbw
  clear hfin hbw hF hFW c0 c1 c2 c3 hb1
  refine wp_region_quiet_below (by kernel_rfl) (by kernel_rfl) ?_
  repeat (quiet_step (first | exact cI0 _ _ | exact cI1 _ _ | exact cI2 _ _ | exact cI3 _ _))
  refine wpQuiet_nil ?_
  intro _ hw'
  obtain ⟨⟨dq, osq⟩, hw''⟩ := hw'
  subst hw''
  go_wp2
  go_ret
  exact ⟨by rw [← Hf.out]; rfl, HB.out.trans ((below_regrown W dq osq).mono HB.out.size)⟩
end Go.Proofs.YtabpkdblcinhjaaDoor
