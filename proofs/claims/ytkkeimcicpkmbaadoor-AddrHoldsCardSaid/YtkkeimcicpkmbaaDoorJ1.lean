/- Contract of layer 1: Join. -/
import Derived.Test.YtkkeimcicpkmbaaDoorA3
import Derived.Test.YtkkeimcicpkmbaaDoorM4
import Derived.Laws.MakeOwn
namespace Go.Proofs.YtkkeimcicpkmbaaDoor
open Go Go.RowKit
attribute [local go_sem] Oper.semAt_some

theorem infoStr : (Tryd.prog.info? 9).map (fun i => (i.zero, i.size, i.bytes)) = some (some (.string ⟨#[]⟩), 1, 16) := by kernel_rfl

theorem make_strings (n : Nat) (hn : n ≤ 1000000) (w : World) : (Instr.makeSlice 64 (.int .i64 (n : Int)) (.int .i64 (n : Int))).run Tryd.prog w = .ok (.slice (some ⟨w.heap.size, 0, none⟩) n n) (w.alloc (.cells (madeCells #[.string ⟨#[]⟩] n) 9)) := by
  obtain ⟨i0, hi, hz0, hz1, hz2⟩ := info_parts infoStr
  have := run_make (P := Tryd.prog) w 64 9 i0 _ Tryd.underlying64 hi hz0 .i64 .i64 n n (by omega) (by omega) (by rw [hz2]; omega) (by omega)
  rw [this, hz1]
  simp [Value.cells]

/-- The texts of the first k, and nothing behind. -/
def HeldJ (xs : List Int) (B k : Nat) (w : World) : Prop := ∀ j (hj : j < xs.length), w.cell? ⟨B, j, none⟩ = some (.string (if j < k then ⟨(txt (xs[j]'hj)).toArray⟩ else ⟨#[]⟩)) ∧ w.frozen? ⟨B, j, none⟩ = false

theorem HeldJ.below {xs : List Int} {B k : Nat} {w w' : World} (h : HeldJ xs B k w) (hB : B < w.heap.size) (hb : Below w.heap.size w w') : HeldJ xs B k w' :=
  fun j hj => ⟨(hb.cell (p := ⟨B, j, none⟩) hB).trans (h j hj).1, (hb.frozen (p := ⟨B, j, none⟩) hB).trans (h j hj).2⟩

theorem HeldJ.next {xs : List Int} {B k : Nat} {w : World} (h : HeldJ xs B k w) (hk : k < xs.length) : HeldJ xs B (k + 1) (w.setCell ⟨B, k, none⟩ (.string ⟨(txt (xs[k]'hk)).toArray⟩)) := by
  intro j hj
  refine ⟨?_, by rw [World.frozen?_setCell]; exact (h j hj).2⟩
  by_cases e : j = k
  · subst e
    rw [World.cell?_setCell_same _ _ _ (h j hj).1, if_pos (by omega)]
  · rw [World.cell?_setCell_other _ _ _ _ (by intro c; cases c; exact e rfl), (h j hj).1]
    by_cases hjk : j < k
    · rw [if_pos hjk, if_pos (by omega)]
    · rw [if_neg hjk, if_neg (by omega)]

theorem HeldJ.made (xs : List Int) (w : World) : HeldJ xs w.heap.size 0 (w.alloc (.cells (madeCells #[.string ⟨#[]⟩] xs.length) 9)) := by
  intro j hj
  refine ⟨?_, (Blk.new w _ _).frozen j⟩
  rw [(Blk.new w 9 (madeCells #[.string ⟨#[]⟩] xs.length)).cell j]
  simp [madeCells, hj, Nat.mod_one]

set_option maxRecDepth 100000 in
set_option maxHeartbeats 800000 in
theorem join_any (A : Option Addr) (cap : Nat) (xs : List Int) (hx : ∀ x ∈ xs, 0 ≤ x ∧ x < 4294967296) (hn : xs.length ≤ 12) (w : World) (hF : Fit w)
    (hA : 0 < xs.length → ∃ b o, A = some ⟨b, o, none⟩ ∧ b < w.heap.size ∧ ∀ j (hj : j < xs.length), w.cell? ⟨b, o + j, none⟩ = some (.int .u32 (xs[j]'hj))) :
    Calls Tryd.prog 21 #[.slice A xs.length cap] w fun e w' => e = .returned (.string ⟨(joinT xs).toArray⟩) ∧ Below w.heap.size w w' := by
  have hmk := fun w => make_strings xs.length (by omega) w
  have HF := Lib.hid hF
  have HA := Lib.hid hA
  clear hF hA
  go_enter Tryd.func21, Tryd.ntmps21
  go_wp2_with fail
  have hb1 := (Below.refl w.heap.size w).alloc (Nat.le_refl _) (.cells (madeCells #[.string ⟨#[]⟩] xs.length) 9)
  have HH0 := Lib.hid (HeldJ.made xs w)
  have HB0 := Lib.hid hb1
  clear hb1
  go_loopw [11] (fun i wr => ∃ k : Nat, k ≤ xs.length ∧ i = .int .i64 k ∧ Hid (HeldJ xs w.heap.size k wr) ∧ Hid (Below w.heap.size w wr) ∧ w.heap.size < wr.heap.size) (fun i _ => xs.length - (intOf i).toNat)
  case atStart => exact ⟨0, by omega, rfl, HH0, HB0, by simp⟩
  case round =>
    obtain ⟨k, hk, rfl, HH, HB, hz⟩ := hrel
    by_cases hlt : k < xs.length
    · obtain ⟨b, o, rfl, hb, hcells⟩ := HA.out (by omega)
      have hc := (HB.out.cell (p := ⟨b, o + k, none⟩) hb).trans (hcells k hlt)
      have hr := hx (xs[k]'hlt) (List.getElem_mem hlt)
      have HC := Lib.hid hcells
      clear hcells
      have hxk : xs[k]'hlt = xs[k]'hlt := rfl
      generalize hp : xs[k]'hlt = p at hc hr
      have Hp := Lib.hid hp
      clear hp hxk
      go_wp2_with fail
      refine (text_any p hr.1 hr.2 _ (HF.out.below HB.out)).mono ?_
      rintro e w3 ⟨rfl, hb3⟩
      have H3 := HH.out.below hz hb3
      have hB3 := (HB.out.trans (hb3.mono HB.out.size)).setCell (p := ⟨w.heap.size, k, none⟩) (Nat.le_refl _) (.string ⟨(txt p).toArray⟩)
      have hz3 : w.heap.size < w3.heap.size := by have := hb3.size; omega
      have hc3 := (H3 k hlt).1
      rw [if_neg (Nat.lt_irrefl _)] at hc3
      have hf3 := (H3 k hlt).2
      have hn3 := H3.next hlt
      rw [Hp.out] at hn3
      have Hn := Lib.hid hn3
      have HB3 := Lib.hid hB3
      clear hb3 H3 hc hn3 hB3
      go_wp2
      go_roundw
      case rel => exact ⟨k + 1, by omega, by go_num, Hn, HB3, by simpa [World.setCell] using hz3⟩
      case measure => simp [intOf]; omega
    · obtain rfl : k = xs.length := by omega
      have hjl : (Lib.join ((xs.map fun a => (⟨(txt a).toArray⟩ : ByteArray)).map (·.data.toList)) [32]) = joinT xs := by
        rw [← joinT_join xs, List.map_map]
        rfl
      have hj := Tryd.strings_Join w.heap.size 0 xs.length (xs.map fun a => (⟨(txt a).toArray⟩ : ByteArray)) ⟨#[32]⟩ wr (fun j x hx => by
          obtain ⟨hj, e⟩ := List.getElem?_eq_some_iff.1 hx
          have hj' : j < xs.length := by simpa using hj
          have := (HH.out j hj').1
          rw [if_pos hj'] at this
          rw [Nat.zero_add, this, ← e]
          simp) hz (by simp; omega) (by simp) (by
            have h1 := joinT_len xs hx
            rw [← hjl] at h1
            have : (Lib.join ((xs.map fun a => (⟨(txt a).toArray⟩ : ByteArray)).map (·.data.toList)) [32]).length ≤ 140737488355328 := by omega
            exact this)
      have hj2 : Calls Tryd.prog 26 #[.slice (some ⟨w.heap.size, 0, none⟩) xs.length xs.length, .string ⟨#[32]⟩] wr fun e w' => e = .returned (.string ⟨(joinT xs).toArray⟩) ∧ Below wr.heap.size wr w' := by
        have e1 : (xs.map fun a => (⟨(txt a).toArray⟩ : ByteArray)).length = xs.length := by simp
        rw [e1] at hj
        rw [← hjl]
        exact hj
      have HJ := Lib.hid hj2
      clear hj hj2 hjl
      go_wp2_with fail
      refine HJ.out.mono ?_
      rintro e w5 ⟨rfl, hb5⟩
      have hB5 := HB.out.trans (hb5.mono HB.out.size)
      go_wp2
      go_ret
      exact ⟨rfl, hB5⟩
end Go.Proofs.YtkkeimcicpkmbaaDoor
