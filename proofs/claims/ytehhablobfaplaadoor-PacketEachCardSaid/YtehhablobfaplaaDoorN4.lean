/- Merged by tools/merge.py: N3, N4. -/
import Derived.Test.YtehhablobfaplaaDoorN2
import Derived.Test.YtehhablobfaplaaDoorU1
import Derived.StillTailTactics
import Derived.StillTail
import Derived.Deep.CutBlock
import Derived.Deep.RegionHeld3
namespace Go.Proofs.YtehhablobfaplaaDoor
open Go Go.RowKit Go.Sort
attribute [local go_sem] Oper.semAt_some

end Go.Proofs.YtehhablobfaplaaDoor

namespace Go.Proofs.YtehhablobfaplaaDoor
open Go Go.RowKit Go.Sort
attribute [local go_sem] Oper.semAt_some
attribute [local irreducible] wpQuiet

/-- Calls that came in. -/
def ActS (w : World) (p : Option Addr) (l : List (Int × Int)) : Prop := 0 < l.length → ∃ b o, p = some ⟨b, o, none⟩ ∧ b < w.heap.size ∧ ∀ i (h : i < l.length), w.cell? ⟨b, o + i * 2, none⟩ = some (.int .i64 (l[i]'h).1) ∧ w.cell? ⟨b, o + i * 2 + 1, none⟩ = some (.int .i64 (l[i]'h).2)
theorem ActS.below {w w' : World} {p : Option Addr} {l : List (Int × Int)} (h : ActS w p l) (hb : Below w.heap.size w w') : ActS w' p l := fun hn => by
  obtain ⟨b, o, e, hlt, hc⟩ := h hn
  exact ⟨b, o, e, by have := hb.size; omega, fun i hi => ⟨(hb.cell (p := ⟨b, o + i * 2, none⟩) hlt).trans (hc i hi).1, (hb.cell (p := ⟨b, o + i * 2 + 1, none⟩) hlt).trans (hc i hi).2⟩⟩

/-- Own bytes that may be spoilt. -/
def SpB (w : World) (p : Option Addr) (n : Nat) : Prop := 0 < n → ∃ g cur, p = some ⟨g, 0, none⟩ ∧ Blk w g 5 cur ∧ ∀ i, i < n → ∃ z, cur[i]? = some (.int .u8 z)
theorem SpB.ofOwn {base : Nat} {w : World} {p : Option Addr} {c : Nat} {l : List Int} (h : OwnB base w (.slice p l.length c) l) : SpB w p l.length := fun hn => by
  rcases h.2 with ⟨e, h0⟩ | ⟨g, cap, cur, e, hb, hg, hc, hm, hs, ht⟩
  · omega
  · cases e
    refine ⟨g, cur, rfl, hg, fun i hi => ⟨l[i]'hi, ?_⟩⟩
    have h2 : (cur.toList.take (l.length * 1))[i]? = (l.map (Value.int .u8))[i]? := by rw [ht]
    rw [List.getElem?_take_of_lt (by omega), Array.getElem?_toList] at h2
    rw [h2]
    simp [List.getElem?_eq_getElem hi]
theorem SpB.below {w w' : World} {p : Option Addr} {n : Nat} (h : SpB w p n) (hb : Below w.heap.size w w') : SpB w' p n := fun hn => by
  obtain ⟨g, cur, e, hg, hc⟩ := h hn
  exact ⟨g, cur, e, hg.below hb hg.lt, hc⟩
theorem SpB.set {w : World} {g n : Nat} (h : SpB w (some ⟨g, 0, none⟩) n) (i : Nat) (z : Int) : SpB (w.setCell ⟨g, i, none⟩ (.int .u8 z)) (some ⟨g, 0, none⟩) n := fun hn => by
  obtain ⟨g', cur, e, hg, hc⟩ := h hn
  cases e
  refine ⟨g, _, rfl, hg.set_ i _, fun k hk => ?_⟩
  obtain ⟨y, hy⟩ := hc k hk
  have hkl : k < cur.size := (Array.getElem?_eq_some_iff.1 hy).1
  rw [Array.getElem?_setIfInBounds]
  by_cases e : i = k
  · subst e
    exact ⟨z, by rw [if_pos rfl, if_pos hkl]⟩
  · exact ⟨y, by rw [if_neg e]; exact hy⟩
/-- The block of a slice, if it has one. -/
abbrev rowOf (p : Option Addr) : Option Nat := p.map (·.block)
theorem Rd3.row {base : Nat} {w w' : World} {r : Nat} {xs : List Int} {a : Nat} (h : Rd3 base w r xs a) {p : Option Addr} (hg : w.grownBy w' (rowOf p)) (hp : ∀ x, p = some x → x.block < base) : Rd3 base w' r xs a := by
  cases p with
  | none => exact h.keep ⟨hg.os, hg.tape, hg.output, hg.size, fun k hk => hg.block k hk (by simp)⟩
  | some x => exact h.other hg (hp x rfl)

theorem below_row {n : Nat} {A B C : World} {p : Option Addr} (h : Below n A B) (hg : B.grownBy C (rowOf p)) (hs : n ≤ B.heap.size) (hp : ∀ x, p = some x → n ≤ x.block) : Below n A C :=
  h.grown hg hs (fun k hk => by
    cases p with
    | none => simp at hk
    | some x =>
      have : x.block = k := by simpa using hk
      subst this
      exact hp x rfl)

end Go.Proofs.YtehhablobfaplaaDoor
