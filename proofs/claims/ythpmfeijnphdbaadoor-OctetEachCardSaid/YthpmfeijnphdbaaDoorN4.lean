/- What the walk of OctetPlays holds. -/
import Derived.Test.YthpmfeijnphdbaaDoorN3
import Derived.Test.YthpmfeijnphdbaaDoorU0
import Derived.StillTailTactics
import Derived.StillTail
import Derived.Deep.CutBlock
import Derived.Deep.RegionHeld3
namespace Go.Proofs.YthpmfeijnphdbaaDoor
open Go Go.RowKit Go.Sort
attribute [local go_sem] Oper.semAt_some
attribute [local irreducible] wpQuiet

/-- Calls that came in. -/
def ActS (w : World) (p : Option Addr) (l : List (Int × Int)) : Prop := 0 < l.length → ∃ b o, p = some ⟨b, o, none⟩ ∧ b < w.heap.size ∧ ∀ i (h : i < l.length), w.cell? ⟨b, o + i * 2, none⟩ = some (.int .i64 (l[i]'h).1) ∧ w.cell? ⟨b, o + i * 2 + 1, none⟩ = some (.int .i64 (l[i]'h).2)
theorem ActS.below {w w' : World} {p : Option Addr} {l : List (Int × Int)} (h : ActS w p l) (hb : Below w.heap.size w w') : ActS w' p l := fun hn => by
  obtain ⟨b, o, e, hlt, hc⟩ := h hn
  exact ⟨b, o, e, by have := hb.size; omega, fun i hi => ⟨(hb.cell (p := ⟨b, o + i * 2, none⟩) hlt).trans (hc i hi).1, (hb.cell (p := ⟨b, o + i * 2 + 1, none⟩) hlt).trans (hc i hi).2⟩⟩

/-- What the walk holds of a world behind the reader's making. -/
structure PCtx (w : World) (base wb r : Nat) (p1 : Option Addr) (c1 : Nat) (xs : List Int) (a : Nat) (W : World) : Prop where
  want : Blk W wb 41 #[.slice p1 xs.length c1, .int .i64 a]
  rd : Rd3 base W r xs a
  bel : Below w.heap.size w W
  ha : a ≤ xs.length
  hb : w.heap.size ≤ base
  hw : base ≤ wb
  ne : r < wb
theorem PCtx.keep {w : World} {base wb r : Nat} {p1 : Option Addr} {c1 : Nat} {xs : List Int} {a : Nat} {W W' : World} (h : PCtx w base wb r p1 c1 xs a W) (hb : Below W.heap.size W W') : PCtx w base wb r p1 c1 xs a W' :=
  ⟨h.want.below hb h.want.lt, h.rd.keep hb, h.bel.trans (hb.mono h.bel.size), h.ha, h.hb, h.hw, h.ne⟩

/-- Own bytes that may be spoilt. -/
def SpB (w : World) (p : Option Addr) (n : Nat) : Prop := 0 < n → ∃ g cur, p = some ⟨g, 0, none⟩ ∧ Blk w g 5 cur ∧ ∀ i, i < n → ∃ z, cur[i]? = some (.int .u8 z)
theorem SpB.ofOwn {base : Nat} {w : World} {p : Option Addr} {c : Nat} {l : List Int} (h : OwnB base w (.slice p l.length c) l) : SpB w p l.length := fun hn => by
  rcases h.2 with ⟨e, h0⟩ | ⟨g, cap, cur, e, hb, hg, hc, hm, hs, ht⟩
  · omega
  · cases e
    refine ⟨g, cur, rfl, hg, fun i hi => ⟨l[i]'hi, ?_⟩⟩
    have h2 : (cur.toList.take (l.length * 1))[i]? = (l.map (Value.int .u8))[i]? := by rw [ht]
    rw [List.getElem?_take_of_lt (by omega), Array.getElem?_toList] at h2
    rw [h2]
    simp [List.getElem?_eq_getElem hi]
theorem SpB.below {w w' : World} {p : Option Addr} {n : Nat} (h : SpB w p n) (hb : Below w.heap.size w w') : SpB w' p n := fun hn => by
  obtain ⟨g, cur, e, hg, hc⟩ := h hn
  exact ⟨g, cur, e, hg.below hb hg.lt, hc⟩
theorem SpB.set {w : World} {g n : Nat} (h : SpB w (some ⟨g, 0, none⟩) n) (i : Nat) (z : Int) : SpB (w.setCell ⟨g, i, none⟩ (.int .u8 z)) (some ⟨g, 0, none⟩) n := fun hn => by
  obtain ⟨g', cur, e, hg, hc⟩ := h hn
  cases e
  refine ⟨g, _, rfl, hg.set_ i _, fun k hk => ?_⟩
  obtain ⟨y, hy⟩ := hc k hk
  have hkl : k < cur.size := (Array.getElem?_eq_some_iff.1 hy).1
  rw [Array.getElem?_setIfInBounds]
  by_cases e : i = k
  · subst e
    exact ⟨z, by rw [if_pos rfl, if_pos hkl]⟩
  · exact ⟨y, by rw [if_neg e]; exact hy⟩
/-- The block of a slice, if it has one. -/
abbrev rowOf (p : Option Addr) : Option Nat := p.map (·.block)
theorem Rd3.row {base : Nat} {w w' : World} {r : Nat} {xs : List Int} {a : Nat} (h : Rd3 base w r xs a) {p : Option Addr} (hg : w.grownBy w' (rowOf p)) (hp : ∀ x, p = some x → x.block < base) : Rd3 base w' r xs a := by
  cases p with
  | none => exact h.keep ⟨hg.os, hg.tape, hg.output, hg.size, fun k hk => hg.block k hk (by simp)⟩
  | some x => exact h.other hg (hp x rfl)

theorem below_row {n : Nat} {A B C : World} {p : Option Addr} (h : Below n A B) (hg : B.grownBy C (rowOf p)) (hs : n ≤ B.heap.size) (hp : ∀ x, p = some x → n ≤ x.block) : Below n A C :=
  h.grown hg hs (fun k hk => by
    cases p with
    | none => simp at hk
    | some x =>
      have : x.block = k := by simpa using hk
      subst this
      exact hp x rfl)
theorem below_call {w V w' : World} (h : Below w.heap.size w V) (k : Below V.heap.size V w') : Below w.heap.size w w' := h.trans (k.mono h.size)
theorem below_drew (w : World) : Below w.heap.size w w.drew := ⟨rfl, rfl, rfl, Nat.le_refl _, fun _ _ => rfl⟩

/-- Both have moved on. -/
theorem PCtx.moved {w : World} {base wb r : Nat} {p1 : Option Addr} {c1 : Nat} {xs : List Int} {a a' : Nat} {W W' : World} (C : PCtx w base wb r p1 c1 xs a W) (hr : Rd3 base W' r xs a') (hg : W.grownBy W' (some r)) (ha : a' ≤ xs.length) :
    PCtx w base wb r p1 c1 xs a' ((W'.setCell ⟨wb, 0, none⟩ (.slice p1 xs.length c1)).setCell ⟨wb, 1, none⟩ (.int .i64 a')) := by
  have h1 := C.hb
  have h2 := C.hw
  have h3 := C.ne
  have h4 := C.rd.ge
  refine ⟨?_, (hr.far _ _ h3).far _ _ h3, ?_, ha, h1, h2, h3⟩
  · simpa using ((C.want.grown hg (by simp; omega)).set_ 0 (.slice p1 xs.length c1)).set_ 1 (.int .i64 a')
  · have hb := C.bel.grown hg C.bel.size (fun k hk => by cases hk; omega)
    exact (hb.setCell (show w.heap.size ≤ wb by omega) _).setCell (show w.heap.size ≤ wb by omega) _

/-- A number is taken, of the reference's reader and of the program's. -/
theorem take_both {w : World} {base wb r : Nat} {p1 : Option Addr} {c1 : Nat} {xs : List Int} {a : Nat} {W : World} (hb : IsBytes xs) (hn : xs.length ≤ 1000000) (hx : ByS w p1 xs) (C : PCtx w base wb r p1 c1 xs a W) (k : Int) :
    ∃ (v no : Int) (a' : Nat), a' ≤ xs.length ∧
      (∀ V, Below W.heap.size W V → Calls Tryd.prog 15 #[.agg #[.slice p1 xs.length c1, .int .i64 a], .int .i64 k] V fun e w' => e = .returned (.tuple #[.agg #[.slice p1 xs.length c1, .int .i64 a'], .int .u32 v, .int .i64 no]) ∧ Below V.heap.size V w') ∧
      (∀ V, Rd3 base V r xs a → Fit3 V → Calls Tryd.prog 16 #[.pointer (some ⟨r, 0, none⟩), .int .i64 k] V fun e w' => e = .returned (.tuple #[.int .u32 v, .int .i64 no]) ∧ Rd3 base w' r xs a' ∧ V.grownBy w' (some r)) := by
  have hk : readNo xs a k = 0 → 1 ≤ k ∧ a + k.toNat ≤ xs.length := fun hz => by
    obtain ⟨q, m, e1, rfl, hm, hq, _⟩ := read_put hb hz
    have : q = a := by omega
    subst this
    simp
    omega
  refine ⟨readN xs a k, readNo xs a k, if readNo xs a k = 0 then a + k.toNat else a, ?_, fun V hV => ?_, fun V hV hfV => ?_⟩
  · split
    · rename_i h; exact (hk h).2
    · exact C.ha
  · have hxV : ByS V p1 xs := (hx.below C.bel).below hV
    refine (refTake_any p1 c1 xs hb hn a k (by omega) (by have := C.ha; omega) V hxV).mono fun e w' ⟨he, hw⟩ => ⟨?_, hw⟩
    by_cases hz : readNo xs a k = 0
    · rw [if_pos hz] at he
      rw [if_pos hz, he, hz]
      have := (hk hz).1
      rw [show (a : Int) + k = ((a + k.toNat : Nat) : Int) by omega]
    · rw [if_neg hz] at he
      have e1 : readN xs a k = 0 := if_neg hz
      rw [if_neg hz, he, e1]
  · exact take3_any V r xs a k hV C.ha hfV
/-- So many bytes are passed over. -/
theorem skip_both {w : World} {base wb r : Nat} {p1 : Option Addr} {c1 : Nat} {xs : List Int} {a : Nat} {W : World} (hn : xs.length ≤ 1000000) (C : PCtx w base wb r p1 c1 xs a W) (k : Int) :
    ∃ (no : Int) (a' : Nat), a' ≤ xs.length ∧
      (∀ V, Below W.heap.size W V → Calls Tryd.prog 17 #[.agg #[.slice p1 xs.length c1, .int .i64 a], .int .i64 k] V fun e w' => e = .returned (.tuple #[.agg #[.slice p1 xs.length c1, .int .i64 a'], .int .i64 no]) ∧ Below V.heap.size V w') ∧
      (∀ V, Rd3 base V r xs a → Calls Tryd.prog 18 #[.pointer (some ⟨r, 0, none⟩), .int .i64 k] V fun e w' => e = .returned (.int .i64 no) ∧ Rd3 base w' r xs a' ∧ V.grownBy w' (some r)) := by
  have hk : skipNo ((xs.length : Int) - a) k = 0 → 0 ≤ k ∧ a + k.toNat ≤ xs.length := fun hz => by
    have := C.ha
    unfold skipNo at hz
    by_cases h1 : k < 0
    · rw [if_pos h1] at hz; cases hz
    · rw [if_neg h1] at hz
      by_cases h2 : k > (xs.length : Int) - a
      · rw [if_pos h2] at hz; cases hz
      · omega
  refine ⟨skipNo ((xs.length : Int) - a) k, if skipNo ((xs.length : Int) - a) k = 0 then a + k.toNat else a, ?_, fun V hV => ?_, fun V hV => ?_⟩
  · split
    · rename_i h; exact (hk h).2
    · exact C.ha
  · refine (refSkip_any p1 c1 xs.length hn a k (by omega) (by have := C.ha; omega) V).mono fun e w' ⟨he, hw⟩ => ⟨?_, hw⟩
    by_cases hz : skipNo ((xs.length : Int) - a) k = 0
    · rw [if_pos hz] at he
      rw [if_pos hz, he, hz]
      have := (hk hz).1
      rw [show (a : Int) + k = ((a + k.toNat : Nat) : Int) by omega]
    · rw [if_neg hz] at he
      rw [if_neg hz, he]
  · exact skip3_any V r xs a k hV C.ha

/-- What is held may be said stronger from here on. -/
theorem wpAnyH_mono {P : Program} {md : Region.Mode} {ops : Array Oper} {Q : Exit → Act → World → Prop} {S S' : World → Prop} (h : ∀ w, S' w → S w) :
    ∀ (fuel : Nat) (listed : Array Bool) (a : Act) (w : World), wpAnyH P md ops Q S' fuel listed a w → wpAnyH P md ops Q S fuel listed a w
  | 0, _, _, _, h0 => h0
  | fuel + 1, _, _, _, h0 => ⟨h0.1, fun i hi => wpOp_mono (fun a' w' h' => ⟨h _ h'.1, wpAnyH_mono h fuel _ a' w' h'.2⟩) (h0.2 i hi)⟩

/-- One operation alone may come up: it is carried out. -/
theorem ready_call {P : Program} {md : Region.Mode} {ops : Array Oper} {Q : Exit → Act → World → Prop} {S : World → Prop} {fuel : Nat} {listed : Array Bool} {a : Act} {w : World} {i : Nat} {o : Oper} (hr : Region.ready md ops listed = [i]) (ho : ops[i]? = some o)
    (hw : Region.wanted o (yielded ops a.tmps) = true) (h : ∀ K' : Act → World → Prop, Shut (∀ a w, S w → (S w → wpAnyH P md ops Q S fuel (listed.setIfInBounds i true) a w) → K' a w) → Oper.wp P o a w K' Q) : wpAnyH P md ops Q S (fuel + 1) listed a w :=
  wpAnyH_ready hr (by simp) (AllReadyH.cons ho (fun K' hK => by rw [if_pos hw]; exact h K' hK) AllReadyH.nil)
end Go.Proofs.YthpmfeijnphdbaaDoor
