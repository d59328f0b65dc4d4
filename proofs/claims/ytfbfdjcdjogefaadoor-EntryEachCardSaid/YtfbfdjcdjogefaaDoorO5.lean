/- Layer 3: bytes as strings, and appended to a slice of one's own. -/
import Derived.Test.YtfbfdjcdjogefaaDoorO4
import Derived.Lib.SlFresh
namespace Go.Proofs.YtfbfdjcdjogefaaDoor
open Go Go.RowKit
attribute [local go_sem] Oper.semAt_some

/-- A slice of the call's own that holds these bytes. -/
abbrev OwnB (base : Nat) (w : World) (v : Value) (l : List Int) : Prop := w.ownsRow base 5 1 v l.length (l.map (Value.int .u8))

theorem OwnB.byS {base : Nat} {w : World} {v : Value} {l : List Int} (h : OwnB base w v l) : ∃ p c, v = .slice p l.length c ∧ l.length ≤ c ∧ ByS w p l ∧ (∀ a, p = some a → base ≤ a.block) := by
  rcases h.2 with ⟨rfl, hn⟩ | ⟨g, cap, cur, rfl, hb, hg, hc, hm, hs, ht⟩
  · exact ⟨none, 0, by rw [hn], by omega, fun h => by omega, fun a h => by cases h⟩
  · refine ⟨some ⟨g, 0, none⟩, cap, rfl, hc, fun _ => ⟨g, 0, rfl, ?_, fun i hi => ?_⟩, fun a h => by cases h; exact hb⟩
    · rcases Nat.lt_or_ge g w.heap.size with h | h
      · exact h
      · rw [Array.getElem?_eq_none h] at hg; cases hg
    · rw [cell_of_row w g (0 + i) cur _ (0, 0) hg, Nat.zero_add]
      have h2 : (cur.toList.take (l.length * 1))[i]? = (l.map (Value.int .u8))[i]? := by rw [ht]
      rw [List.getElem?_take_of_lt (by omega), Array.getElem?_toList] at h2
      rw [h2]
      simp [List.getElem?_eq_getElem hi]

/-- string(b). -/
theorem conv_bytes {w : World} {p : Option Addr} {l : List Int} (h : ByS w p l) (c : Nat) : (convert 26 9 (.slice p l.length c)).run Tryd.prog w = .ok (.string (strOfNums l)) w := by
  by_cases hl : 0 < l.length
  · obtain ⟨b, o, rfl, _, hc⟩ := h hl
    refine run_convert_bytes_arg (P := Tryd.prog) w 26 5 Tryd.underlying26 Tryd.underlying5 b o l.length c l rfl (fun i hi => ?_) 9 Tryd.underlying9
    rw [hc i hi]
    simp [List.getD, List.getElem?_eq_getElem hi]
  · have h0 : l = [] := List.eq_nil_of_length_eq_zero (by omega)
    subst h0
    rcases p with _ | a
    · exact run_convert_bytes_nil (P := Tryd.prog) w 26 5 Tryd.underlying26 Tryd.underlying5 _ c 9 Tryd.underlying9
    · rw [run_convert_bytes_string w 26 9 5 (some a) _ c Tryd.underlying26 Tryd.underlying5 Tryd.underlying9]
      simp [Conv.bytesToString, loadCells, loadCellsFrom, strOfNums]
      rfl

theorem app_bytes (base : Nat) (ty : TypeId) {w : World} {v : Value} {xs : List Int} (hown : OwnB base w v xs) {p : Option Addr} {ys : List Int} (hy : ByS w p ys) (c : Nat) (hn : xs.length + ys.length ≤ 1000000) (hbase : base ≤ w.heap.size) :
    ∃ v' w', (Builtin.append_ #[26, 26] ty #[v, .slice p ys.length c]).run Tryd.prog w = .ok v' w' ∧ OwnB base w' v' (xs ++ ys) ∧ w.grownBy w' v.ownBlock ∧ (v' = .slice none 0 0 ↔ v = .slice none 0 0 ∧ ys.length = 0) := by
  obtain ⟨i0, hi, hz0, hz1, hz2⟩ := info_parts infoU8
  by_cases hl : 0 < ys.length
  · obtain ⟨b, o, rfl, _, hc⟩ := hy hl
    have := run_append_own (P := Tryd.prog) w base 26 ty 5 i0 (.int .u8 0) 1 1 Tryd.underlying26 hi hz0 hz1 hz2 rfl (by decide) v xs.length (xs.map (Value.int .u8)) hown ⟨b, o, none⟩ ys.length c (ys.map (Value.int .u8)) (by simp)
      (fun j u hj => by
        have hj' : j < ys.length := by simpa using (List.getElem?_eq_some_iff.1 hj).1
        rw [Addr.add_lit, hc j hj', ← hj]
        simp [List.getElem?_eq_getElem hj'])
      (fun u hu => by obtain ⟨x, _, rfl⟩ := List.mem_map.1 hu; rfl) (by unfold maxLen; omega) (by omega) hbase
    unfold OwnB
    rw [List.length_append, List.map_append]
    exact this
  · have h0 : ys = [] := List.eq_nil_of_length_eq_zero (by omega)
    subst h0
    refine ⟨v, w, ?_, by rw [List.append_nil]; exact hown, grown_refl _ _, by simp⟩
    have hi1 := hi
    rcases hown.2 with ⟨rfl, _⟩ | ⟨g, cap, cur, rfl, hb, hg, hcc, hm, hs, ht⟩
    · rcases p with _ | a <;> simp [Builtin.append_, run_underlying Tryd.underlying26, sizeOf, typeInfo, hi, Builtin.lenOf, Builtin.firstCells, loadCells, loadCellsFrom]
    · rcases p with _ | a <;> simp [Builtin.append_, run_underlying Tryd.underlying26, sizeOf, typeInfo, hi, Builtin.lenOf, Builtin.firstCells, loadCells, loadCellsFrom, hcc, storeCells]
end Go.Proofs.YtfbfdjcdjogefaaDoor
