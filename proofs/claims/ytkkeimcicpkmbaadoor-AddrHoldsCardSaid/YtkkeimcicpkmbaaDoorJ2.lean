/- Contract of the law's own: begins. -/
import Derived.Test.YtkkeimcicpkmbaaDoorA6
import Derived.Test.YtkkeimcicpkmbaaDoorM4
namespace Go.Proofs.YtkkeimcicpkmbaaDoor
open Go Go.RowKit
attribute [local go_sem] Oper.semAt_some

theorem parsed_num (l : List UInt8) : (parsed l).2.2 = 0 ∨ (parsed l).2.2 = 110 := by
  rcases parsed_cases l with ⟨i, _, h⟩ | ⟨a, _, _, h, _⟩ <;> rw [h]
  · exact .inr rfl
  · exact .inl rfl

theorem begins_snoc {l : List UInt8} {k : Nat} (hk : k < ends.length) (h : ∀ e ∈ ends.take k, (parsed (l ++ e)).2.2 ≠ 0) (hn : (parsed (l ++ ends[k])).2.2 ≠ 0) : ∀ e ∈ ends.take (k + 1), (parsed (l ++ e)).2.2 ≠ 0 := by
  intro e he
  rw [List.take_succ_eq_append_getElem hk] at he
  rcases List.mem_append.1 he with he | he
  · exact h e he
  · rw [List.mem_singleton] at he
    rw [he]; exact hn

theorem begins_end {l : List UInt8} (h : ∀ e ∈ ends.take 8, (parsed (l ++ e)).2.2 ≠ 0) : beginsB l = false := by
  refine List.any_eq_false.2 (fun e he => ?_)
  have := h e (by simpa [ends] using he)
  simpa using this

theorem begins_here {l e : List UInt8} (he : e ∈ ends) (h : 0 = (parsed (l ++ e)).2.2) : beginsB l = true :=
  List.any_eq_true.2 ⟨e, he, by simpa using h.symm⟩

theorem parse_of (S : ByteArray) (l : List UInt8) (hl : S.data.toList = l) (w : World) :
    Calls Tryd.prog 15 #[.string S] w fun E w' => ∃ a i n : Int, E = .returned (.tuple #[.int .u32 a, .int .i64 i, .int .i64 n]) ∧ n = (parsed l).2.2 ∧ (n = 0 ∨ n = 110) ∧ Below w.heap.size w w' := by
  refine (parse_any S w).mono ?_
  rintro E w' ⟨he, hb⟩
  rw [hl] at he
  exact ⟨(parsed l).1, (parsed l).2.1, (parsed l).2.2, by rw [he, parseEnd], rfl, parsed_num l, hb⟩
theorem parse_app (s : ByteArray) (e : List UInt8) (w : World) :
    Calls Tryd.prog 15 #[.string (s ++ ⟨e.toArray⟩)] w fun E w' => ∃ a i n : Int, E = .returned (.tuple #[.int .u32 a, .int .i64 i, .int .i64 n]) ∧ n = (parsed (s.data.toList ++ e)).2.2 ∧ (n = 0 ∨ n = 110) ∧ Below w.heap.size w w' :=
  parse_of _ _ (by simp) w

set_option maxRecDepth 100000 in
set_option maxHeartbeats 3200000 in
theorem begins_any (s : ByteArray) (hs : s.size ≤ 20) (w : World) :
    Calls Tryd.prog 22 #[.string s] w fun e w' => e = .returned (.bool (beginsB s.data.toList)) ∧ Below w.heap.size w w' := by
  go_enter Tryd.func22, Tryd.ntmps22
  go_wp2_with fail
  go_loopw [3] (fun i wr => ∃ k : Nat, k ≤ 8 ∧ i = .int .i64 k ∧ Hid (∀ e ∈ ends.take k, (parsed (s.data.toList ++ e)).2.2 ≠ 0) ∧ Hid (Below w.heap.size w wr)) (fun i _ => 8 - (intOf i).toNat)
  case atStart => exact ⟨0, by omega, rfl, Lib.hid (by simp), Lib.hid (Below.refl _ _)⟩
  case round =>
    obtain ⟨k, hk, rfl, HH, HB⟩ := hrel
    by_cases hlt : k < 8
    · have hkc : k = 0 ∨ k = 1 ∨ k = 2 ∨ k = 3 ∨ k = 4 ∨ k = 5 ∨ k = 6 ∨ k = 7 := by omega
      rcases hkc with rfl | rfl | rfl | rfl | rfl | rfl | rfl | rfl
      all_goals
        go_wp2_with fail
        refine (parse_app s _ _).mono ?_
        rintro e w1 ⟨a, i, n, rfl, hn, hn2, hb⟩
        have hb1 := HB.out.trans ((((Below.refl wr.heap.size wr).alloc (Nat.le_refl _) _).trans (hb.mono (by simp))).mono HB.out.size)
        have HB1 := Lib.hid hb1
        have HN := Lib.hid hn
        clear hb hb1 hn
        rcases hn2 with rfl | rfl
        · go_wp2_with fail
          refine (num_any _ _).mono ?_
          rintro e wn ⟨rfl, rfl⟩
          have hbe := begins_here (by decide) HN.out
          go_wp2_with fail
          go_ret
          rw [hbe]
          exact ⟨rfl, HB1.out⟩
        · go_wp2_with fail
          refine (num_any _ _).mono ?_
          rintro e wn ⟨rfl, rfl⟩
          go_wp2_with fail
          go_roundw
          case rel => exact ⟨_, by omega, by go_num, Lib.hid (begins_snoc (by decide) HH.out (fun e => absurd (HN.out.trans e) (by decide))), HB1⟩
          case measure => simp [intOf]
    · obtain rfl : k = 8 := by omega
      have hbe := begins_end HH.out
      go_wp2_with fail
      go_ret
      rw [hbe]
      exact ⟨rfl, HB.out⟩
end Go.Proofs.YtkkeimcicpkmbaaDoor
