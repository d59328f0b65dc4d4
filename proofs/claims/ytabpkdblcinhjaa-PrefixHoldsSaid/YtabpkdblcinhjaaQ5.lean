/- PrefixHolds: its ways put together. -/
import Derived.Test.YtabpkdblcinhjaaQ2
import Derived.Test.YtabpkdblcinhjaaQ3
import Derived.Test.YtabpkdblcinhjaaQ4
namespace Go.Proofs.Ytabpkdblcinhjaa
open Go Go.RowKit Go.Sort

theorem ord_three (x n y m : Int) : (ordF x n y m = 0 ∧ x = y ∧ n = m) ∨ (ordF x n y m = -1 ∧ (x < y ∨ (x = y ∧ n < m))) ∨ (ordF x n y m = 1 ∧ (y < x ∨ (x = y ∧ m < n))) := by
  unfold ordF
  by_cases h1 : x = y ∧ n = m
  · rw [if_pos h1]; exact .inl ⟨rfl, h1⟩
  · rw [if_neg h1]
    by_cases h2 : x < y ∨ (x = y ∧ n < m)
    · rw [if_pos h2]; exact .inr (.inl ⟨rfl, h2⟩)
    · rw [if_neg h2]; exact .inr (.inr ⟨rfl, by omega⟩)
theorem ord_swap {x n y m : Int} (h : ordF x n y m = -1) : ordF y m x n = 1 := by
  rcases ord_three x n y m with ⟨h1, _⟩ | ⟨_, h2⟩ | ⟨h1, _⟩
  · omega
  · rcases ord_three y m x n with ⟨h3, _⟩ | ⟨h3, _⟩ | ⟨h3, _⟩
    · omega
    · omega
    · exact h3
  · omega
theorem dec_false {P : Prop} [Decidable P] (h : ¬ decide P = true) : decide P = false := by simpa using h
theorem eq2_false {U : Int} (h : ¬ U = 2) : (U == 2) = false := by simpa using h

set_option maxHeartbeats 800000 in
theorem law02_holds (x n y m z k a : Int) (x0 : 0 ≤ x) (x1 : x < 4294967296) (y0 : 0 ≤ y) (y1 : y < 4294967296) (z0 : 0 ≤ z) (z1 : z < 4294967296) (a0 : 0 ≤ a) (a1 : a < 4294967296) (w : World) :
    Calls Try.prog 6 #[pfx x n, pfx y m, pfx z k, .int .u32 a] w fun e w' => e = .returned (.bool true) ∧ Below w.heap.size w w' := by
  by_cases h : right x n ∧ right y m ∧ right z k
  · obtain ⟨hx, hy, hz⟩ := h
    have hq : ∀ {P : Prop} [Decidable P], (decide P = true ∨ decide P = false) := fun {P} _ => by by_cases h : P <;> simp [h]
    have had := stand_addrs hx hy a
    have hax := stand_addrs hx hy x
    rcases stand_swap hx hy with ⟨hX, hY⟩ | ⟨hX, hY⟩ | ⟨hX, hY⟩ | ⟨hX, hY⟩
    · have he : x = y ∧ n = m := by
        rcases stand_cases hx hy with ⟨_, h1, h2⟩ | ⟨g, _⟩ | ⟨g, _⟩ | ⟨g, _⟩
        · exact ⟨h1, h2⟩
        all_goals omega
      obtain ⟨e1, e2⟩ := he
      refine law02_h1 x n y m z k a x0 x1 y0 y1 z0 z1 a0 a1 hx hy hz w _ _ rfl rfl e1 e2 hX hY _ rfl ?_ ?_ ?_
      · subst e1 e2; exact decide_eq_true (has_self hx)
      · subst e1 e2; unfold ordF; rw [if_pos ⟨rfl, rfl⟩]
      · subst e1 e2; simp
    · have hmn : m < n := by
        rcases stand_cases hx hy with ⟨g, _⟩ | ⟨_, h1, _⟩ | ⟨g, _⟩ | ⟨g, _⟩
        · omega
        · exact h1
        all_goals omega
      have hqq : decide (hasP y m x) = true := decide_eq_true (hax.2.1 hX (has_self hx))
      have ho3 := within_behind hx hy hX
      have ho1 := ord_swap ho3
      have hn : ¬ n = m := by omega
      rcases @hq (hasP x n a) _ with h1 | h1
      · have h2 : decide (hasP y m a) = true := decide_eq_true (had.2.1 hX (of_decide_eq_true h1))
        by_cases e : x = y
        · exact law02_h2a1 x n y m z k a x0 x1 y0 y1 z0 z1 a0 a1 hx hy hz w _ _ rfl rfl h1 h2 e hn hX hY _ rfl hqq ho1 ho3
        · exact law02_h2a2 x n y m z k a x0 x1 y0 y1 z0 z1 a0 a1 hx hy hz w _ _ rfl rfl h1 h2 e hX hY _ rfl hqq ho1 ho3
      · by_cases e : x = y
        · exact law02_h2b1 x n y m z k a x0 x1 y0 y1 z0 z1 a0 a1 hx hy hz w _ _ rfl rfl h1 e hn hX hY _ rfl hqq ho1 ho3
        · exact law02_h2b2 x n y m z k a x0 x1 y0 y1 z0 z1 a0 a1 hx hy hz w _ _ rfl rfl h1 e hX hY _ rfl hqq ho1 ho3
    · have hmn : n < m := by
        rcases stand_cases hx hy with ⟨g, _⟩ | ⟨g, _⟩ | ⟨_, h1, _⟩ | ⟨g, _⟩
        · omega
        · omega
        · exact h1
        · omega
      have ho1 := within_behind hy hx hY
      have hn : ¬ n = m := by omega
      have ho2 : ordF y m z k = -1 ∨ ¬ ordF y m z k < 0 := by
        rcases ord_three y m z k with ⟨h3, _⟩ | ⟨h3, _⟩ | ⟨h3, _⟩ <;> omega
      have hself : x = y → decide (hasP y m x) = true := fun e => by subst e; exact decide_eq_true (has_self hy)
      rcases @hq (hasP y m a) _ with h2 | h2
      · have h1 : decide (hasP x n a) = true := decide_eq_true (had.2.2.1 hX (of_decide_eq_true h2))
        by_cases e : x = y
        · rcases ho2 with ho2 | ho2
          · by_cases hu : standF z k x n = 2
            · exact law02_h3a1ul x n y m z k a x0 x1 y0 y1 z0 z1 a0 a1 hx hy hz w _ _ rfl rfl h2 h1 e hn (hself e) hX hY _ rfl hu ho1 ho2
            · exact law02_h3a1vl x n y m z k a x0 x1 y0 y1 z0 z1 a0 a1 hx hy hz w _ _ rfl rfl h2 h1 e hn (hself e) hX hY _ rfl (eq2_false hu) ho1 ho2
          · exact law02_h3a1ug x n y m z k a x0 x1 y0 y1 z0 z1 a0 a1 hx hy hz w _ _ rfl rfl h2 h1 e hn (hself e) hX hY _ rfl ho1 _ ho2 rfl
        · rcases @hq (hasP y m x) _ with hqq | hqq
          · rcases ho2 with ho2 | ho2
            · by_cases hu : standF z k x n = 2
              · exact law02_h3a2tul x n y m z k a x0 x1 y0 y1 z0 z1 a0 a1 hx hy hz w _ _ rfl rfl h2 h1 e hqq hX hY _ rfl hu ho1 ho2
              · exact law02_h3a2tvl x n y m z k a x0 x1 y0 y1 z0 z1 a0 a1 hx hy hz w _ _ rfl rfl h2 h1 e hqq hX hY _ rfl (eq2_false hu) ho1 ho2
            · exact law02_h3a2tug x n y m z k a x0 x1 y0 y1 z0 z1 a0 a1 hx hy hz w _ _ rfl rfl h2 h1 e hqq hX hY _ rfl ho1 _ ho2 rfl
          · rcases ho2 with ho2 | ho2
            · by_cases hu : standF z k x n = 2
              · exact law02_h3a2ful x n y m z k a x0 x1 y0 y1 z0 z1 a0 a1 hx hy hz w _ _ rfl rfl h2 h1 e hqq hX hY _ rfl hu ho1 ho2
              · exact law02_h3a2fvl x n y m z k a x0 x1 y0 y1 z0 z1 a0 a1 hx hy hz w _ _ rfl rfl h2 h1 e hqq hX hY _ rfl (eq2_false hu) ho1 ho2
            · exact law02_h3a2fug x n y m z k a x0 x1 y0 y1 z0 z1 a0 a1 hx hy hz w _ _ rfl rfl h2 h1 e hqq hX hY _ rfl ho1 _ ho2 rfl
      · by_cases e : x = y
        · rcases ho2 with ho2 | ho2
          · by_cases hu : standF z k x n = 2
            · exact law02_h3b1ul x n y m z k a x0 x1 y0 y1 z0 z1 a0 a1 hx hy hz w _ _ rfl rfl h2 e hn (hself e) hX hY _ rfl hu ho1 ho2
            · exact law02_h3b1vl x n y m z k a x0 x1 y0 y1 z0 z1 a0 a1 hx hy hz w _ _ rfl rfl h2 e hn (hself e) hX hY _ rfl (eq2_false hu) ho1 ho2
          · exact law02_h3b1ug x n y m z k a x0 x1 y0 y1 z0 z1 a0 a1 hx hy hz w _ _ rfl rfl h2 e hn (hself e) hX hY _ rfl ho1 _ ho2 rfl
        · rcases @hq (hasP y m x) _ with hqq | hqq
          · rcases ho2 with ho2 | ho2
            · by_cases hu : standF z k x n = 2
              · exact law02_h3b2tul x n y m z k a x0 x1 y0 y1 z0 z1 a0 a1 hx hy hz w _ _ rfl rfl h2 e hqq hX hY _ rfl hu ho1 ho2
              · exact law02_h3b2tvl x n y m z k a x0 x1 y0 y1 z0 z1 a0 a1 hx hy hz w _ _ rfl rfl h2 e hqq hX hY _ rfl (eq2_false hu) ho1 ho2
            · exact law02_h3b2tug x n y m z k a x0 x1 y0 y1 z0 z1 a0 a1 hx hy hz w _ _ rfl rfl h2 e hqq hX hY _ rfl ho1 _ ho2 rfl
          · rcases ho2 with ho2 | ho2
            · by_cases hu : standF z k x n = 2
              · exact law02_h3b2ful x n y m z k a x0 x1 y0 y1 z0 z1 a0 a1 hx hy hz w _ _ rfl rfl h2 e hqq hX hY _ rfl hu ho1 ho2
              · exact law02_h3b2fvl x n y m z k a x0 x1 y0 y1 z0 z1 a0 a1 hx hy hz w _ _ rfl rfl h2 e hqq hX hY _ rfl (eq2_false hu) ho1 ho2
            · exact law02_h3b2fug x n y m z k a x0 x1 y0 y1 z0 z1 a0 a1 hx hy hz w _ _ rfl rfl h2 e hqq hX hY _ rfl ho1 _ ho2 rfl
    · have hap := stand_cases hx hy
      have hne : ¬ x = y := fun e => by
        have p1 := wgt_pos n.toNat
        have p2 := wgt_pos m.toNat
        rcases hap with ⟨g, _⟩ | ⟨g, _⟩ | ⟨g, _⟩ | ⟨_, g⟩ <;> omega
      have hqq : decide (hasP y m x) = false := decide_eq_false (hax.2.2.2 hX (has_self hx))
      have hoo : ordF x n y m = 1 ∨ (ordF x n y m = -1 ∧ ¬ ordF y m z k < 0) ∨ (ordF x n y m = -1 ∧ ordF y m z k = -1 ∧ ¬ standF z k x n = 2) := by
        rcases ord_three x n y m with ⟨_, h3, _⟩ | ⟨h3, _⟩ | ⟨h3, _⟩
        · exact absurd h3 hne
        · rcases ord_three y m z k with ⟨h4, _⟩ | ⟨h4, _⟩ | ⟨h4, _⟩
          · exact .inr (.inl ⟨h3, by omega⟩)
          · refine .inr (.inr ⟨h3, h4, fun e => ?_⟩)
            have := between_within hx hy hz h3 h4 e
            omega
          · exact .inr (.inl ⟨h3, by omega⟩)
        · exact .inl h3
      rcases @hq (hasP x n a) _ with h1 | h1
      · have h2 : decide (hasP y m a) = false := decide_eq_false (had.2.2.2 hX (of_decide_eq_true h1))
        rcases hoo with ho | ⟨ho, ho2⟩ | ⟨ho, ho2, hu⟩
        · exact law02_h4a2g x n y m z k a x0 x1 y0 y1 z0 z1 a0 a1 hx hy hz w _ _ rfl rfl h1 h2 hne hX hY _ rfl hqq ho
        · exact law02_h4a2lg x n y m z k a x0 x1 y0 y1 z0 z1 a0 a1 hx hy hz w _ _ rfl rfl h1 h2 hne hX hY _ rfl hqq ho _ ho2 rfl
        · exact law02_h4a2ll x n y m z k a x0 x1 y0 y1 z0 z1 a0 a1 hx hy hz w _ _ rfl rfl h1 h2 hne hX hY _ rfl hqq ho ho2 (eq2_false hu)
      · rcases hoo with ho | ⟨ho, ho2⟩ | ⟨ho, ho2, hu⟩
        · exact law02_h4b2g x n y m z k a x0 x1 y0 y1 z0 z1 a0 a1 hx hy hz w _ _ rfl rfl h1 hne hX hY _ rfl hqq ho
        · exact law02_h4b2lg x n y m z k a x0 x1 y0 y1 z0 z1 a0 a1 hx hy hz w _ _ rfl rfl h1 hne hX hY _ rfl hqq ho _ ho2 rfl
        · exact law02_h4b2ll x n y m z k a x0 x1 y0 y1 z0 z1 a0 a1 hx hy hz w _ _ rfl rfl h1 hne hX hY _ rfl hqq ho ho2 (eq2_false hu)
  · exact law02_holds_no x n y m z k a x0 x1 y0 y1 z0 z1 h w
end Go.Proofs.Ytabpkdblcinhjaa
