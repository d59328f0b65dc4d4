/- Plain words of layer 1: a text that Parse takes is the text of what it tells. -/
import Derived.Test.YtabpkdblcinhjaaDoorB3
import Derived.Test.YtabpkdblcinhjaaDoorM1
namespace Go.Proofs.YtabpkdblcinhjaaDoor
open Go Go.RowKit

theorem dec_snoc (u v : Nat) (hu : 0 < u) (hv : v ≤ 9) : Lib.decDigits (10 * u + v) = Lib.decDigits u ++ [UInt8.ofNat (48 + v)] := by
  rw [Lib.decDigits, dif_neg (by omega), show (10 * u + v) / 10 = u from by omega, show (10 * u + v) % 10 = v from by omega]

theorem ofNat_of_toNat (c : UInt8) (v : Nat) (h : c.toNat = 48 + v) : c = UInt8.ofNat (48 + v) := by
  rw [← h]; simp

/-- The digits over which numFrom goes are the number's. -/
theorem num_text : ∀ (l : List UInt8) (n : Int) (m : Nat) (w : List UInt8), 0 ≤ n → m = w.length → (m = 0 → n = 0) → (0 < m → w = Lib.itoa n) → 0 < (numFrom l n m).2 →
    w ++ l.take ((numFrom l n m).2 - m) = Lib.itoa (numFrom l n m).1 ∧ m ≤ (numFrom l n m).2
  | [], n, m, w, _, _, _, hw, h => by
    simp only [numFrom] at h ⊢
    simp [hw h]
  | c :: r, n, m, w, hn, hm, h0, hw, h => by
    by_cases hc : (48 ≤ (c.toNat : Int) ∧ (c.toNat : Int) ≤ 57) ∧ ¬ ((0 < m ∧ n = 0) ∨ 255 < 10 * n + ((c.toNat : Int) - 48))
    · rw [numFrom_go hc] at h ⊢
      have hv : c = UInt8.ofNat (48 + (c.toNat - 48)) := ofNat_of_toNat c _ (by omega)
      have hstep : w ++ [c] = Lib.itoa (10 * n + ((c.toNat : Int) - 48)) := by
        obtain ⟨u, rfl⟩ : ∃ u : Nat, n = u := ⟨n.toNat, by omega⟩
        rw [show 10 * (u : Int) + ((c.toNat : Int) - 48) = ((10 * u + (c.toNat - 48) : Nat) : Int) from by omega, itoa_dec]
        by_cases hm0 : 0 < m
        · have hu : 0 < u := by
            have : ¬ ((u : Int) = 0) := fun x => hc.2 (.inl ⟨hm0, x⟩)
            omega
          rw [dec_snoc u _ hu (by omega), hw hm0, itoa_dec, ← hv]
        · have hu : u = 0 := by have := h0 (by omega); omega
          subst hu
          have hwn : w = [] := List.eq_nil_of_length_eq_zero (by omega)
          rw [hwn, Lib.decDigits, dif_pos (by omega), show 10 * 0 + (c.toNat - 48) = c.toNat - 48 from by omega, ← hv]
          rfl
      obtain ⟨e, hle⟩ := num_text r (10 * n + ((c.toNat : Int) - 48)) (m + 1) (w ++ [c]) (by omega) (by simp; omega) (by omega) (fun _ => hstep) h
      refine ⟨?_, by omega⟩
      rw [← e, List.append_assoc]
      congr 1
      obtain ⟨j, hj⟩ : ∃ j, (numFrom r (10 * n + ((c.toNat : Int) - 48)) (m + 1)).2 = m + 1 + j := ⟨_, (Nat.add_sub_cancel' hle).symm⟩
      rw [hj, show m + 1 + j - m = j + 1 from by omega, show m + 1 + j - (m + 1) = j from by omega]
      rfl
    · rw [numFrom_stop hc] at h ⊢
      simp [hw h]

/-- Parts as a text, a dot between each two. -/
def partsText : List Int → List UInt8
  | [] => []
  | [p] => Lib.itoa p
  | p :: r => Lib.itoa p ++ 46 :: partsText r

def partsVal : Int → List Int → Int
  | n, [] => n
  | n, p :: r => partsVal (256 * n + p) r

theorem partsText_cons (p : Int) (r : List Int) (h : 0 < r.length) : partsText (p :: r) = Lib.itoa p ++ 46 :: partsText r := by
  cases r with
  | nil => simp at h
  | cons q r => rfl

theorem head_text : ∀ (r : Nat) (n : Int) (l : List UInt8) (i : Nat) (a : Int) (e : Nat), headFrom (r + 1) n l i = (a, e, true) →
    ∃ ps : List Int, ps.length = r + 1 ∧ (∀ p ∈ ps, 0 ≤ p ∧ p ≤ 255) ∧ a = partsVal n ps ∧ ∃ rest, l = partsText ps ++ rest ∧ e = i + (partsText ps).length
  | r, n, l, i, a, e, h => by
    have hb := numFrom_bound l 0 0 (by omega) (by omega)
    by_cases hz : (numFrom l 0 0).2 = 0
    · rw [headFrom_none hz] at h
      cases h
    · rw [headFrom_some hz] at h
      obtain ⟨ht, _⟩ := num_text l 0 0 [] (by omega) rfl (fun _ => rfl) (fun x => absurd x (by omega)) (by omega)
      rw [Nat.sub_zero, List.nil_append] at ht
      have hlen : (Lib.itoa (numFrom l 0 0).1).length = (numFrom l 0 0).2 := by
        rw [← ht, List.length_take]; omega
      have hsplit : l = Lib.itoa (numFrom l 0 0).1 ++ l.drop (numFrom l 0 0).2 := by
        rw [← ht, List.take_append_drop]
      generalize (numFrom l 0 0).1 = p at *
      generalize (numFrom l 0 0).2 = m at *
      generalize l.drop m = rest at *
      match r with
      | 0 =>
        simp only [behind, if_true, Prod.mk.injEq] at h
        refine ⟨[p], rfl, fun q hq => by have : q = p := by simpa using hq
                                         subst this; omega, h.1.symm, rest, hsplit, ?_⟩
        simp only [partsText]; omega
      | r + 1 =>
        unfold behind at h
        rw [if_neg (by omega)] at h
        cases rest with
        | nil => simp at h
        | cons c l' =>
          simp only at h
          by_cases hd : (c.toNat : Int) = 46
          · rw [if_pos hd] at h
            obtain ⟨ps, h1, h2, h3, rest', h4, h5⟩ := head_text r _ l' _ a e h
            have hc : c = 46 := by
              have : c.toNat = 46 := by omega
              exact UInt8.toNat_inj.1 this
            refine ⟨p :: ps, by simp [h1], fun q hq => ?_, h3, rest', ?_, ?_⟩
            · rcases List.mem_cons.1 hq with rfl | hq
              · omega
              · exact h2 q hq
            · rw [partsText_cons p ps (by omega), hsplit, hc, h4]; simp
            · rw [partsText_cons p ps (by omega), h5]; simp; omega
          · rw [if_neg hd] at h; cases h

theorem partsText4 (p0 p1 p2 p3 : Int) (h0 : 0 ≤ p0 ∧ p0 ≤ 255) (h1 : 0 ≤ p1 ∧ p1 ≤ 255) (h2 : 0 ≤ p2 ∧ p2 ≤ 255) (h3 : 0 ≤ p3 ∧ p3 ≤ 255) :
    txt (partsVal 0 [p0, p1, p2, p3]) = partsText [p0, p1, p2, p3] ∧ 0 ≤ partsVal 0 [p0, p1, p2, p3] ∧ partsVal 0 [p0, p1, p2, p3] < 4294967296 := by
  have e0 : pt (partsVal 0 [p0, p1, p2, p3]) 0 = p0 := by simp only [pt, partsVal]; omega
  have e1 : pt (partsVal 0 [p0, p1, p2, p3]) 1 = p1 := by simp only [pt, partsVal]; omega
  have e2 : pt (partsVal 0 [p0, p1, p2, p3]) 2 = p2 := by simp only [pt, partsVal]; omega
  have e3 : pt (partsVal 0 [p0, p1, p2, p3]) 3 = p3 := by simp only [pt, partsVal]; omega
  refine ⟨?_, ?_, ?_⟩
  · unfold txt; rw [e0, e1, e2, e3]; rfl
  · simp only [partsVal]; omega
  · simp only [partsVal]; omega

theorem head_le : ∀ (r : Nat) (n : Int) (l : List UInt8) (i : Nat), (headFrom r n l i).2.1 ≤ i + l.length
  | 0, n, l, i => by simp [headFrom]
  | r + 1, n, l, i => by
    have hb := numFrom_bound l 0 0 (by omega) (by omega)
    by_cases hz : (numFrom l 0 0).2 = 0
    · rw [headFrom_none hz]
      simp only; omega
    · rw [headFrom_some hz]
      have hlen : (l.drop (numFrom l 0 0).2).length = l.length - (numFrom l 0 0).2 := List.length_drop
      generalize (numFrom l 0 0).1 = p at *
      generalize (numFrom l 0 0).2 = m at *
      generalize l.drop m = rest at *
      unfold behind
      split
      · simp only; omega
      · cases rest with
        | nil => simp only; omega
        | cons c l' =>
          simp only [List.length_cons] at hlen
          simp only
          split
          · have := head_le r (256 * n + p) l' (i + m + 1)
            omega
          · simp only; omega

/-- What Parse tells: an error, and 0; or an address, the text's length, and the text is the address's. -/
theorem parsed_cases (l : List UInt8) : (∃ i : Nat, i ≤ l.length ∧ parsed l = (0, (i : Int), 110)) ∨ (∃ a : Int, 0 ≤ a ∧ a < 4294967296 ∧ parsed l = (a, (l.length : Int), 0) ∧ txt a = l) := by
  rw [parsed_ref]
  unfold refParsed
  by_cases h : (headFrom 4 0 l 0).2.2 = true ∧ ¬ (headFrom 4 0 l 0).2.1 < l.length
  · rw [if_pos h]
    right
    obtain ⟨h1, h2⟩ := h
    obtain ⟨ps, hl, hr, ha, rest, hs, he⟩ := head_text 3 0 l 0 (headFrom 4 0 l 0).1 (headFrom 4 0 l 0).2.1 (by rw [← h1])
    match ps, hl with
    | [p0, p1, p2, p3], _ =>
      obtain ⟨t, a0, a1⟩ := partsText4 p0 p1 p2 p3 (hr _ (by simp)) (hr _ (by simp)) (hr _ (by simp)) (hr _ (by simp))
      have hll : l.length = (partsText [p0, p1, p2, p3]).length + rest.length := by
        conv => lhs; rw [hs]
        exact List.length_append
      have hrest : rest = [] := List.eq_nil_of_length_eq_zero (by omega)
      subst hrest
      rw [List.append_nil] at hs
      refine ⟨(headFrom 4 0 l 0).1, ?_, ?_, ?_, ?_⟩
      · rw [ha]; exact a0
      · rw [ha]; exact a1
      · simp only [List.length_nil, Nat.add_zero] at hll
        rw [he, hll]; simp
      · rw [ha, t]; exact hs.symm
  · rw [if_neg h]
    left
    exact ⟨(headFrom 4 0 l 0).2.1, by have := head_le 4 0 l 0; omega, rfl⟩
end Go.Proofs.YtabpkdblcinhjaaDoor
