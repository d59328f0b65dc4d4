/- Plain words of layer 1: Each of Join; what begins an address's text. -/
import Derived.Test.YtkkeimcicpkmbaaDoorM3
import Derived.Test.YtkkeimcicpkmbaaDoorM1
namespace Go.Proofs.YtkkeimcicpkmbaaDoor
open Go Go.RowKit

theorem parsed_txt (a : Int) (h0 : 0 ≤ a) (h1 : a < 4294967296) : parsed (txt a) = (a, ((txt a).length : Int), 0) := by
  obtain ⟨d, hd, e⟩ := scan_txt a h0 h1 [] 0
  rw [List.append_nil] at e
  simp only [scan] at e
  simp only [parsed, e]
  rw [if_pos ⟨trivial, hd⟩]
  simp only [Rd.put, Int.reduceEq, if_false, addrOf, pt_of a]

theorem scan_free : ∀ (l : List UInt8) (s s' : Rd) (i : Nat), scan l s i = .ok s' → ∀ c ∈ l, c ≠ 32
  | [], _, _, _, _, _, hc => by simp at hc
  | c :: r, s, s', i, h, c', hc => by
    simp only [scan] at h
    cases hs : s.step c.toNat with
    | none => rw [hs] at h; cases h
    | some s1 =>
      rw [hs] at h
      rcases List.mem_cons.1 hc with rfl | hc
      · intro e
        subst e
        unfold Rd.step at hs
        rw [if_neg (by decide), if_neg (by decide)] at hs
        cases hs
      · exact scan_free r s1 s' (i + 1) h c' hc

theorem txt_free (a : Int) (h0 : 0 ≤ a) (h1 : a < 4294967296) : ∀ c ∈ txt a, c ≠ 32 := by
  obtain ⟨d, _, e⟩ := scan_txt a h0 h1 [] 0
  rw [List.append_nil] at e
  simp only [scan] at e
  exact scan_free _ _ _ _ e

theorem cut32_at : ∀ (w r : List UInt8), (∀ c ∈ w, c ≠ 32) → cut32 (w ++ 32 :: r) = (w, r, true)
  | [], r, _ => by simp [cut32]
  | c :: w, r, h => by
    have := cut32_at w r (fun c hc => h c (List.mem_cons_of_mem _ hc))
    simp only [List.cons_append, cut32, if_neg (h c List.mem_cons_self), this]
theorem cut32_none : ∀ (w : List UInt8), (∀ c ∈ w, c ≠ 32) → cut32 w = (w, [], false)
  | [], _ => by simp [cut32]
  | c :: w, h => by
    have := cut32_none w (fun c hc => h c (List.mem_cons_of_mem _ hc))
    simp only [cut32, if_neg (h c List.mem_cons_self), this]

/-- Addresses' texts, a blank between each two. -/
def joinT : List Int → List UInt8
  | [] => []
  | [a] => txt a
  | a :: b :: r => txt a ++ 32 :: joinT (b :: r)

/-- Their places, and they. -/
def placesT : Nat → List Int → List (Int × Int)
  | _, [] => []
  | i, a :: r => ((i : Int), a) :: placesT (i + (txt a).length + 1) r

theorem joinT_join : ∀ (xs : List Int), Lib.join (xs.map txt) [32] = joinT xs
  | [] => rfl
  | [a] => by simp [Lib.join_one, joinT]
  | a :: b :: r => by
    have ih := joinT_join (b :: r)
    rw [List.map_cons, Lib.join_cons] at ih ⊢
    simp only [List.map_cons, Lib.joinTail, List.flatten_cons, joinT] at ih ⊢
    rw [← ih]
    simp

theorem placesT_length : ∀ (xs : List Int) (i : Nat), (placesT i xs).length = xs.length
  | [], _ => rfl
  | a :: r, i => by simp [placesT, placesT_length r]

theorem placesT_addr : ∀ (xs : List Int) (i : Nat), (placesT i xs).map (·.2) = xs
  | [], _ => rfl
  | a :: r, i => by simp [placesT, placesT_addr r]

theorem placesT_place : ∀ (xs : List Int) (i : Nat), ∀ p ∈ placesT i xs, (i : Int) ≤ p.1 ∧ p.1 ≤ i + (joinT xs).length
  | [], i, p, h => by simp [placesT] at h
  | [a], i, p, h => by
    simp [placesT] at h
    subst h
    simp only; omega
  | a :: b :: r, i, p, h => by
    have ih := placesT_place (b :: r) (i + (txt a).length + 1)
    rw [placesT] at h
    rcases List.mem_cons.1 h with rfl | h
    · simp; omega
    · have := ih p h
      simp only [joinT, List.length_append, List.length_cons]
      omega

theorem parsed_nil : parsed [] = (0, 0, 110) := by decide

theorem eachF_joinT : ∀ (xs : List Int) (n i : Nat), xs.length ≤ n → (∀ x ∈ xs, 0 ≤ x ∧ x < 4294967296) → eachF n i (joinT xs) = placesT i xs
  | [], n, i, _, _ => by
    cases n with
    | zero => rfl
    | succ n => simp [eachF, joinT, cut32, parsed_nil, placesT]
  | [a], n, i, hn, h => by
    cases n with
    | zero => simp at hn
    | succ n =>
      have ha := h a (by simp)
      have hc := cut32_none (txt a) (txt_free a ha.1 ha.2)
      simp only [eachF, joinT, hc, parsed_txt a ha.1 ha.2, if_true, placesT]
      simp
  | a :: b :: r, n, i, hn, h => by
    cases n with
    | zero => simp at hn
    | succ n =>
      have ha := h a (by simp)
      have hc := cut32_at (txt a) (joinT (b :: r)) (txt_free a ha.1 ha.2)
      have ih := eachF_joinT (b :: r) n (i + (txt a).length + 1) (by simp at hn ⊢; omega) (fun x hx => h x (List.mem_cons_of_mem _ hx))
      simp only [eachF, joinT, hc, parsed_txt a ha.1 ha.2, if_true, placesT] at ih ⊢
      rw [ih]

theorem joinT_long : ∀ (xs : List Int), (∀ x ∈ xs, 0 ≤ x ∧ x < 4294967296) → xs.length ≤ (joinT xs).length + 1
  | [], _ => by simp
  | [a], _ => by simp
  | a :: b :: r, h => by
    have := joinT_long (b :: r) (fun x hx => h x (List.mem_cons_of_mem _ hx))
    simp only [joinT, List.length_append, List.length_cons] at this ⊢
    omega

theorem joinT_len : ∀ (xs : List Int), (∀ x ∈ xs, 0 ≤ x ∧ x < 4294967296) → (joinT xs).length ≤ 16 * xs.length
  | [], _ => by simp [joinT]
  | [a], h => by
    have ha := h a (by simp)
    have := txt_len a ha.1 ha.2
    simp [joinT]; omega
  | a :: b :: r, h => by
    have ha := h a (by simp)
    have hl := txt_len a ha.1 ha.2
    have := joinT_len (b :: r) (fun x hx => h x (List.mem_cons_of_mem _ hx))
    simp only [joinT, List.length_append, List.length_cons] at this ⊢
    omega

/-- Each of Join tells the addresses, in their order, each with a place within the text. -/
theorem each_join (xs : List Int) (h : ∀ x ∈ xs, 0 ≤ x ∧ x < 4294967296) : eachF ((joinT xs).length + 1) 0 (joinT xs) = placesT 0 xs :=
  eachF_joinT xs _ 0 (joinT_long xs h) h

/-- The ends with which the law goes on. -/
def ends : List (List UInt8) := [[], [48], [46, 48], [48, 46, 48], [46, 48, 46, 48], [48, 46, 48, 46, 48], [46, 48, 46, 48, 46, 48], [48, 46, 48, 46, 48, 46, 48]]
def beginsB (l : List UInt8) : Bool := ends.any fun e => decide ((parsed (l ++ e)).2.2 = 0)

def Rd.Z (s : Rd) : Prop := s.d = 0 → s.p = 0
theorem Rd.Z.step {s s' : Rd} {c : Int} (ho : s.Ok) (hs : s.step c = some s') : s'.Z := by
  have hd := ho.d0
  unfold Rd.step at hs
  split at hs
  · split at hs
    · cases hs
    · cases hs
      intro h
      simp only at h
      omega
  · split at hs
    · split at hs
      · cases hs
      · cases hs
        unfold Rd.put Rd.Z
        split
        · simp
        · split
          · simp
          · split <;> simp
    · cases hs

theorem scan_at : ∀ (l : List UInt8) (s : Rd) (i : Nat), s.Ok → s.Z →
    (∃ s', s'.Ok ∧ s'.Z ∧ ∀ r, scan (l ++ r) s i = scan r s' (i + l.length)) ∨
    (∃ k s', ∃ hk : k < l.length, scan l s i = .error (i + k) ∧ s'.Ok ∧ s'.Z ∧ (∀ r, scan (l.take k ++ r) s i = scan r s' (i + k)) ∧ s'.step (l[k]'hk).toNat = none)
  | [], s, i, ho, hz => .inl ⟨s, ho, hz, fun r => by simp⟩
  | c :: l, s, i, ho, hz => by
    cases hs : s.step c.toNat with
    | none => exact .inr ⟨0, s, by simp, by simp [scan, hs], ho, hz, fun r => by simp, by simpa using hs⟩
    | some s1 =>
      rcases scan_at l s1 (i + 1) (ho.step hs) (Rd.Z.step ho hs) with ⟨s', h1, h2, h3⟩ | ⟨k, s', hk, h1, h2, h3, h4, h5⟩
      · refine .inl ⟨s', h1, h2, fun r => ?_⟩
        rw [List.cons_append, scan_cons hs, h3 r, List.length_cons, show i + 1 + l.length = i + (l.length + 1) from by omega]
      · refine .inr ⟨k + 1, s', by simp; omega, ?_, h2, h3, fun r => ?_, by simpa using h5⟩
        · rw [scan_cons hs, h1, show i + 1 + k = i + (k + 1) from by omega]
        · rw [List.take_succ_cons, List.cons_append, scan_cons hs, h4 r, show i + 1 + k = i + (k + 1) from by omega]

theorem scan_zero (s : Rd) (hp : s.p = 0) (hd : s.d = 0) (r : List UInt8) (i : Nat) : ∃ s', scan (48 :: r) s i = scan r s' (i + 1) ∧ s'.k = s.k ∧ s'.d = 1 := by
  obtain ⟨q0, q1, q2, q3, k, p, d⟩ := s
  simp only at hp hd
  subst hp hd
  exact ⟨⟨q0, q1, q2, q3, k, 0, 1⟩, scan_dig q0 q1 q2 q3 k 0 0 0 r i (by omega) (by omega) (by omega), rfl, rfl⟩
theorem scan_more (s : Rd) (h0 : 0 ≤ s.k) (h3 : s.k < 3) (hd : 0 < s.d) (r : List UInt8) (i : Nat) : ∃ s', scan (46 :: 48 :: r) s i = scan r s' (i + 1 + 1) ∧ s'.k = s.k + 1 ∧ s'.d = 1 := by
  have hput : s.put.p = 0 ∧ s.put.d = 0 ∧ s.put.k = s.k + 1 := by
    unfold Rd.put
    split
    · simp_all
    · split
      · simp_all
      · split
        · simp_all
        · omega
  obtain ⟨s', h1, h2, h3'⟩ := scan_zero s.put hput.1 hput.2.1 r (i + 1)
  exact ⟨s', by rw [scan_dot s _ _ (by omega) hd, h1], by rw [h2, hput.2.2], h3'⟩

/-- Behind a digit: a dot and a zero for each part that is wanted. -/
theorem some_end1 (s : Rd) (i : Nat) (h0 : 0 ≤ s.k) (h3 : s.k ≤ 3) (hd : 0 < s.d) : ∃ s', scan (if s.k = 3 then [] else if s.k = 2 then [46, 48] else if s.k = 1 then [46, 48, 46, 48] else [46, 48, 46, 48, 46, 48]) s i = .ok s' ∧ s'.k = 3 ∧ 0 < s'.d := by
  by_cases k3 : s.k = 3
  · exact ⟨s, by rw [if_pos k3]; rfl, k3, hd⟩
  rw [if_neg k3]
  by_cases k2 : s.k = 2
  · rw [if_pos k2]
    obtain ⟨s1, e1, a1, b1⟩ := scan_more s h0 (by omega) hd [] i
    exact ⟨s1, by rw [e1]; rfl, by omega, by omega⟩
  rw [if_neg k2]
  by_cases k1 : s.k = 1
  · rw [if_pos k1]
    obtain ⟨s1, e1, a1, b1⟩ := scan_more s h0 (by omega) hd [46, 48] i
    obtain ⟨s2, e2, a2, b2⟩ := scan_more s1 (by omega) (by omega) (by omega) [] (i + 1 + 1)
    exact ⟨s2, by rw [e1, e2]; rfl, by omega, by omega⟩
  rw [if_neg k1]
  obtain ⟨s1, e1, a1, b1⟩ := scan_more s h0 (by omega) hd [46, 48, 46, 48] i
  obtain ⟨s2, e2, a2, b2⟩ := scan_more s1 (by omega) (by omega) (by omega) [46, 48] (i + 1 + 1)
  obtain ⟨s3, e3, a3, b3⟩ := scan_more s2 (by omega) (by omega) (by omega) [] (i + 1 + 1 + 1 + 1)
  exact ⟨s3, by rw [e1, e2, e3]; rfl, by omega, by omega⟩

theorem some_end (s : Rd) (i : Nat) (ho : s.Ok) (hz : s.Z) : ∃ e ∈ ends, ∃ s', scan e s i = .ok s' ∧ s'.k = 3 ∧ 0 < s'.d := by
  have h0 := ho.k0
  have h3 := ho.k3
  have hd0 := ho.d0
  by_cases hd : s.d = 0
  · have key : ∀ r, ∃ s', scan (48 :: r) s i = scan r s' (i + 1) ∧ s'.k = s.k ∧ s'.d = 1 := fun r => scan_zero s (hz hd) hd r i
    have key2 : ∃ s', scan (48 :: (if s.k = 3 then [] else if s.k = 2 then [46, 48] else if s.k = 1 then [46, 48, 46, 48] else [46, 48, 46, 48, 46, 48])) s i = .ok s' ∧ s'.k = 3 ∧ 0 < s'.d := by
      obtain ⟨s1, e1, a1, b1⟩ := key (if s.k = 3 then [] else if s.k = 2 then [46, 48] else if s.k = 1 then [46, 48, 46, 48] else [46, 48, 46, 48, 46, 48])
      obtain ⟨s2, e2, a2, b2⟩ := some_end1 s1 (i + 1) (by omega) (by omega) (by omega)
      rw [a1] at e2
      exact ⟨s2, by rw [e1, e2], a2, b2⟩
    refine ⟨_, ?_, key2⟩
    split
    · simp [ends]
    · split
      · simp [ends]
      · split <;> simp [ends]
  · refine ⟨_, ?_, some_end1 s i h0 h3 (by omega)⟩
    split
    · simp [ends]
    · split
      · simp [ends]
      · split <;> simp [ends]

theorem begins_yes (l : List UInt8) (s : Rd) (ho : s.Ok) (hz : s.Z) (h : ∀ r, scan (l ++ r) rd0 0 = scan r s l.length) : beginsB l = true := by
  obtain ⟨e, he, s', hs, hk, hd⟩ := some_end s l.length ho hz
  refine List.any_eq_true.2 ⟨e, he, ?_⟩
  simp only [decide_eq_true_eq, parsed, h e, hs]
  rw [if_pos ⟨hk, hd⟩]

theorem begins_no (l : List UInt8) (i : Nat) (h : ∀ r, scan (l ++ r) rd0 0 = .error i) : beginsB l = false := by
  refine List.any_eq_false.2 (fun e _ => ?_)
  simp [parsed, h e]

/-- Of bytes that are not taken: what stands ahead of the place begins some address's text, and with the byte at it none. -/
theorem begins_at (l : List UInt8) (i : Nat) (h : parsed l = (0, (i : Int), 110)) : beginsB (l.take i) = true ∧ (i < l.length → beginsB (l.take (i + 1)) = false) := by
  have hz0 : rd0.Z := fun _ => rfl
  rcases scan_at l rd0 0 rd0_ok hz0 with ⟨s, ho, hz, hs⟩ | ⟨k, s, hk, he, ho, hz, hs, hn⟩
  · have h1 := hs []
    rw [List.append_nil] at h1
    have hi : i = l.length := by
      simp only [parsed, h1, scan] at h
      split at h
      · simp at h
      · simp at h; omega
    subst hi
    rw [List.take_length]
    exact ⟨begins_yes l s ho hz (fun r => by rw [hs r, Nat.zero_add]), fun h => absurd h (by omega)⟩
  · have hi : i = k := by
      simp only [parsed, he] at h
      simp at h
      omega
    subst hi
    refine ⟨begins_yes _ s ho hz (fun r => by rw [hs r, Nat.zero_add, List.length_take, Nat.min_eq_left (by omega)]), fun _ => begins_no _ i (fun r => ?_)⟩
    rw [List.take_succ_eq_append_getElem hk, List.append_assoc, hs, List.cons_append, List.nil_append]
    simp [scan, hn]
end Go.Proofs.YtkkeimcicpkmbaaDoor
