/- Plain words of layer 2: the reference reads a prefix's text as the program does; texts. No function of the program stands here. -/
import Derived.Test.YtabpkdblcinhjaaDoorK1
import Derived.Test.YtabpkdblcinhjaaDoorM3
namespace Go.Proofs.YtabpkdblcinhjaaDoor
open Go Go.RowKit

theorem numFrom_slash : ∀ (l r : List UInt8) (n : Int) (m : Nat), numFrom (l ++ 47 :: r) n m = numFrom l n m
  | [], r, n, m => by
    rw [List.nil_append, numFrom_stop (by intro x; exact absurd x.1.1 (by decide)), numFrom]
  | c :: l, r, n, m => by
    rw [List.cons_append, numFrom, numFrom]
    split
    · exact numFrom_slash l r _ _
    · rfl

theorem headFrom_slash : ∀ (k : Nat) (n : Int) (l r : List UInt8) (i : Nat), headFrom k n (l ++ 47 :: r) i = headFrom k n l i
  | 0, _, _, _, _ => rfl
  | k + 1, n, l, r, i => by
    have hb := numFrom_bound l 0 0 (by omega) (by omega)
    have hnum := numFrom_slash l r 0 0
    by_cases hz : (numFrom l 0 0).2 = 0
    · rw [headFrom_none hz, headFrom_none (by rw [hnum]; exact hz)]
    · rw [headFrom_some hz, headFrom_some (by rw [hnum]; exact hz), hnum]
      rw [List.drop_append_of_le_length (by omega)]
      generalize l.drop (numFrom l 0 0).2 = rest
      unfold behind
      split
      · rfl
      · cases rest with
        | nil => simp
        | cons c l' =>
          simp only [List.cons_append]
          split
          · exact headFrom_slash k _ l' r _
          · rfl

theorem itoa_one (v : Nat) (h : v ≤ 9) : Lib.itoa (v : Int) = [UInt8.ofNat (48 + v)] := by
  rw [itoa_dec, Lib.decDigits, dif_pos (by omega)]
theorem itoa_two (u v : Nat) (hu : 1 ≤ u) (hu2 : u ≤ 9) (hv : v ≤ 9) : Lib.itoa ((10 * u + v : Nat) : Int) = [UInt8.ofNat (48 + u), UInt8.ofNat (48 + v)] := by
  rw [itoa_dec, dec_snoc u v (by omega) hv, Lib.decDigits, dif_pos (by omega)]
  rfl

theorem stepD_at (n d : Int) (v : Nat) (hv : v ≤ 9) (h1 : ¬ (0 < d ∧ n = 0)) (h2 : n * 10 + v ≤ 32) : stepD n d ((UInt8.ofNat (48 + v)).toNat : Int) = some (n * 10 + v, d + 1) := by
  rw [ofNat_toNat _ (by omega)]
  unfold stepD
  rw [if_pos ⟨by omega, by omega, h1, by omega⟩]
  congr 2
  omega

/-- The digits of a Len are read. -/
theorem readLen_itoa (n : Nat) (h : n ≤ 32) : ∃ d : Int, d ≠ 0 ∧ readLen (Lib.itoa n) 0 0 = some ((n : Int), d) := by
  rcases Nat.lt_or_ge n 10 with hl | hg
  · refine ⟨1, by decide, ?_⟩
    rw [itoa_one n (by omega), readLen, stepD_at 0 0 n (by omega) (by omega) (by omega)]
    simp [readLen]
  · obtain ⟨u, v, rfl, hu, hv⟩ : ∃ u v, n = 10 * u + v ∧ 1 ≤ u ∧ v ≤ 9 := ⟨n / 10, n % 10, by omega, by omega, by omega⟩
    refine ⟨2, by decide, ?_⟩
    rw [itoa_two u v hu (by omega) hv, readLen, stepD_at 0 0 u (by omega) (by omega) (by omega)]
    simp only
    rw [readLen, stepD_at _ _ v hv (by omega) (by omega)]
    simp only [readLen]
    congr 2
    · omega

theorem stepD_char {n d : Int} {c : UInt8} {p : Int × Int} (h : stepD n d c.toNat = some p) : ∃ v : Nat, v ≤ 9 ∧ c = UInt8.ofNat (48 + v) ∧ p = (n * 10 + v, d + 1) ∧ ¬ (0 < d ∧ n = 0) ∧ n * 10 + v ≤ 32 := by
  unfold stepD at h
  split at h
  · rename_i hc
    obtain ⟨h1, h2, h3, h4⟩ := hc
    cases h
    refine ⟨c.toNat - 48, by omega, ofNat_of_toNat c _ (by omega), ?_, h3, by omega⟩
    congr 1
    omega
  · cases h

/-- What is read are the digits of the Len. -/
theorem readLen_text {l : List UInt8} {n d : Int} (h : readLen l 0 0 = some (n, d)) (hd : d ≠ 0) : ∃ k : Nat, k ≤ 32 ∧ n = k ∧ l = Lib.itoa k := by
  match l with
  | [] => simp [readLen] at h; omega
  | c :: r =>
    rw [readLen] at h
    cases hs : stepD 0 0 c.toNat with
    | none => rw [hs] at h; cases h
    | some p =>
      obtain ⟨u, hu, rfl, rfl, _, _⟩ := stepD_char hs
      rw [hs] at h
      simp only at h
      match r with
      | [] =>
        simp only [readLen, Option.some.injEq, Prod.mk.injEq] at h
        exact ⟨u, by omega, by omega, (itoa_one u hu).symm⟩
      | c2 :: r2 =>
        rw [readLen] at h
        cases hs2 : stepD (0 * 10 + (u : Int)) (0 + 1) c2.toNat with
        | none => rw [hs2] at h; cases h
        | some p2 =>
          obtain ⟨v, hv, rfl, rfl, h1, h2⟩ := stepD_char hs2
          rw [hs2] at h
          simp only at h
          have hu1 : 1 ≤ u := by
            rcases Nat.eq_zero_or_pos u with e | e
            · exact absurd ⟨by omega, by omega⟩ h1
            · exact e
          match r2 with
          | [] =>
            simp only [readLen, Option.some.injEq, Prod.mk.injEq] at h
            exact ⟨10 * u + v, by omega, by omega, (itoa_two u v hu1 hu hv).symm⟩
          | c3 :: r3 =>
            rw [readLen] at h
            cases hs3 : stepD ((0 * 10 + (u : Int)) * 10 + v) (0 + 1 + 1) c3.toNat with
            | none => rw [hs3] at h; cases h
            | some p3 =>
              obtain ⟨t, ht, _, _, _, h4⟩ := stepD_char hs3
              omega

/-- What the reference seeks behind the address. -/
def RefHit (l : List UInt8) (a : Int) (n : Nat) : Prop := n ≤ 32 ∧ right a n ∧ ∃ e, headFrom 4 0 l 0 = (a, e, true) ∧ l.drop e = 47 :: Lib.itoa n

theorem no_slash {l : List UInt8} (h : cutSlash l = none) : ∀ c ∈ l, c ≠ 47 := by
  induction l with
  | nil => simp
  | cons c r ih =>
    rw [cutSlash] at h
    by_cases hc : c = 47
    · rw [if_pos hc] at h; cases h
    · rw [if_neg hc] at h
      intro d hd
      rcases List.mem_cons.1 hd with rfl | hd
      · exact hc
      · exact ih (by cases hr : cutSlash r with
          | none => rfl
          | some p => rw [hr] at h; cases h) d hd
theorem pre_no_slash : ∀ (l pre post : List UInt8), cutSlash l = some (pre, post) → ∀ c ∈ pre, c ≠ 47
  | [], _, _, h => by simp [cutSlash] at h
  | d :: r, pre, post, h => by
    rw [cutSlash] at h
    by_cases hd : d = 47
    · rw [if_pos hd] at h
      cases h
      intro c hc; simp at hc
    · rw [if_neg hd] at h
      cases hr : cutSlash r with
      | none => rw [hr] at h; cases h
      | some p =>
        rw [hr] at h
        simp only [Option.map_some, Option.some.injEq, Prod.mk.injEq] at h
        obtain ⟨rfl, rfl⟩ := h
        intro c hc
        rcases List.mem_cons.1 hc with rfl | hc
        · exact hd
        · exact pre_no_slash r p.1 p.2 hr c hc

theorem refHit_pparse {l : List UInt8} {a : Int} {n : Nat} (h : RefHit l a n) : pparse l = some (a, (n : Int)) := by
  obtain ⟨hn, hr, e, hh, hd⟩ := h
  have hmem : (47 : UInt8) ∈ l := List.mem_of_mem_drop (by rw [hd]; simp)
  cases hc : cutSlash l with
  | none => exact absurd rfl (no_slash hc 47 hmem)
  | some p =>
    obtain ⟨pre, post⟩ := p
    have hl := cutSlash_some l pre post hc
    have hns := pre_no_slash l pre post hc
    rw [hl, headFrom_slash] at hh
    have hle := head_le 4 0 pre 0
    rw [hh] at hle
    simp only [Nat.zero_add] at hle
    have he : e = pre.length := by
      rcases Nat.lt_or_ge e pre.length with hlt | hge
      · exfalso
        rw [hl, List.drop_append_of_le_length (by omega), List.drop_eq_getElem_cons hlt] at hd
        simp only [List.cons_append, List.cons.injEq] at hd
        exact hns _ (List.getElem_mem hlt) hd.1
      · omega
    have hpost : post = Lib.itoa n := by
      rw [hl, he, List.drop_left] at hd
      exact (List.cons.inj hd).2
    have hpar : parsed pre = (a, (pre.length : Int), 0) := by
      rw [parsed_ref]
      unfold refParsed
      rw [hh]
      simp only
      rw [if_pos ⟨trivial, by omega⟩, he]
    obtain ⟨d, hd0, hrl⟩ := readLen_itoa n hn
    unfold pparse
    rw [hc]
    simp only
    rw [hpar, if_pos rfl, hpost, hrl]
    simp only
    rw [if_pos ⟨hd0, hr⟩]

theorem pparse_refHit {l : List UInt8} {a n : Int} (h : pparse l = some (a, n)) : ∃ k : Nat, n = k ∧ RefHit l a k := by
  unfold pparse at h
  cases hc : cutSlash l with
  | none => rw [hc] at h; cases h
  | some p =>
    obtain ⟨pre, post⟩ := p
    rw [hc] at h
    simp only at h
    by_cases hp : (parsed pre).2.2 = 0
    · rw [if_pos hp] at h
      cases hr : readLen post 0 0 with
      | none => rw [hr] at h; cases h
      | some q =>
        obtain ⟨m, d⟩ := q
        rw [hr] at h
        simp only at h
        by_cases hd : d ≠ 0 ∧ right (parsed pre).1 m
        · rw [if_pos hd] at h
          cases h
          obtain ⟨k, hk, rfl, hpost⟩ := readLen_text hr hd.1
          refine ⟨k, rfl, hk, hd.2, pre.length, ?_, ?_⟩
          · rw [cutSlash_some l pre post hc, headFrom_slash]
            have hpr := parsed_ref pre
            unfold refParsed at hpr
            by_cases hh : (headFrom 4 0 pre 0).2.2 = true ∧ ¬ (headFrom 4 0 pre 0).2.1 < pre.length
            · rw [if_pos hh] at hpr
              have hle := head_le 4 0 pre 0
              rw [hpr]
              simp only
              refine Prod.ext rfl (Prod.ext ?_ hh.1)
              simp only
              omega
            · rw [if_neg hh] at hpr
              rw [hpr] at hp
              simp at hp
          · rw [cutSlash_some l pre post hc, List.drop_left, hpost]
        · rw [if_neg hd] at h; cases h
    · rw [if_neg hp] at h; cases h

theorem scan_slash : ∀ (l : List UInt8) (s : Rd) (i : Nat), (47 : UInt8) ∈ l → ∃ j, scan l s i = .error j
  | [], _, _, h => by simp at h
  | c :: r, s, i, h => by
    unfold scan
    cases hs : s.step c.toNat with
    | none => exact ⟨i, rfl⟩
    | some s' =>
      simp only
      rcases List.mem_cons.1 h with rfl | h
      · unfold Rd.step at hs
        rw [if_neg (by decide), if_neg (by decide)] at hs
        cases hs
      · exact scan_slash r s' (i + 1) h
/-- A prefix's text. -/
def ptxt (x : Int) (n : Nat) : List UInt8 := txt x ++ 47 :: Lib.itoa n
theorem ptxt_parse {x : Int} {n : Nat} (x0 : 0 ≤ x) (x1 : x < 4294967296) (hr : right x n) : pparse (ptxt x n) = some (x, (n : Int)) := by
  have hp : parsed (txt x) = (x, ((txt x).length : Int), 0) := by
    have := parse_txt x x0 x1
    unfold parseEnd at this
    simp only [Ending.returned.injEq, Value.tuple.injEq] at this
    have h := Array.toList_inj.2 this
    simp at h
    exact Prod.ext h.1 (Prod.ext h.2.1 h.2.2)
  have hc : cutSlash (ptxt x n) = some (txt x, Lib.itoa n) := by
    refine cutSlash_at (fun c hc e => ?_)
    subst e
    rcases parsed_cases (txt x) with ⟨i, _, h⟩ | _
    · rw [hp] at h; simp at h
    · obtain ⟨j, hj⟩ := scan_slash (txt x) rd0 0 hc
      unfold parsed at hp
      rw [hj] at hp
      simp at hp
  obtain ⟨d, hd0, hrl⟩ := readLen_itoa n (by have := hr.2.1; omega)
  unfold pparse
  rw [hc]
  simp only
  rw [hp, if_pos rfl, hrl]
  simp only
  rw [if_pos ⟨hd0, hr⟩]
theorem refHit_text {l : List UInt8} {a : Int} {n : Nat} (h : RefHit l a n) : l = ptxt a n := by
  obtain ⟨hn, hr, e, hh, hd⟩ := h
  obtain ⟨ps, h1, h2, h3, rest, h4, h5⟩ := head_text 3 0 l 0 a e hh
  match ps, h1 with
  | [p0, p1, p2, p3], _ =>
    obtain ⟨t, _, _⟩ := partsText4 p0 p1 p2 p3 (h2 _ (by simp)) (h2 _ (by simp)) (h2 _ (by simp)) (h2 _ (by simp))
    rw [← h3] at t
    rw [Nat.zero_add] at h5
    rw [h4, h5, List.drop_left] at hd
    unfold ptxt
    rw [t, ← hd]
    exact h4
end Go.Proofs.YtabpkdblcinhjaaDoor
