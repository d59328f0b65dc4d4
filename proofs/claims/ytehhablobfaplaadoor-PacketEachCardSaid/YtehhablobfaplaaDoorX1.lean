/- Datagrams in plain words: what layer 5 says of them. -/
import Derived.Test.YtehhablobfaplaaDoorV3
namespace Go.Proofs.YtehhablobfaplaaDoor
open Go

/-- A datagram: its command, its entries. -/
structure Dat where
  c : Int
  l : List Ent
deriving DecidableEq
/-- A command. -/
def comD (c : Int) : Prop := c = 1 ∨ c = 2
instance (c : Int) : Decidable (comD c) := inferInstanceAs (Decidable (_ ∨ _))
/-- Each has bytes. -/
def rightL (l : List Ent) : Prop := ∀ e ∈ l, rightE e
instance (l : List Ent) : Decidable (rightL l) := inferInstanceAs (Decidable (∀ e ∈ l, rightE e))
def OkL (l : List Ent) : Prop := ∀ e ∈ l, e.Ok
def flatE (l : List Ent) : List Int := l.flatMap bytesE
theorem flatE_len (l : List Ent) : (flatE l).length = 20 * l.length := by
  induction l with
  | nil => rfl
  | cons a l ih => simp only [flatE, List.flatMap_cons, List.length_append, bytesE_len, List.length_cons] at ih ⊢; omega
theorem flatE_is (l : List Ent) : IsBytes (flatE l) := by
  induction l with
  | nil => intro x h; simp [flatE] at h
  | cons a l ih => exact (bytesE_is a).app ih
theorem flatE_snoc (l : List Ent) (e : Ent) : flatE (l ++ [e]) = flatE l ++ bytesE e := by simp [flatE]
theorem entsF_more : ∀ (f g : Nat) (xs : List Int), xs.length / 20 ≤ f → xs.length / 20 ≤ g → entsF f xs = entsF g xs
  | 0, g, xs, h, _ => by rw [entsF_stop 0 (by omega), entsF_stop g (by omega)]
  | f + 1, 0, xs, _, h => by rw [entsF_stop _ (by omega), entsF_stop 0 (by omega)]
  | f + 1, g + 1, xs, h1, h2 => by
    by_cases hl : 20 ≤ xs.length
    · rw [entsF_go f hl, entsF_go g hl, entsF_more f g _ (by rw [List.length_drop]; omega) (by rw [List.length_drop]; omega)]
    · rw [entsF_stop _ hl, entsF_stop _ hl]
theorem ents_go {xs : List Int} (h : 20 ≤ xs.length) : ents xs = readE xs :: ents (xs.drop 20) := by
  unfold ents
  rw [entsF_go _ h, entsF_more xs.length ((xs.drop 20).length + 1) (xs.drop 20) (by rw [List.length_drop]; omega) (by omega)]
theorem ents_stop {xs : List Int} (h : ¬ 20 ≤ xs.length) : ents xs = [] := entsF_stop _ h
/-- The entries of the bytes are the entries. -/
theorem ents_flat : ∀ (l : List Ent), rightL l → OkL l → ents (flatE l) = l
  | [], _, _ => ents_stop (by simp [flatE])
  | e :: l, h, ho => by
    have e1 : flatE (e :: l) = bytesE e ++ flatE l := by simp [flatE]
    rw [e1, ents_go (by rw [List.length_append, bytesE_len]; omega), read_bytesE (h e (by simp)) (ho e (by simp)), List.drop_append_of_le_length (by rw [bytesE_len]; omega), List.drop_of_length_le (by rw [bytesE_len]; omega), List.nil_append,
      ents_flat l (fun x hx => h x (by simp [hx])) (fun x hx => ho x (by simp [hx]))]
/-- The bytes of the entries are the bytes. -/
theorem flat_ents : ∀ (f : Nat) (xs : List Int), xs.length = 20 * f → IsBytes xs → flatE (ents xs) = xs ∧ rightL (ents xs) ∧ OkL (ents xs)
  | 0, xs, h, _ => by
    have : xs = [] := List.length_eq_zero_iff.1 (by omega)
    subst this
    rw [ents_stop (by simp)]
    exact ⟨rfl, fun _ h => by simp at h, fun _ h => by simp at h⟩
  | f + 1, xs, h, hb => by
    obtain ⟨h1, h2, h3⟩ := bytes_readE hb (by omega)
    obtain ⟨i1, i2, i3⟩ := flat_ents f (xs.drop 20) (by rw [List.length_drop]; omega) (hb.drop _)
    rw [ents_go (by omega)]
    refine ⟨?_, ?_, ?_⟩
    · have e1 : flatE (readE xs :: ents (xs.drop 20)) = bytesE (readE xs) ++ flatE (ents (xs.drop 20)) := by simp [flatE]
      rw [e1, h1, i1, List.take_append_drop]
    · intro e he
      rcases List.mem_cons.1 he with rfl | he
      · exact h2
      · exact i2 e he
    · intro e he
      rcases List.mem_cons.1 he with rfl | he
      · exact h3
      · exact i3 e he

/-- What Encode tells. -/
def encNo (d : Dat) : Int := if ¬ comD d.c then 2 else if 25 < d.l.length then 3 else if rightL d.l then 0 else 2
def bytesD (d : Dat) : List Int := d.c :: 2 :: 0 :: 0 :: flatE d.l
def encL (d : Dat) : List Int := if encNo d = 0 then bytesD d else []
theorem bytesD_len (d : Dat) : (bytesD d).length = 4 + 20 * d.l.length := by simp only [bytesD, List.length_cons, flatE_len]; omega
theorem encNo_zero {d : Dat} : encNo d = 0 ↔ comD d.c ∧ d.l.length ≤ 25 ∧ rightL d.l := by
  unfold encNo
  by_cases h1 : comD d.c
  · by_cases h2 : 25 < d.l.length
    · simp [h1, h2]; omega
    · by_cases h3 : rightL d.l
      · simp [h1, h2, h3]; omega
      · simp [h1, h2, h3]
  · simp [h1]
theorem bytesD_is {d : Dat} (h : comD d.c) : IsBytes (bytesD d) := by
  intro x hx
  simp only [bytesD, List.mem_cons] at hx
  rcases hx with rfl | rfl | rfl | rfl | hx
  · rcases h with h | h <;> omega
  · omega
  · omega
  · omega
  · exact flatE_is d.l x hx

/-- What Check tells. -/
def chkNo (xs : List Int) : Int := if xs.length < 4 then 150 else if ¬ (xs.length - 4) % 20 = 0 ∨ 504 < xs.length then 151
  else if xs.getD 1 0 ≠ 2 then 152 else if ¬ comD (xs.getD 0 0) then 153 else if xs.getD 2 0 ≠ 0 ∨ xs.getD 3 0 ≠ 0 then 154 else 0
/-- What Decode tells. -/
def decD (xs : List Int) : Dat := if chkNo xs = 0 then ⟨xs.getD 0 0, ents (xs.drop 4)⟩ else ⟨0, []⟩
theorem chk_zero {xs : List Int} (h : chkNo xs = 0) : ∃ c r, xs = c :: 2 :: 0 :: 0 :: r ∧ comD c ∧ r.length % 20 = 0 ∧ r.length ≤ 500 := by
  unfold chkNo at h
  match xs with
  | [] | [_] | [_, _] | [_, _, _] => simp at h
  | a :: b :: c :: d :: r =>
    simp only [List.length_cons, List.getD_cons_zero, List.getD_cons_succ] at h
    split at h
    · exact absurd h (by decide)
    · split at h
      · exact absurd h (by decide)
      · split at h
        · exact absurd h (by decide)
        · split at h
          · exact absurd h (by decide)
          · split at h
            · exact absurd h (by decide)
            · rename_i h1 h2 h3 h4 h5
              have hb : b = 2 := by omega
              have hc : c = 0 := by omega
              have hd : d = 0 := by omega
              subst hb hc hd
              exact ⟨a, r, rfl, Decidable.not_not.1 h4, by omega, by omega⟩
theorem chk_bytesD {d : Dat} (h : encNo d = 0) : chkNo (bytesD d) = 0 := by
  obtain ⟨h1, h2, _⟩ := encNo_zero.1 h
  unfold chkNo
  rw [bytesD_len, if_neg (by omega), if_neg (by omega)]
  simp [bytesD, h1]
/-- Decode of Encode. -/
theorem dec_enc {d : Dat} (h : encNo d = 0) (ho : OkL d.l) : decD (bytesD d) = d := by
  unfold decD
  rw [if_pos (chk_bytesD h)]
  obtain ⟨_, _, h3⟩ := encNo_zero.1 h
  show (⟨_, ents (flatE d.l)⟩ : Dat) = d
  rw [ents_flat d.l h3 ho]
  rfl
/-- Encode of Decode. -/
theorem enc_dec {xs : List Int} (h : chkNo xs = 0) (hb : IsBytes xs) : bytesD (decD xs) = xs ∧ encNo (decD xs) = 0 ∧ OkL (decD xs).l := by
  obtain ⟨c, r, rfl, hc, h1, h2⟩ := chk_zero h
  have hbr : IsBytes r := fun x hx => hb x (by simp [hx])
  obtain ⟨i1, i2, i3⟩ := flat_ents (r.length / 20) r (by omega) hbr
  unfold decD
  rw [if_pos h]
  refine ⟨?_, encNo_zero.2 ⟨hc, ?_, i2⟩, i3⟩
  · show c :: 2 :: 0 :: 0 :: flatE (ents r) = _
    rw [i1]
  · show (ents r).length ≤ 25
    rw [ents_len]
    omega
/-- Two datagrams have the same bytes just if they are the same. -/
theorem bytesD_inj {d x : Dat} (hd : encNo d = 0) (hx : encNo x = 0) (od : OkL d.l) (ox : OkL x.l) : bytesD d = bytesD x ↔ d = x :=
  ⟨fun h => by rw [← dec_enc hd od, ← dec_enc hx ox, h], fun h => by rw [h]⟩
end Go.Proofs.YtehhablobfaplaaDoor
