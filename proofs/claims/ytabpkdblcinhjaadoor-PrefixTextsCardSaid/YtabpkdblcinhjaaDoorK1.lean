/- Plain words of layer 2: what Parse makes of a text's bytes. No function of the program stands here. -/
import Derived.Test.YtabpkdblcinhjaaDoorA6
import Derived.Test.YtabpkdblcinhjaaDoorM2
import Derived.Test.YtabpkdblcinhjaaDoorC1
namespace Go.Proofs.YtabpkdblcinhjaaDoor
open Go Go.RowKit

/-- One digit more of a Len. -/
def stepD (n d c : Int) : Option (Int × Int) := if 48 ≤ c ∧ c ≤ 57 ∧ ¬ (0 < d ∧ n = 0) ∧ n * 10 + (c - 48) ≤ 32 then some (n * 10 + (c - 48), d + 1) else none
/-- What the digits of a Len come to, behind some. -/
def readLen : List UInt8 → Int → Int → Option (Int × Int)
  | [], n, d => some (n, d)
  | c :: r, n, d => match stepD n d c.toNat with
    | none => none
    | some (n', d') => readLen r n' d'
/-- A Len under way. -/
def OkLen (n d : Int) : Prop := (n = 0 ∧ d = 0) ∨ (0 ≤ n ∧ n ≤ 9 ∧ d = 1) ∨ (10 ≤ n ∧ n ≤ 32 ∧ d = 2)
theorem OkLen.step {n d c n' d' : Int} (h : OkLen n d) (hs : stepD n d c = some (n', d')) : OkLen n' d' := by
  unfold stepD at hs
  split at hs
  · rename_i hc
    obtain ⟨h1, h2, h3, h4⟩ := hc
    cases hs
    unfold OkLen at *
    rcases h with ⟨rfl, rfl⟩ | ⟨a, b, rfl⟩ | ⟨a, b, rfl⟩
    · omega
    · have : n ≠ 0 := fun e => h3 ⟨by omega, e⟩
      omega
    · omega
  · cases hs
theorem stepD_big {n d c : Int} (h : 58 ≤ c) : stepD n d c = none := by
  unfold stepD; rw [if_neg (by omega)]

/-- What stands ahead of the first slash, and what behind it. -/
def cutSlash : List UInt8 → Option (List UInt8 × List UInt8)
  | [] => none
  | c :: r => if c = 47 then some ([], r) else (cutSlash r).map (fun p => (c :: p.1, p.2))

theorem cutSlash_none {l : List UInt8} (h : ∀ c ∈ l, c ≠ 47) : cutSlash l = none := by
  induction l with
  | nil => rfl
  | cons c r ih =>
    rw [cutSlash, if_neg (h c (by simp)), ih (fun c hc => h c (by simp [hc]))]
    rfl
theorem cutSlash_at {l r : List UInt8} (h : ∀ c ∈ l, c ≠ 47) : cutSlash (l ++ 47 :: r) = some (l, r) := by
  induction l with
  | nil => simp [cutSlash]
  | cons c t ih =>
    rw [List.cons_append, cutSlash, if_neg (h c (by simp)), ih (fun c hc => h c (by simp [hc]))]
    rfl

/-- The prefix whose text it is, if it is one's. -/
def pparse (l : List UInt8) : Option (Int × Int) :=
  match cutSlash l with
  | none => none
  | some (pre, post) => if (parsed pre).2.2 = 0 then
      match readLen post 0 0 with
      | none => none
      | some (n, d) => if d ≠ 0 ∧ right (parsed pre).1 n then some ((parsed pre).1, n) else none
    else none
def pparseEnd (l : List UInt8) : Ending := match pparse l with
  | none => .returned (.tuple #[.agg #[.int .u32 0, .int .i64 0], .int .i64 120])
  | some (a, n) => .returned (.tuple #[.agg #[.int .u32 a, .int .i64 n], .int .i64 0])

/-- Where a byte stands that no address's text has, none is read. -/
theorem scan_high : ∀ (l : List UInt8) (s : Rd) (i : Nat), (∃ c ∈ l, 58 ≤ c.toNat) → ∃ j, scan l s i = .error j
  | [], _, _, ⟨_, h, _⟩ => by simp at h
  | c :: r, s, i, ⟨d, hd, hh⟩ => by
    unfold scan
    cases hs : s.step c.toNat with
    | none => exact ⟨i, rfl⟩
    | some s' =>
      simp only
      rcases List.mem_cons.1 hd with rfl | h
      · rw [Rd.step_big s _ (by omega)] at hs; cases hs
      · exact scan_high r s' (i + 1) ⟨d, h, hh⟩
theorem parsed_high {l : List UInt8} (h : ∃ c ∈ l, 58 ≤ c.toNat) : (parsed l).2.2 = 110 := by
  obtain ⟨j, hj⟩ := scan_high l rd0 0 h
  unfold parsed; rw [hj]
/-- A text in which a high byte stands is no prefix's. -/
theorem readLen_high : ∀ (l : List UInt8) (n d : Int), (∃ c ∈ l, 58 ≤ c.toNat) → readLen l n d = none
  | [], _, _, ⟨_, h, _⟩ => by simp at h
  | c :: r, n, d, ⟨x, hx, hh⟩ => by
    unfold readLen
    cases hs : stepD n d c.toNat with
    | none => rfl
    | some p =>
      obtain ⟨n', d'⟩ := p
      simp only
      rcases List.mem_cons.1 hx with rfl | h
      · rw [stepD_big (by omega)] at hs; cases hs
      · exact readLen_high r n' d' ⟨x, h, hh⟩
theorem cutSlash_some : ∀ (l : List UInt8) (pre post : List UInt8), cutSlash l = some (pre, post) → l = pre ++ 47 :: post
  | [], _, _, h => by simp [cutSlash] at h
  | c :: r, pre, post, h => by
    rw [cutSlash] at h
    split at h
    · rename_i hc
      cases h
      subst hc
      rfl
    · cases hr : cutSlash r with
      | none => rw [hr] at h; cases h
      | some p =>
        rw [hr] at h
        simp only [Option.map_some, Option.some.injEq, Prod.mk.injEq] at h
        obtain ⟨rfl, rfl⟩ := h
        rw [cutSlash_some r p.1 p.2 hr]
        rfl
theorem pparse_high {l : List UInt8} (h : ∃ c ∈ l, 128 ≤ c.toNat) : pparse l = none := by
  unfold pparse
  cases hc : cutSlash l with
  | none => rfl
  | some p =>
    obtain ⟨pre, post⟩ := p
    have hl := cutSlash_some l pre post hc
    subst hl
    obtain ⟨c, hc, hh⟩ := h
    simp only
    rcases List.mem_append.1 hc with h1 | h1
    · rw [parsed_high ⟨c, h1, by omega⟩]; simp
    · rcases List.mem_cons.1 h1 with rfl | h2
      · simp at hh
      · rw [readLen_high post 0 0 ⟨c, h2, by omega⟩]; split <;> rfl
theorem parsed_range (l : List UInt8) : 0 ≤ (parsed l).1 ∧ (parsed l).1 < 4294967296 := by
  rcases parsed_cases l with ⟨i, _, h⟩ | ⟨a, h0, h1, h, _⟩
  · rw [h]; exact ⟨by simp, by simp⟩
  · rw [h]; exact ⟨h0, h1⟩
end Go.Proofs.YtabpkdblcinhjaaDoor
