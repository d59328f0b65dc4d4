/- Plain words of layer 1: what Each tells of bytes; its reference tells the same. -/
import Derived.Test.YtabpkdblcinhjaaDoorM2
import Derived.Lib.IndexMore
namespace Go.Proofs.YtabpkdblcinhjaaDoor
open Go Go.RowKit

/-- Bytes ahead of the first blank, those behind it, and whether there is one. -/
def cut32 : List UInt8 → List UInt8 × List UInt8 × Bool
  | [] => ([], [], false)
  | c :: r => if c = 32 then ([], r, true) else (c :: (cut32 r).1, (cut32 r).2.1, (cut32 r).2.2)

theorem cut32_yes : ∀ (l : List UInt8), (cut32 l).2.2 = true → l = (cut32 l).1 ++ 32 :: (cut32 l).2.1
  | [], h => by simp [cut32] at h
  | c :: r, h => by
    by_cases hc : c = 32
    · subst hc; simp [cut32]
    · simp only [cut32, if_neg hc] at h ⊢
      have := cut32_yes r h
      rw [List.cons_append, ← this]
theorem cut32_no : ∀ (l : List UInt8), (cut32 l).2.2 = false → l = (cut32 l).1 ∧ (cut32 l).2.1 = []
  | [], _ => by simp [cut32]
  | c :: r, h => by
    by_cases hc : c = 32
    · subst hc; simp [cut32] at h
    · simp only [cut32, if_neg hc] at h ⊢
      have := cut32_no r h
      exact ⟨by rw [← this.1], this.2⟩
theorem cut32_free : ∀ (l : List UInt8), ∀ c ∈ (cut32 l).1, c ≠ 32
  | [], c, h => by simp [cut32] at h
  | d :: r, c, h => by
    by_cases hd : d = 32
    · subst hd; simp [cut32] at h
    · simp only [cut32, if_neg hd] at h
      rcases List.mem_cons.1 h with rfl | h
      · exact hd
      · exact cut32_free r c h

theorem index32_nonneg : ∀ (l : List UInt8), -1 ≤ Lib.index l [32] := fun l => Lib.index_ge l _

theorem cut_eq : ∀ (l : List UInt8), Lib.cut l [32] = cut32 l
  | [] => by simp [Lib.cut, Lib.index, cut32]
  | c :: r => by
    have ih := cut_eq r
    have hge := index32_nonneg r
    by_cases hc : c = 32
    · subst hc
      simp [Lib.cut, Lib.index, cut32, List.isPrefixOf]
    · have hp : List.isPrefixOf [32] (c :: r) = false := by
        simp [List.isPrefixOf]; exact fun h => hc h.symm
      simp only [cut32, if_neg hc, ← ih]
      have hidx : Lib.index (c :: r) [32] = if Lib.index r [32] == -1 then -1 else Lib.index r [32] + 1 := by
        rw [Lib.index, hp]
        simp
      unfold Lib.cut
      by_cases hm : Lib.index r [32] = -1
      · rw [if_pos (by simp [hm])] at hidx
        rw [hidx, hm, if_neg (by omega), if_neg (by omega)]
      · rw [if_neg (by simpa using hm)] at hidx
        rw [hidx, if_pos (by omega), if_pos (by omega)]
        obtain ⟨u, hu⟩ : ∃ u : Nat, Lib.index r [32] = u := ⟨(Lib.index r [32]).toNat, by omega⟩
        rw [hu, show ((u : Int) + 1).toNat = u + 1 from by omega, Int.toNat_natCast]
        simp

theorem numFrom_blank : ∀ (l r : List UInt8) (n : Int) (m : Nat), numFrom (l ++ 32 :: r) n m = numFrom l n m
  | [], r, n, m => by
    rw [List.nil_append, numFrom_stop (by intro x; exact absurd x.1.1 (by decide)), numFrom]
  | c :: l, r, n, m => by
    rw [List.cons_append, numFrom, numFrom]
    split
    · exact numFrom_blank l r _ _
    · rfl

theorem headFrom_blank : ∀ (k : Nat) (n : Int) (l r : List UInt8) (i : Nat), headFrom k n (l ++ 32 :: r) i = headFrom k n l i
  | 0, _, _, _, _ => rfl
  | k + 1, n, l, r, i => by
    have hb := numFrom_bound l 0 0 (by omega) (by omega)
    have hnum := numFrom_blank l r 0 0
    by_cases hz : (numFrom l 0 0).2 = 0
    · rw [headFrom_none hz, headFrom_none (by rw [hnum]; exact hz)]
    · rw [headFrom_some hz, headFrom_some (by rw [hnum]; exact hz), hnum]
      rw [List.drop_append_of_le_length (by omega)]
      generalize l.drop (numFrom l 0 0).2 = rest
      unfold behind
      split
      · rfl
      · cases rest with
        | nil => simp
        | cons c l' =>
          simp only [List.cons_append]
          split
          · exact headFrom_blank k _ l' r _
          · rfl

theorem headFrom_shift : ∀ (k : Nat) (n : Int) (l : List UInt8) (i : Nat), headFrom k n l i = ((headFrom k n l 0).1, i + (headFrom k n l 0).2.1, (headFrom k n l 0).2.2)
  | 0, _, _, _ => by simp [headFrom]
  | k + 1, n, l, i => by
    by_cases hz : (numFrom l 0 0).2 = 0
    · rw [headFrom_none hz, headFrom_none hz]; simp
    · rw [headFrom_some hz, headFrom_some hz]
      generalize l.drop (numFrom l 0 0).2 = rest
      unfold behind
      split
      · simp
      · cases rest with
        | nil => simp
        | cons c l' =>
          simp only
          split
          · rw [headFrom_shift k _ l' (i + _ + 1), headFrom_shift k _ l' (0 + _ + 1)]
            simp only [Prod.mk.injEq, true_and, and_true]; omega
          · simp

/-- What Each tells: the place of each address, and it. -/
def eachF : Nat → Nat → List UInt8 → List (Int × Int)
  | 0, _, _ => []
  | n + 1, i, l => if (parsed (cut32 l).1).2.2 = 0 then ((i : Int), (parsed (cut32 l).1).1) :: (if (cut32 l).2.2 = true then eachF n (i + (cut32 l).1.length + 1) (cut32 l).2.1 else []) else []

/-- What its reference tells. -/
def refF : Nat → Nat → List UInt8 → List (Int × Int)
  | 0, _, _ => []
  | n + 1, i, l =>
    if (headFrom 4 0 l i).2.2 = true then
      match l.drop ((headFrom 4 0 l i).2.1 - i) with
      | [] => [((i : Int), (headFrom 4 0 l i).1)]
      | c :: r => if c = 32 then ((i : Int), (headFrom 4 0 l i).1) :: refF n ((headFrom 4 0 l i).2.1 + 1) r else []
    else []

theorem eachF_ref : ∀ (n i : Nat) (l : List UInt8), eachF n i l = refF n i l
  | 0, _, _ => rfl
  | n + 1, i, l => by
    have hle := head_le 4 0 (cut32 l).1 0
    have hhead : headFrom 4 0 l i = ((headFrom 4 0 (cut32 l).1 0).1, i + (headFrom 4 0 (cut32 l).1 0).2.1, (headFrom 4 0 (cut32 l).1 0).2.2) := by
      rw [← headFrom_shift]
      cases hb : (cut32 l).2.2 with
      | true =>
        conv => lhs; rw [cut32_yes l hb]
        exact headFrom_blank 4 0 _ _ i
      | false => conv => lhs; rw [(cut32_no l hb).1]
    have hpar : parsed (cut32 l).1 = ((refParsed (cut32 l).1).1, ((refParsed (cut32 l).1).2.1 : Int), (refParsed (cut32 l).1).2.2) := parsed_ref _
    unfold eachF refF
    rw [hhead, hpar]
    unfold refParsed
    have hfree := cut32_free l
    have hyes := cut32_yes l
    have hno := cut32_no l
    have ih := fun j => eachF_ref n j (cut32 l).2.1
    generalize headFrom 4 0 (cut32 l).1 0 = x at *
    generalize (cut32 l).1 = w at *
    generalize (cut32 l).2.1 = t at *
    obtain ⟨a, e, is⟩ := x
    simp only at hle ⊢
    rw [show i + e - i = e from by omega]
    cases is with
    | false => simp
    | true =>
      simp only [true_and, if_true]
      by_cases he : e < w.length
      · have h1 : (if ¬ e < w.length then (a, e, (0 : Int)) else (0, e, 110)) = (0, e, 110) := if_neg (by simpa using he)
        rw [h1]
        simp only [Int.reduceEq, if_false]
        have hdrop : ∃ c r, l.drop e = c :: r ∧ c ∈ w := by
          have hw : ∃ c r, w.drop e = c :: r := by
            cases hd : w.drop e with
            | nil => have := congrArg List.length hd; simp at this; omega
            | cons c r => exact ⟨c, r, rfl⟩
          obtain ⟨c, r, hd⟩ := hw
          have hmem : c ∈ w := List.mem_of_mem_drop (by rw [hd]; exact List.mem_cons_self)
          cases hb : (cut32 l).2.2 with
          | true =>
            refine ⟨c, r ++ 32 :: t, ?_, hmem⟩
            rw [hyes hb, List.drop_append_of_le_length (by omega), hd]; rfl
          | false => exact ⟨c, r, by rw [(hno hb).1]; exact hd, hmem⟩
        obtain ⟨c, r, hd, hmem⟩ := hdrop
        rw [hd]
        simp only
        rw [if_neg (hfree c hmem)]
      · have hew : e = w.length := by omega
        subst hew
        have h1 : (if ¬ w.length < w.length then (a, w.length, (0 : Int)) else (0, w.length, 110)) = (a, w.length, 0) := if_pos (by simp)
        rw [h1]
        simp only [if_true]
        cases hb : (cut32 l).2.2 with
        | true =>
          have hd : l.drop w.length = 32 :: t := by
            rw [hyes hb, List.drop_append_of_le_length (by omega), List.drop_length]; rfl
          rw [hd]
          simp only [if_true]
          rw [ih]
        | false =>
          have hd : l.drop w.length = [] := by rw [(hno hb).1]; exact List.drop_length
          rw [hd]
          simp
end Go.Proofs.YtabpkdblcinhjaaDoor
