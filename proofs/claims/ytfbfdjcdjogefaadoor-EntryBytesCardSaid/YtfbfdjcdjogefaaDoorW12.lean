/- What the walk of EntryHolds asks: when two entries, two prefixes are the same; what Bytes, Prefix, Of tell. -/
import Derived.Test.YtfbfdjcdjogefaaDoorW10
namespace Go.Proofs.YtfbfdjcdjogefaaDoor
open Go Go.RowKit Go.Sort
attribute [local go_sem] Oper.semAt_some

theorem eqEnt_run (e g : Ent) (w : World) : (binOp .eql 25 (entV e) (entV g)).run Tryd.prog w = .ok (.bool (decide (e = g))) w := by
  obtain ⟨f, t, a, m, n, k⟩ := e
  obtain ⟨f', t', a', m', n', k'⟩ := g
  have hd : decide ((⟨f, t, a, m, n, k⟩ : Ent) = ⟨f', t', a', m', n', k'⟩) = (f == f' && t == t' && a == a' && m == m' && n == n' && k == k') := by
    rw [Bool.eq_iff_iff, decide_eq_true_iff]
    simp [Ent.mk.injEq, and_assoc]
  rw [hd]
  simp [go_sem]
  by_cases h1 : f = f' <;> by_cases h2 : t = t' <;> by_cases h3 : a = a' <;> by_cases h4 : m = m' <;> by_cases h5 : n = n' <;> by_cases h6 : k = k' <;> simp [h1, h2, h3, h4, h5, h6]
theorem eqPre_run (x n y m : Int) (w : World) : (binOp .eql 41 (pfx x n) (pfx y m)).run Tryd.prog w = .ok (.bool (x == y && n == m)) w := by
  simp [go_sem, pfx]
  by_cases h1 : x = y <;> by_cases h2 : n = m <;> simp [h1, h2]

/-- What a call of Bytes left: nothing of what may not be. -/
structure ByE (e : Ent) (p : Option Addr) (l c : Nat) (z : Int) (w : World) : Prop where
  ok : rightE e → z = 0 ∧ l = 20 ∧ ByS w p (bytesE e)
  no : ¬ rightE e → z = 2
theorem ByE.below {e : Ent} {p : Option Addr} {l c : Nat} {z : Int} {w w' : World} (h : ByE e p l c z w) (hb : Below w.heap.size w w') : ByE e p l c z w' :=
  ⟨fun hr => ⟨(h.ok hr).1, (h.ok hr).2.1, (h.ok hr).2.2.below hb⟩, h.no⟩
theorem bytesE_c (e : Ent) (ho : e.Ok) (w : World) (hf : Fit3 w) :
    Calls Tryd.prog 12 #[entV e] w fun r w' => (∃ p l c z, r = .returned (.tuple #[.slice p l c, .int .i64 z]) ∧ ByE e p l c z w') ∧ Below w.heap.size w w' := by
  refine (bytes4_any e ho w hf).mono ?_
  rintro r w' ⟨h, hb⟩
  refine ⟨?_, hb⟩
  by_cases hr : rightE e
  · rw [if_pos hr] at h
    obtain ⟨v, rfl, ho⟩ := h
    obtain ⟨p, c, rfl, _, hy, _⟩ := OwnB.byS ho
    rw [bytesE_len] at *
    exact ⟨p, 20, c, 0, rfl, ⟨fun _ => ⟨rfl, rfl, hy⟩, fun h => absurd hr h⟩⟩
  · rw [if_neg hr] at h
    exact ⟨none, 0, 0, 2, h, ⟨fun h => absurd h hr, fun _ => rfl⟩⟩
theorem strE_eq {e g : Ent} (hr : rightE e) (ho : e.Ok) (hr' : rightE g) (ho' : g.Ok) : ((strOfNums (bytesE e)).toList == (strOfNums (bytesE g)).toList) = decide (e = g) := by
  rw [Bool.eq_iff_iff, beq_iff_eq, decide_eq_true_iff]
  refine ⟨fun h => bytesE_inj hr ho hr' ho' (strNums_inj (bytesE_is e) (bytesE_is g) ?_), fun h => by rw [h]⟩
  rw [ByteArray.toList_eq, ByteArray.toList_eq] at h
  exact ByteArray.ext (Array.toList_inj.1 h)
/-- A good entry, field by field; what is told of its prefix; the entry of that. -/
theorem good_is {e : Ent} (h : whyE e = 0) : e.f = 2 ∧ e.n = 0 ∧ preA e = e.a ∧ preNo e = 0 ∧ 1 ≤ e.k ∧ e.k ≤ 16 ∧ ofV (preA e) (preL e) e.k = ⟨2, 0, e.a, e.m, 0, e.k⟩ ∧ ofNo (preA e) (preL e) e.k = 0 := by
  obtain ⟨hf, ⟨j, j32, hj, hm, hg⟩, hn, h1, h2⟩ := whyE_zero.1 h
  have ea : preA e = e.a := if_pos h
  have el : preL e = j := by unfold preL; rw [if_pos h, hj]; rfl
  have en : preNo e = 0 := if_pos h
  obtain ⟨q1, q2⟩ := ofV_ok ⟨hg, h1, h2⟩
  rw [ea, el, en, q1, q2]
  refine ⟨hf, hn, rfl, rfl, h1, h2, ?_, rfl⟩
  unfold oneE
  rw [Int.toNat_natCast, hm]
theorem bad_is {e : Ent} (h : ¬ whyE e = 0) : preA e = 0 ∧ preL e = 0 ∧ preNo e = 140 := ⟨if_neg h, if_neg h, if_neg h⟩
theorem pre_same {e g : Ent} (he : whyE e = 0) (hg : whyE g = 0) : (preL e = preL g) ↔ e.m = g.m := by
  obtain ⟨_, ⟨j, j32, hj, hm, _⟩, _⟩ := whyE_zero.1 he
  obtain ⟨_, ⟨i, i32, hi, hm', _⟩, _⟩ := whyE_zero.1 hg
  have el : preL e = j := by unfold preL; rw [if_pos he, hj]; rfl
  have el' : preL g = i := by unfold preL; rw [if_pos hg, hi]; rfl
  rw [el, el', ← hm, ← hm']
  constructor
  · intro h
    rw [show j = i by omega]
  · intro h
    rw [maskOf_inj _ _ j32 i32 h]
end Go.Proofs.YtfbfdjcdjogefaaDoor
