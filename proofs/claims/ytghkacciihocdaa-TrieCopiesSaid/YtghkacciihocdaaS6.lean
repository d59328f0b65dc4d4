/- Merged by tools/merge.py: S1, S2, S3, S4, S5, S6. -/
import Derived.Test.YtghkacciihocdaaC6
import Derived.OwnWalk
import Derived.Test.YtghkacciihocdaaU1
import Derived.WalkKit
import Derived.Deep.CutBlock
namespace Go.Proofs.Ytghkacciihocdaa
open Go Go.RowKit Go.Sort
attribute [local go_sem] Oper.semAt_some

/-- Cells that lie one behind the other. -/
def LiesS (w : World) (A : Option Addr) (xs : List Value) : Prop := 0 < xs.length → ∃ b o, A = some ⟨b, o, none⟩ ∧ b < w.heap.size ∧ ∀ j (h : j < xs.length), w.cell? ⟨b, o + j, none⟩ = some (xs[j]'h)
theorem LiesS.below {w w' : World} {A : Option Addr} {l : List Value} (h : LiesS w A l) (hb : Below w.heap.size w w') : LiesS w' A l := fun hn => by
  obtain ⟨b, o, e, hlt, hc⟩ := h hn
  exact ⟨b, o, e, by have := hb.size; omega, fun j hj => (hb.cell (p := ⟨b, o + j, none⟩) hlt).trans (hc j hj)⟩
theorem LiesS.nil (w : World) (A : Option Addr) : LiesS w A [] := fun h => absurd h (by simp)
/-- An own slice lies. -/
theorem lies_own {w : World} {base : Nat} {e : TypeId} {size n cap : Nat} {A : Option Addr} {xs : List Value} (h : w.ownsRow base e size (.slice A n cap) n xs) : LiesS w A xs := fun hn => by
  have h1 := h.1
  have hlt := h.lt
  rcases h.2 with ⟨_, hz⟩ | ⟨g, cap', cur, hv, hb, hg, _⟩
  · rw [hz, Nat.zero_mul] at h1
    omega
  · injection hv with e1 e2 e3
    subst e1
    refine ⟨g, 0, rfl, (Array.getElem?_eq_some_iff.1 hg).1, fun j hj => ?_⟩
    have := h.cells (g := g) rfl j (xs[j]'hj) (List.getElem?_eq_getElem hj)
    rw [Addr.add_lit] at this
    exact this
theorem LiesS.take {w : World} {A : Option Addr} {xs : List Value} (h : LiesS w A xs) (k : Nat) : LiesS w A (xs.take k) := fun hn => by
  obtain ⟨b, o, e, hlt, hc⟩ := h (by simp at hn; omega)
  exact ⟨b, o, e, hlt, fun j hj => by rw [hc j (by simp at hj; omega)]; simp⟩
theorem LiesS.drop {w : World} {b o : Nat} {xs : List Value} (h : LiesS w (some ⟨b, o, none⟩) xs) (k : Nat) : LiesS w (some ⟨b, o + k, none⟩) (xs.drop k) := fun hn => by
  obtain ⟨b', o', e, hlt, hc⟩ := h (by simp at hn; omega)
  injection e with e
  injection e with e1 e2
  subst e1; subst e2
  refine ⟨b, o + k, rfl, hlt, fun j hj => ?_⟩
  rw [Nat.add_assoc, hc (k + j) (by simp at hj; omega)]
  simp

/-- So many structs appended to an own slice. -/
theorem app_row {P : Program} {t e : TypeId} {i : TypeInfo} {z : Value} {size bytes : Nat} (base : Nat) (ty : TypeId) (ht : P.underlying t = some (.slice e)) (hi : P.info? e = some i) (hz : i.zero = some z) (hsize : i.size = size) (hby : i.bytes = bytes) (hzs : z.cells.size = size) (hsz : 0 < size)
    {w : World} {v : Value} {n : Nat} {xs : List Value} (hown : w.ownsRow base e size v n xs) {p : Option Addr} {m : Nat} {ys : List Value} (hy : LiesS w p ys) (hl : ys.length = m * size) (h1 : ∀ u ∈ ys, u.oneCell' = true) (c : Nat) (hn : n + m ≤ 1000000) (hb : bytes ≤ 100) (hbase : base ≤ w.heap.size) :
    ∃ v' w', (Builtin.append_ #[t, t] ty #[v, .slice p m c]).run P w = .ok v' w' ∧ w'.ownsRow base e size v' (n + m) (xs ++ ys) ∧ w.grownBy w' v.ownBlock := by
  by_cases hm : 0 < m
  · obtain ⟨b, o, rfl, _, hc⟩ := hy (by rw [hl]; exact Nat.mul_pos hm hsz)
    obtain ⟨v', w', hr, h2, h3, _⟩ := run_append_own (P := P) w base t ty e i z size bytes ht hi hz hsize hby hzs hsz v n xs hown ⟨b, o, none⟩ m c ys hl
      (fun j u hj => by
        have hj' : j < ys.length := (List.getElem?_eq_some_iff.1 hj).1
        rw [Addr.add_lit, hc j hj', ← hj, List.getElem?_eq_getElem hj'])
      h1 (by unfold maxLen; omega) (by
        have : (n + m) * bytes ≤ 1000000 * 100 := Nat.mul_le_mul hn hb
        omega) hbase
    exact ⟨v', w', hr, h2, h3⟩
  · obtain rfl : m = 0 := by omega
    have h0 : ys = [] := List.eq_nil_of_length_eq_zero (by simpa using hl)
    subst h0
    refine ⟨v, w, ?_, by rw [List.append_nil]; exact hown, ⟨rfl, rfl, rfl, Nat.le_refl _, fun _ _ _ => rfl⟩⟩
    have hi1 := hi
    rcases hown.2 with ⟨rfl, _⟩ | ⟨g, cap, cur, rfl, hb, hg, hcc, hm, hs, ht2⟩
    · rcases p with _ | a <;> simp [Builtin.append_, run_underlying ht, sizeOf, typeInfo, hi, Builtin.lenOf, Builtin.firstCells, loadCells, loadCellsFrom]
    · rcases p with _ | a <;> simp [Builtin.append_, run_underlying ht, sizeOf, typeInfo, hi, Builtin.lenOf, Builtin.firstCells, loadCells, loadCellsFrom, hcc, storeCells]

theorem wp_app_row {P : Program} {o : Oper} {a : Act} {w : World} {K : Act → World → Prop} {Q : Exit → Act → World → Prop} (s x : Operand) {t e : TypeId}
    (ho : o.op = .call { callee := .builtin .append, args := #[s, x], argTypes := #[t, t] }) {i : TypeInfo} {z : Value} {size bytes : Nat} (base : Nat) (ht : P.underlying t = some (.slice e)) (hi : P.info? e = some i) (hz : i.zero = some z) (hsize : i.size = size) (hby : i.bytes = bytes) (hzs : z.cells.size = size) (hsz : 0 < size)
    {v : Value} {n : Nat} {xs : List Value} (hs : a.eval s = v) (hown : w.ownsRow base e size v n xs) {p : Option Addr} {m c : Nat} {ys : List Value} (hx : a.eval x = .slice p m c) (hy : LiesS w p ys) (hl : ys.length = m * size) (h1 : ∀ u ∈ ys, u.oneCell' = true) (hn : n + m ≤ 1000000) (hb : bytes ≤ 100) (hbase : base ≤ w.heap.size)
    (h : ∀ v' w', w'.ownsRow base e size v' (n + m) (xs ++ ys) → w.grownBy w' v.ownBlock → K (a.put o.dst v') w') : Oper.wp P o a w K Q := by
  obtain ⟨v', w', hr, h2, h3⟩ := app_row base o.type ht hi hz hsize hby hzs hsz hown hy hl h1 c hn hb hbase
  unfold Oper.wp execOp
  simp only [ho, resolve, invoke, builtin, Sem.run_bind, Sem.run_pure, Result.andThen_ok, List.map_toArray, List.map_cons, List.map_nil, hs, hx, hr]
  exact h _ _ h2 h3

/-- Prefixes, cell by cell. -/
def pfxCs (l : List (Int × Int)) : List Value := l.flatMap (fun p => [.int .u32 p.1, .int .i64 p.2])
theorem pfxCs_app (a b : List (Int × Int)) : pfxCs (a ++ b) = pfxCs a ++ pfxCs b := by simp [pfxCs]
theorem pfxCs_len (l : List (Int × Int)) : (pfxCs l).length = l.length * 2 := by
  induction l with
  | nil => rfl
  | cons a l ih => simp only [pfxCs, List.flatMap_cons, List.length_append, List.length_cons, List.length_nil] at ih ⊢; omega
theorem pfxCs_one {l : List (Int × Int)} : ∀ u ∈ pfxCs l, u.oneCell' = true := fun u hu => by
  simp only [pfxCs, List.mem_flatMap, List.mem_cons, List.not_mem_nil, or_false] at hu
  obtain ⟨p, _, rfl | rfl⟩ := hu <;> rfl
theorem pfxCs_take (l : List (Int × Int)) (k : Nat) (h : k ≤ l.length) : pfxCs (l.take k) = (pfxCs l).take (k * 2) := by
  have e := pfxCs_app (l.take k) (l.drop k)
  rw [List.take_append_drop] at e
  rw [e, List.take_left' (by rw [pfxCs_len, List.length_take]; omega)]
theorem pfxCs_drop (l : List (Int × Int)) (k : Nat) (h : k ≤ l.length) : pfxCs (l.drop k) = (pfxCs l).drop (k * 2) := by
  have e := pfxCs_app (l.take k) (l.drop k)
  rw [List.take_append_drop] at e
  rw [e, List.drop_left' (by rw [pfxCs_len, List.length_take]; omega)]
theorem pfxCs_at (l : List (Int × Int)) (i : Nat) (h : i < l.length) : (pfxCs l)[i * 2]? = some (.int .u32 (l[i]'h).1) ∧ (pfxCs l)[i * 2 + 1]? = some (.int .i64 (l[i]'h).2) := by
  have hs : l = l.take i ++ (l[i]'h :: l.drop (i + 1)) := by rw [← List.drop_eq_getElem_cons h, List.take_append_drop]
  have e1 : pfxCs l = pfxCs (l.take i) ++ ([.int .u32 (l[i]'h).1, .int .i64 (l[i]'h).2] ++ pfxCs (l.drop (i + 1))) := by
    conv => lhs; rw [hs, pfxCs_app]
    rfl
  have e2 : (pfxCs (l.take i)).length = i * 2 := by rw [pfxCs_len, List.length_take]; omega
  constructor
  · rw [e1, List.getElem?_append_right (by omega), e2, Nat.sub_self]; rfl
  · rw [e1, List.getElem?_append_right (by omega), e2, Nat.add_sub_cancel_left]; rfl
theorem infoPfx : (Try.prog.info? 34).map (fun i => (i.zero, i.size, i.bytes)) = some (some (.agg #[.int .u32 0, .int .i64 0]), 2, 16) := by kernel_rfl
theorem lies_pfxs {w : World} {A : Option Addr} {l : List (Int × Int)} (h : LiesS w A (pfxCs l)) : Pfxs w A l := fun hn => by
  obtain ⟨b, o, e, hlt, hc⟩ := h (by rw [pfxCs_len]; omega)
  refine ⟨b, o, e, hlt, fun j hj => ?_⟩
  have ha := pfxCs_at l j hj
  have hl := pfxCs_len l
  constructor
  · rw [hc (j * 2) (by omega)]; rw [← ha.1, List.getElem?_eq_getElem]
  · rw [Nat.add_assoc, hc (j * 2 + 1) (by omega)]; rw [← ha.2, List.getElem?_eq_getElem]
theorem pfxs_lies {w : World} {A : Option Addr} {l : List (Int × Int)} (h : Pfxs w A l) : LiesS w A (pfxCs l) := fun hn => by
  have hl := pfxCs_len l
  obtain ⟨b, o, e, hlt, hc⟩ := h (by omega)
  refine ⟨b, o, e, hlt, fun j hj => ?_⟩
  have hk : j / 2 < l.length := by omega
  have ha := pfxCs_at l (j / 2) hk
  rcases Nat.mod_two_eq_zero_or_one j with hz | hz
  · have e : j = j / 2 * 2 := by omega
    have := ha.1
    rw [← e, List.getElem?_eq_getElem hj] at this
    rw [Option.some.inj this]
    have h3 := (hc (j / 2) hk).1
    rw [← e] at h3
    exact h3
  · have e : j = j / 2 * 2 + 1 := by omega
    have := ha.2
    rw [← e, List.getElem?_eq_getElem hj] at this
    rw [Option.some.inj this]
    have h3 := (hc (j / 2) hk).2
    rw [Nat.add_assoc, ← e] at h3
    exact h3

/-- What Sort makes of what is sorted, and one more. -/
def leP (x p : Int × Int) : Bool := decide (ordF x.1 x.2 p.1 p.2 ≤ 0)
def spotP (out : List (Int × Int)) (p : Int × Int) : Nat := (out.takeWhile (fun x => leP x p)).length
def stepP (out : List (Int × Int)) (p : Int × Int) : List (Int × Int) := if p ∈ out.take (spotP out p) then out else out.take (spotP out p) ++ [p] ++ out.drop (spotP out p)
def sortP (l : List (Int × Int)) : List (Int × Int) := l.foldl stepP []
theorem spotP_le (out : List (Int × Int)) (p : Int × Int) : spotP out p ≤ out.length := List.Sublist.length_le (List.takeWhile_sublist _)
/-- The place where it stands: all ahead are no later, the one there is. -/
theorem spotP_of {out : List (Int × Int)} {p : Int × Int} {k : Nat} (hk : k ≤ out.length) (h : ∀ j (hj : j < out.length), j < k → leP (out[j]'hj) p = true) (he : ∀ (hj : k < out.length), leP (out[k]'hj) p = false) : spotP out p = k := by
  unfold spotP
  conv => lhs; rw [← List.take_append_drop k out]
  rw [List.takeWhile_append_of_pos (by
    intro x hx
    obtain ⟨j, hj, rfl⟩ := List.getElem_of_mem hx
    rw [List.getElem_take]
    exact h j _ (by simp at hj; omega))]
  have : (out.drop k).takeWhile (fun x => leP x p) = [] := by
    rcases Nat.lt_or_ge k out.length with hlt | hge
    · rw [List.drop_eq_getElem_cons hlt, List.takeWhile_cons, if_neg (by rw [he hlt]; simp)]
    · rw [List.drop_of_length_le hge]; rfl
  rw [this, List.append_nil, List.length_take]
  omega
theorem sortP_snoc (l : List (Int × Int)) (p : Int × Int) : sortP (l ++ [p]) = stepP (sortP l) p := by simp [sortP]
theorem sortP_len (l : List (Int × Int)) : (sortP l).length ≤ l.length := by
  suffices h : ∀ (l : List (Int × Int)) out, (l.foldl stepP out).length ≤ out.length + l.length by
    have := h l []
    rw [List.length_nil, Nat.zero_add] at this
    exact this
  intro l
  induction l with
  | nil => intro out; simp
  | cons a l ih =>
    intro out
    rw [List.foldl_cons]
    have h1 := ih (stepP out a)
    have h2 : (stepP out a).length ≤ out.length + 1 := by
      unfold stepP
      split
      · omega
      · have := spotP_le out a
        simp only [List.length_append, List.length_take, List.length_drop, List.length_cons, List.length_nil]; omega
    simp only [List.length_cons]
    omega
end Go.Proofs.Ytghkacciihocdaa

namespace Go.Proofs.Ytghkacciihocdaa
open Go Go.RowKit Go.Sort
attribute [local go_sem] Oper.semAt_some
attribute [local irreducible] wpQuiet

theorem ready_pair {P : Program} {md : Region.Mode} {ops : Array Oper} {Q : Exit → Act → World → Prop} {S : World → Prop} {fuel : Nat} {listed : Array Bool} {a : Act} {w : World} {i j : Nat} {o p : Oper} (hr : Region.ready md ops listed = [i, j]) (ho : ops[i]? = some o) (hp : ops[j]? = some p)
    (hw : Region.wanted o (yielded ops a.tmps) = true) (hv : Region.wanted p (yielded ops a.tmps) = true)
    (h : ∀ K' : Act → World → Prop, Shut (∀ a w, S w → (S w → wpAnyH P md ops Q S fuel (listed.setIfInBounds i true) a w) → K' a w) → Oper.wp P o a w K' Q)
    (k : ∀ K' : Act → World → Prop, Shut (∀ a w, S w → (S w → wpAnyH P md ops Q S fuel (listed.setIfInBounds j true) a w) → K' a w) → Oper.wp P p a w K' Q) : wpAnyH P md ops Q S (fuel + 1) listed a w :=
  wpAnyH_ready hr (by simp) (AllReadyH.cons ho (fun K' hK => by rw [if_pos hw]; exact h K' hK) (AllReadyH.cons hp (fun K' hK => by rw [if_pos hv]; exact k K' hK) AllReadyH.nil))
theorem ord_quiet (x n y m : Int) (W : World) : ∀ d os, Calls Try.prog 51 #[pfx x n, pfx y m] (grow (redrawn W d) os) fun e w'' => e = .returned (.int .i64 (ordF x n y m)) ∧ ∃ p : Regrown, w'' = grow (redrawn W p.d) p.os := fun _ _ =>
  Calls.regrown_of (refOrder_any x n y m _)

theorem own_slice {w : World} {base : Nat} {e : TypeId} {size n : Nat} {v : Value} {xs : List Value} (h : w.ownsRow base e size v n xs) : ∃ A cap, v = .slice A n cap := by
  rcases h.2 with ⟨rfl, rfl⟩ | ⟨g, cap, cur, rfl, _⟩
  · exact ⟨_, _, rfl⟩
  · exact ⟨_, _, rfl⟩
theorem own_cap {w : World} {base : Nat} {e : TypeId} {size n cap : Nat} {A : Option Addr} {xs : List Value} (h : w.ownsRow base e size (.slice A n cap) n xs) : n ≤ cap ∧ ((A = none ∧ n = 0 ∧ cap = 0) ∨ ∃ g, A = some ⟨g, 0, none⟩) := by
  rcases h.2 with ⟨h, rfl⟩ | ⟨g, cap', cur, h, _, _, hc, _⟩
  · injection h with h1 _ h2
    exact ⟨by omega, .inl ⟨h1, rfl, h2⟩⟩
  · injection h with h1 _ h2
    subst h2
    exact ⟨hc, .inr ⟨g, h1⟩⟩
/-- An own slice stays through a call. -/
theorem own_past {w w' : World} {base : Nat} {e : TypeId} {size : Nat} {v : Value} {n : Nat} {xs : List Value} (h : w.ownsRow base e size v n xs) (hb : Below w.heap.size w w') : w'.ownsRow base e size v n xs := by
  refine ⟨h.1, ?_⟩
  rcases h.2 with hn | ⟨g, cap, cur, rfl, hb', hgg, rest⟩
  · exact .inl hn
  · exact .inr ⟨g, cap, cur, rfl, hb', (hb.block g (Array.getElem?_eq_some_iff.1 hgg).1).trans hgg, rest⟩

theorem own_fit {w : World} {base base' : Nat} {e : TypeId} {size n n' : Nat} {v : Value} {xs xs' : List Value} (h : w.ownsRow base e size v n xs) (hb : base' ≤ base) (hn : n = n') (hx : xs = xs') : w.ownsRow base' e size v n' xs' := by
  subst hn; subst hx
  refine ⟨h.1, ?_⟩
  rcases h.2 with hz | ⟨g, cap, cur, rfl, hg, rest⟩
  · exact .inl hz
  · exact .inr ⟨g, cap, cur, rfl, Nat.le_trans hb hg, rest⟩
theorem lies_new (w : World) (x n : Int) : LiesS (w.alloc (.cells #[.int .u32 x, .int .i64 n] 34)) (some ⟨w.heap.size, 0, none⟩) [.int .u32 x, .int .i64 n] :=
  lies_own (World.ownsRow_lit (base := 0) (e := 34) (size := 2) w #[.int .u32 x, .int .i64 n] 1 (Nat.zero_le _) (by decide) rfl)
theorem lies_grown {w w' : World} {b o : Nat} {xs : List Value} {row : Option Nat} (h : LiesS w (some ⟨b, o, none⟩) xs) (hg : w.grownBy w' row) (hne : row ≠ some b) : LiesS w' (some ⟨b, o, none⟩) xs := fun hn => by
  obtain ⟨b', o', e, hlt, hc⟩ := h hn
  have e2 := Option.some.inj e
  injection e2 with e3 e4
  subst e3; subst e4
  refine ⟨b, o, rfl, Nat.lt_of_lt_of_le hlt hg.size, fun j hj => ?_⟩
  rw [← hc j hj]
  exact World.cell?_of_block (hg.block b hlt (fun e => hne e.symm))
theorem lies_rest {w w0 : World} {base : Nat} {e : TypeId} {n cap : Nat} {A : Option Addr} {xs : List Value} {q : Nat} (h : w0.ownsRow base e 2 (.slice A n cap) n xs) (hl : LiesS w A xs) (hq : q ≤ n) : LiesS w (if cap = q then A else Option.map (fun x => x.add (q * 2)) A) (xs.drop (q * 2)) := by
  have hc := own_cap h
  have h1 := h.1
  by_cases hn : q = n
  · rw [List.drop_of_length_le (by omega)]; exact LiesS.nil _ _
  · rw [if_neg (by omega)]
    rcases hc.2 with ⟨_, h2, _⟩ | ⟨g, rfl⟩
    · omega
    · have := hl.drop (q * 2)
      rw [show (some (⟨g, 0, none⟩ : Addr)).map (fun x => x.add (q * 2)) = some ⟨g, 0 + q * 2, none⟩ by rw [Option.map_some, Addr.add_lit]]
      exact this
theorem there_next {out : List (Int × Int)} {q : Nat} {x n y m : Int} (h : out.take (q + 1) = out.take q ++ [(y, m)]) : decide ((x, n) ∈ out.take (q + 1)) = (decide ((x, n) ∈ out.take q) || (decide (y = x) && decide (m = n))) := by
  rw [h, Bool.eq_iff_iff]
  simp only [List.mem_append, List.mem_singleton, Prod.mk.injEq, Bool.or_eq_true, Bool.and_eq_true, decide_eq_true_eq]
  constructor
  · rintro (h | ⟨h1, h2⟩)
    · exact .inl h
    · exact .inr ⟨h1.symm, h2.symm⟩
  · rintro (h | ⟨h1, h2⟩)
    · exact .inl h
    · exact .inr ⟨h1.symm, h2.symm⟩

set_option maxRecDepth 100000 in
set_option maxHeartbeats 3200000 in
theorem refSort_any (A : Option Addr) (ca : Nat) (l : List (Int × Int)) (hl : l.length ≤ 1000000) (w : World) (hA : Pfxs w A l) :
    Calls Try.prog 63 #[.slice A l.length ca] w fun e w' => ∃ v, e = .returned v ∧ w'.ownsRow w.heap.size 34 2 v (sortP l).length (pfxCs (sortP l)) ∧ Below w.heap.size w w' := by
  obtain ⟨i0, hi, hz0, hz1, hz2⟩ := info_parts infoPfx
  have HI := Lib.hid (And.intro hi (And.intro hz0 (And.intro hz1 hz2)))
  have HA := Lib.hid hA
  have HL := Lib.hid hl
  clear hA hi hz0 hz1 hz2
  go_enter Try.func63, Try.ntmps63
  go_wp2_with fail
  go_loopw [3, 4] (fun v i wr => ∃ k : Nat, k ≤ l.length ∧ i = .int .i64 k ∧ Hid (wr.ownsRow w.heap.size 34 2 v (sortP (l.take k)).length (pfxCs (sortP (l.take k)))) ∧ Hid (Below w.heap.size w wr)) (fun _ i _ => l.length - (intOf i).toNat)
  case atStart => exact ⟨0, by omega, rfl, Lib.hid (World.ownsRow_nil _ _ _ _), Lib.hid (Below.refl _ _)⟩
  case round =>
    obtain ⟨k, hk, rfl, HO, HW⟩ := hrel
    obtain ⟨Av, cv, rfl⟩ := own_slice HO.out
    have HLS := Lib.hid (lies_own HO.out)
    have HLN : Hid ((sortP (l.take k)).length ≤ k ∧ k ≤ 1000000) := Lib.hid ⟨by have := sortP_len (l.take k); simp at this; omega, by omega⟩
    by_cases hlt : k < l.length
    · have HN : Hid (sortP (l.take (k + 1)) = stepP (sortP (l.take k)) (l[k]'hlt)) := Lib.hid (by rw [List.take_add_one, List.getElem?_eq_getElem hlt]; exact sortP_snoc _ _)
      generalize sortP (l.take k) = out at *
      obtain ⟨b, o, rfl, hbl, hcA⟩ := HA.out.below HW.out (by omega)
      have hp1 := (hcA k hlt).1
      have hp2 := (hcA k hlt).2
      have HP1 := Lib.hid hp1
      have HP2 := Lib.hid hp2
      clear hcA hp1 hp2
      generalize (l[k]'hlt) = p at *
      obtain ⟨x, n⟩ := p
      dsimp only at HP1 HP2
      have hlt2 : (k : Int) < (l.length : Int) := by omega
      obtain ⟨w0, hw0⟩ : ∃ w0, w0 = wr := ⟨_, rfl⟩
      subst hw0
      go_upto_block 2 with fail
      go_cut [5, 6] from 7 to 59 (fun v5 v6 wx => v5 = .int .i64 (spotP out (x, n)) ∧ v6 = .bool (decide ((x, n) ∈ out.take (spotP out (x, n)))) ∧ Hid (Below w0.heap.size w0 wx))
      case first =>
        go_wp2_with fail
        go_loopw [5, 6] (fun v5 v6 wx => ∃ q : Nat, q ≤ out.length ∧ v5 = .int .i64 q ∧ v6 = .bool (decide ((x, n) ∈ out.take q)) ∧ Hid (∀ j (hj : j < out.length), j < q → leP (out[j]'hj) (x, n) = true) ∧ Hid (Below w0.heap.size w0 wx)) (fun v5 _ _ => out.length - (intOf v5).toNat)
        case atStart => exact ⟨0, by omega, rfl, by simp, Lib.hid (fun j _ h => by omega), Lib.hid (Below.refl _ _)⟩
        case round =>
          obtain ⟨q, hq, rfl, rfl, HQ, HX⟩ := hrel
          have hpx := lies_pfxs (HLS.out.below HX.out)
          have HC1 := cell_regrown ((HX.out.cell (p := ⟨b, o + k * 2, none⟩) hbl).trans HP1.out)
          have HC2 := cell_regrown ((HX.out.cell (p := ⟨b, o + k * 2 + 1, none⟩) hbl).trans HP2.out)
          obtain ⟨th, hth⟩ : ∃ th, decide ((x, n) ∈ out.take q) = th := ⟨_, rfl⟩
          rw [hth]
          have HTH := Lib.hid hth
          clear hth
          have hol : out.length ≤ 1000000 := by have := HLN.out; omega
          by_cases hlq : q < out.length
          · obtain ⟨b2, o2, rfl, hbl2, hc2⟩ := hpx (by omega)
            have k0 := cell_regrown (hc2 q hlq).1
            have k1 := cell_regrown (hc2 q hlq).2
            clear hc2 hpx
            obtain ⟨⟨y, m⟩, hym⟩ : ∃ p, out[q]'hlq = p := ⟨_, rfl⟩
            simp only [hym] at k0 k1
            have HYM := Lib.hid hym
            clear hym
            have hlq2 : (q : Int) < (out.length : Int) := by omega
            have bO := ord_quiet y m x n wr
            by_cases hle : ordF y m x n ≤ 0
            · have HLE : Hid (leP (y, m) (x, n) = true) := Lib.hid (by unfold leP; exact decide_eq_true hle)
              go_wp2_with fail
              refine wp_region_quiet_below (by kernel_rfl) (by kernel_rfl) ?_
              repeat (quiet_step (first | (with_reducible exact bO _ _)))
              refine wpQuiet_nil ?_
              intro w2 hw2
              obtain ⟨⟨dq, osq⟩, rfl⟩ := hw2
              have HX2 := Lib.hid (HX.out.trans ((below_regrown wr dq osq).mono HX.out.size))
              have e1 := cell_regrown (k0 dq osq)
              have e2 := cell_regrown (k1 dq osq)
              have e3 := cell_regrown (HC1 dq osq)
              have e4 := cell_regrown (HC2 dq osq)
              generalize grow (redrawn wr dq) osq = w2 at *
              clear k0 k1 HC1 HC2 bO
              have HQ2 : Hid (∀ j (hj : j < out.length), j < q + 1 → leP (out[j]'hj) (x, n) = true) := Lib.hid (fun j hj h => by
                rcases Nat.lt_or_ge j q with h2 | h2
                · exact HQ.out j hj h2
                · obtain rfl : j = q := by omega
                  rw [HYM.out]; exact HLE.out)
              have HTK : Hid (out.take (q + 1) = out.take q ++ [(y, m)]) := Lib.hid (by rw [List.take_add_one, List.getElem?_eq_getElem hlq, HYM.out]; rfl)
              rcases th with _ | _
              · have hc : (y = x ∧ m = n) ∨ (y = x ∧ ¬ m = n) ∨ ¬ y = x := by omega
                rcases hc with ⟨h1, h2⟩ | ⟨h1, h2⟩ | h1
                · go_wp2_with fail
                  refine wp_region_quiet_below (by kernel_rfl) (by kernel_rfl) ?_
                  repeat (quiet_step (fail))
                  refine wpQuiet_nil ?_
                  intro w3 hw2
                  obtain ⟨⟨dq, osq⟩, rfl⟩ := hw2
                  have HX3 := Lib.hid (HX2.out.trans ((below_regrown w2 dq osq).mono HX2.out.size))
                  generalize grow (redrawn w2 dq) osq = w3 at *
                  clear e1 e2 e3 e4
                  go_wp2_with fail
                  go_roundw
                  case rel => exact ⟨q + 1, by omega, by go_num, by rw [there_next HTK.out, HTH.out]; simp [h1, h2], HQ2, HX3⟩
                  case measure => simp [intOf]; omega
                · go_wp2_with fail
                  refine wp_region_quiet_below (by kernel_rfl) (by kernel_rfl) ?_
                  repeat (quiet_step (fail))
                  refine wpQuiet_nil ?_
                  intro w3 hw2
                  obtain ⟨⟨dq, osq⟩, rfl⟩ := hw2
                  have HX3 := Lib.hid (HX2.out.trans ((below_regrown w2 dq osq).mono HX2.out.size))
                  generalize grow (redrawn w2 dq) osq = w3 at *
                  clear e1 e2 e3 e4
                  go_wp2_with fail
                  go_roundw
                  case rel => exact ⟨q + 1, by omega, by go_num, by rw [there_next HTK.out, HTH.out]; simp [h1, h2], HQ2, HX3⟩
                  case measure => simp [intOf]; omega
                · go_wp2_with fail
                  refine wp_region_quiet_below (by kernel_rfl) (by kernel_rfl) ?_
                  repeat (quiet_step (fail))
                  refine wpQuiet_nil ?_
                  intro w3 hw2
                  obtain ⟨⟨dq, osq⟩, rfl⟩ := hw2
                  have HX3 := Lib.hid (HX2.out.trans ((below_regrown w2 dq osq).mono HX2.out.size))
                  generalize grow (redrawn w2 dq) osq = w3 at *
                  clear e1 e2 e3 e4
                  go_wp2_with fail
                  go_roundw
                  case rel => exact ⟨q + 1, by omega, by go_num, by rw [there_next HTK.out, HTH.out]; simp [h1], HQ2, HX3⟩
                  case measure => simp [intOf]; omega
              · go_wp2_with fail
                refine wp_region_quiet_below (by kernel_rfl) (by kernel_rfl) ?_
                repeat (quiet_step (fail))
                refine wpQuiet_nil ?_
                intro w3 hw2
                obtain ⟨⟨dq, osq⟩, rfl⟩ := hw2
                have HX3 := Lib.hid (HX2.out.trans ((below_regrown w2 dq osq).mono HX2.out.size))
                generalize grow (redrawn w2 dq) osq = w3 at *
                clear e1 e2 e3 e4
                go_wp2_with fail
                go_roundw
                case rel => exact ⟨q + 1, by omega, by go_num, by rw [there_next HTK.out, HTH.out]; simp, HQ2, HX3⟩
                case measure => simp [intOf]; omega
            · go_wp2_with fail
              refine wp_region_quiet_below (by kernel_rfl) (by kernel_rfl) ?_
              repeat (quiet_step (first | (with_reducible exact bO _ _)))
              refine wpQuiet_nil ?_
              intro w2 hw2
              obtain ⟨⟨dq, osq⟩, rfl⟩ := hw2
              have HX2 := Lib.hid (HX.out.trans ((below_regrown wr dq osq).mono HX.out.size))
              generalize grow (redrawn wr dq) osq = w2 at *
              clear HC1 HC2
              go_wp2_with fail
              go_meet
              have hsp : spotP out (x, n) = q := spotP_of hq HQ.out (fun _ => by rw [HYM.out]; unfold leP; exact decide_eq_false (show ¬ ordF y m x n ≤ 0 by omega))
              exact ⟨by rw [hsp], by rw [hsp, HTH.out], HX2⟩
          · obtain rfl : q = out.length := by omega
            go_wp2_with fail
            refine wp_region_quiet_below (by kernel_rfl) (by kernel_rfl) ?_
            repeat (quiet_step (fail))
            refine wpQuiet_nil ?_
            intro w2 hw2
            obtain ⟨⟨dq, osq⟩, rfl⟩ := hw2
            have HX2 := Lib.hid (HX.out.trans ((below_regrown wr dq osq).mono HX.out.size))
            generalize grow (redrawn wr dq) osq = w2 at *
            clear HC1 HC2
            go_wp2_with fail
            go_meet
            have hsp : spotP out (x, n) = out.length := spotP_of (Nat.le_refl _) HQ.out (fun h => absurd h (by omega))
            exact ⟨by rw [hsp], by rw [hsp, HTH.out], HX2⟩
      case rest =>
        obtain ⟨rfl, rfl, HX⟩ := hcut
        have hqle := spotP_le out (x, n)
        have HST : Hid (stepP out (x, n) = if (x, n) ∈ out.take (spotP out (x, n)) then out else out.take (spotP out (x, n)) ++ [(x, n)] ++ out.drop (spotP out (x, n))) := Lib.hid rfl
        generalize spotP out (x, n) = q at *
        by_cases hin : (x, n) ∈ out.take q
        · rw [decide_eq_true hin]
          have hnx : sortP (l.take (k + 1)) = out := by rw [HN.out, HST.out, if_pos hin]
          go_wp2_with fail
          go_roundw
          case rel =>
            refine ⟨k + 1, by omega, by go_num, ?_, Lib.hid (HW.out.trans (HX.out.mono HW.out.size))⟩
            rw [hnx]
            exact Lib.hid (own_past HO.out HX.out)
          case measure => simp [intOf]; omega
        · rw [decide_eq_false hin]
          have hnx : sortP (l.take (k + 1)) = out.take q ++ [(x, n)] ++ out.drop q := by rw [HN.out, HST.out, if_neg hin]
          have HNX := Lib.hid hnx
          clear hnx
          go_upto_region 10 with fail
          have hd := below_drew wc
          have hal0 : w.heap.size ≤ wc.heap.size := Nat.le_trans HW.out.size HX.out.size
          have hcp := own_cap HO.out
          have hcs : q ≤ cv ∧ out.length ≤ cv := ⟨by omega, hcp.1⟩
          have hol : out.length + 1 ≤ 1000000 := by have := HLN.out; omega
          have HSF : Hid (∀ W, Below wc.heap.size wc W → W.cell? ⟨b, o + k * 2, none⟩ = some (.int .u32 x) ∧ W.cell? ⟨b, o + k * 2 + 1, none⟩ = some (.int .i64 n) ∧ Hid (Below wc.heap.size wc W)) := Lib.hid (fun W hb => by
            have h1 := HX.out.trans (hb.mono HX.out.size)
            exact ⟨(h1.cell (p := ⟨b, o + k * 2, none⟩) hbl).trans HP1.out, (h1.cell (p := ⟨b, o + k * 2 + 1, none⟩) hbl).trans HP2.out, hb⟩)
          have HLW := Lib.hid (HLS.out.below HX.out)
          have HT1 := Lib.hid (show LiesS wc Av (pfxCs (out.take q)) by rw [pfxCs_take _ _ hqle]; exact HLW.out.take _)
          have HT2 := Lib.hid (show LiesS wc (if cv = q then Av else Option.map (fun x => x.add (q * 2)) Av) (pfxCs (out.drop q)) by rw [pfxCs_drop _ _ hqle]; exact lies_rest HO.out HLW.out hqle)
          have LY1 : Hid (∀ W, Below wc.heap.size wc W → LiesS W Av (pfxCs (out.take q))) := Lib.hid (fun W hb => HT1.out.below hb)
          have LY2 : Hid (∀ W, Below wc.heap.size wc W → LiesS W (if cv = q then Av else Option.map (fun x => x.add (q * 2)) Av) (pfxCs (out.drop q))) := Lib.hid (fun W hb => HT2.out.below hb)
          have hSd := HSF.out _ hd
          refine wp_region_noPanic ?_
          refine wp_region_held_drew (S := fun W => W.cell? ⟨b, o + k * 2, none⟩ = some (.int .u32 x) ∧ W.cell? ⟨b, o + k * 2 + 1, none⟩ = some (.int .i64 n) ∧ Hid (Below wc.heap.size wc W)) (by kernel_rfl) hSd ?_
          intro hS0
          refine wpAnyH_take (i := 1) (v := ?v1) (by rw [List.getElem?_toArray]; exact rfl) (by kernel_rfl) (by kernel_rfl) (by kernel_rfl) (fun _ _ _ h => h) (Or.inl ⟨by rfl, ?hy1⟩) (by assumption) ?rest1
          case hy1 => intro w hSw; (try dsimp only at hSw); go_simp; (try with_reducible rfl)
          try simp only [Act.put, List.setIfInBounds_toArray, List.set_cons_zero, List.set_cons_succ]
          refine wpAnyH_take (i := 2) (v := ?v2) (by rw [List.getElem?_toArray]; exact rfl) (by kernel_rfl) (by kernel_rfl) (by kernel_rfl) (fun _ _ _ h => h) (Or.inl ⟨by rfl, ?hy2⟩) (by assumption) ?rest2
          case hy2 => intro w hSw; (try dsimp only at hSw); go_simp; (try with_reducible rfl)
          try simp only [Act.put, List.setIfInBounds_toArray, List.set_cons_zero, List.set_cons_succ]
          refine wpAnyH_take (i := 3) (v := ?v3) (by rw [List.getElem?_toArray]; exact rfl) (by kernel_rfl) (by kernel_rfl) (by kernel_rfl) (fun _ _ _ h => h) (Or.inl ⟨by rfl, ?hy3⟩) (by assumption) ?rest3
          case hy3 => intro w hSw; (try dsimp only at hSw); go_simp; (try with_reducible rfl)
          try simp only [Act.put, List.setIfInBounds_toArray, List.set_cons_zero, List.set_cons_succ]
          refine wpAnyH_take (i := 5) (v := ?v4) (by rw [List.getElem?_toArray]; exact rfl) (by kernel_rfl) (by kernel_rfl) (by kernel_rfl) (fun _ _ _ h => h) (Or.inl ⟨by rfl, ?hy4⟩) (by assumption) ?rest4
          case hy4 => intro w hSw; (try dsimp only at hSw); go_simp; (try with_reducible rfl)
          try simp only [Act.put, List.setIfInBounds_toArray, List.set_cons_zero, List.set_cons_succ]
          refine wpAnyH_take (i := 6) (v := ?v5) (by rw [List.getElem?_toArray]; exact rfl) (by kernel_rfl) (by kernel_rfl) (by kernel_rfl) (fun _ _ _ h => h) (Or.inl ⟨by rfl, ?hy5⟩) (by assumption) ?rest5
          case hy5 => intro w hSw; (try dsimp only at hSw); go_simp; (try with_reducible rfl)
          try simp only [Act.put, List.setIfInBounds_toArray, List.set_cons_zero, List.set_cons_succ]
          refine wpAnyH_take (i := 7) (v := ?v6) (by rw [List.getElem?_toArray]; exact rfl) (by kernel_rfl) (by kernel_rfl) (by kernel_rfl) (fun _ _ _ h => h) (Or.inl ⟨by rfl, ?hy6⟩) (by assumption) ?rest6
          case hy6 => intro w hSw; (try dsimp only at hSw); go_simp; (try with_reducible rfl)
          try simp only [Act.put, List.setIfInBounds_toArray, List.set_cons_zero, List.set_cons_succ]
          refine wpAnyH_take (i := 8) (v := ?v7) (by rw [List.getElem?_toArray]; exact rfl) (by kernel_rfl) (by kernel_rfl) (by kernel_rfl) (fun _ _ _ h => h) (Or.inl ⟨by rfl, ?hy7⟩) (by assumption) ?rest7
          case hy7 => intro w hSw; (try dsimp only at hSw); go_simp; (try with_reducible rfl)
          try simp only [Act.put, List.setIfInBounds_toArray, List.set_cons_zero, List.set_cons_succ]
          refine wpAnyH_take (i := 11) (v := ?v8) (by rw [List.getElem?_toArray]; exact rfl) (by kernel_rfl) (by kernel_rfl) (by kernel_rfl) (fun _ _ _ h => h) (Or.inl ⟨by rfl, ?hy8⟩) (by assumption) ?rest8
          case hy8 => intro w hSw; (try dsimp only at hSw); go_simp; (try with_reducible rfl)
          try simp only [Act.put, List.setIfInBounds_toArray, List.set_cons_zero, List.set_cons_succ]
          refine wpAnyH_take (i := 12) (v := ?v9) (by rw [List.getElem?_toArray]; exact rfl) (by kernel_rfl) (by kernel_rfl) (by kernel_rfl) (fun _ _ _ h => h) (Or.inl ⟨by rfl, ?hy9⟩) (by assumption) ?rest9
          case hy9 => intro w hSw; (try dsimp only at hSw); go_simp; (try with_reducible rfl)
          try simp only [Act.put, List.setIfInBounds_toArray, List.set_cons_zero, List.set_cons_succ]
          refine wpAnyH_take (i := 13) (v := ?v10) (by rw [List.getElem?_toArray]; exact rfl) (by kernel_rfl) (by kernel_rfl) (by kernel_rfl) (fun _ _ _ h => h) (Or.inl ⟨by rfl, ?hy10⟩) (by assumption) ?rest10
          case hy10 => intro w hSw; (try dsimp only at hSw); go_simp; (try with_reducible rfl)
          try simp only [Act.put, List.setIfInBounds_toArray, List.set_cons_zero, List.set_cons_succ]
          refine ready_pair (i := 0) (j := 9) (by kernel_rfl) (by rw [List.getElem?_toArray]; exact rfl) (by rw [List.getElem?_toArray]; exact rfl) (by kernel_rfl) (by kernel_rfl) (fun K1 hK1 => ?_) (fun K1 hK1 => ?_)
          · go_simp
            have hal1 : Below (wc.drew).heap.size (wc.drew) ((wc.drew).alloc (.cells #[] 34)) := (Below.refl _ _).alloc (Nat.le_refl _) _
            have hb1 := hd.trans (hal1.mono hd.size)
            have ho1 := World.ownsRow_lit (e := 34) (size := 2) (wc.drew) #[] 0 (hd.size) (by decide) rfl
            try simp at ho1
            refine hK1.out _ _ (HSF.out _ hb1) (fun hS1 => ?_)
            clear hK1 K1
            try simp only [Act.put, List.setIfInBounds_toArray, List.set_cons_zero, List.set_cons_succ]
            refine ready_pair (i := 4) (j := 9) (by kernel_rfl) (by rw [List.getElem?_toArray]; exact rfl) (by rw [List.getElem?_toArray]; exact rfl) (by kernel_rfl) (by kernel_rfl) (fun K1 hK1 => ?_) (fun K1 hK1 => ?_)
            · refine wp_app_row (.tmp 45) (.tmp 48) (by rfl) wc.heap.size Try.underlying67 HI.out.1 HI.out.2.1 HI.out.2.2.1 HI.out.2.2.2 rfl (by decide) (by rfl) ho1 (by rfl) (LY1.out _ hb1) (by rw [pfxCs_len, List.length_take]; omega) pfxCs_one (by omega) (by decide) hb1.size (fun v2 w2 ho2 hg2 => ?_)
              have hb2 := hb1.grown hg2 hb1.size (fun r e => (ho1.lt r e).1)
              refine hK1.out _ _ (HSF.out _ hb2) (fun hS2 => ?_)
              clear hK1 K1
              try simp only [Act.put, List.setIfInBounds_toArray, List.set_cons_zero, List.set_cons_succ]
              refine ready_call (i := 9) (by kernel_rfl) (by rw [List.getElem?_toArray]; exact rfl) (by kernel_rfl) (fun K1 hK1 => ?_)
              go_simp
              have hal3 : Below (w2).heap.size (w2) ((w2).alloc (.cells #[.int .u32 x, .int .i64 n] 34)) := (Below.refl _ _).alloc (Nat.le_refl _) _
              have hb3 := hb2.trans (hal3.mono hb2.size)
              have ho3 := ho2.alloc (.cells #[.int .u32 x, .int .i64 n] 34)
              have ly3 := lies_new (w2) x n
              try simp at ly3
              refine hK1.out _ _ (HSF.out _ hb3) (fun hS3 => ?_)
              clear hK1 K1
              try simp only [Act.put, List.setIfInBounds_toArray, List.set_cons_zero, List.set_cons_succ]
              refine ready_call (i := 10) (by kernel_rfl) (by rw [List.getElem?_toArray]; exact rfl) (by kernel_rfl) (fun K1 hK1 => ?_)
              refine wp_app_row (.tmp 49) (.tmp 54) (by rfl) wc.heap.size Try.underlying67 HI.out.1 HI.out.2.1 HI.out.2.2.1 HI.out.2.2.2 rfl (by decide) (by rfl) ho3 (by rfl) ly3 rfl (by intro u hu; simp at hu; rcases hu with rfl | rfl <;> rfl) (by omega) (by decide) hb3.size (fun v4 w4 ho4 hg4 => ?_)
              have hb4 := hb3.grown hg4 hb3.size (fun r e => (ho3.lt r e).1)
              refine hK1.out _ _ (HSF.out _ hb4) (fun hS4 => ?_)
              clear hK1 K1
              try simp only [Act.put, List.setIfInBounds_toArray, List.set_cons_zero, List.set_cons_succ]
              refine ready_call (i := 14) (by kernel_rfl) (by rw [List.getElem?_toArray]; exact rfl) (by kernel_rfl) (fun K1 hK1 => ?_)
              refine wp_app_row (.tmp 55) (.tmp 58) (by rfl) wc.heap.size Try.underlying67 HI.out.1 HI.out.2.1 HI.out.2.2.1 HI.out.2.2.2 rfl (by decide) (by rfl) ho4 (by rfl) (LY2.out _ hb4) (by rw [pfxCs_len, List.length_drop]) pfxCs_one (by omega) (by decide) hb4.size (fun v5 w5 ho5 hg5 => ?_)
              have hb5 := hb4.grown hg5 hb4.size (fun r e => (ho4.lt r e).1)
              refine hK1.out _ _ (HSF.out _ hb5) (fun hS5 => ?_)
              clear hK1 K1
              try simp only [Act.put, List.setIfInBounds_toArray, List.set_cons_zero, List.set_cons_succ]
              refine ready_call (i := 15) (by kernel_rfl) (by rw [List.getElem?_toArray]; exact rfl) (by kernel_rfl) (fun K1 hK1 => ?_)
              go_simp
              refine hK1.out _ _ (HSF.out _ hb5) (fun hSz => ?_)
              clear hK1 K1
              try simp only [Act.put, List.setIfInBounds_toArray, List.set_cons_zero, List.set_cons_succ]
              refine wpAnyH_done (by kernel_rfl) ?_ _
              refine NoPanic.normal ?_
              go_wp2_with fail
              go_roundw
              case rel =>
                refine ⟨k + 1, by omega, by go_num, ?_, Lib.hid (HW.out.trans ((HX.out.trans (hb5.mono HX.out.size)).mono HW.out.size))⟩
                rw [HNX.out]
                exact Lib.hid (own_fit ho5 hal0 (by simp only [List.length_append, List.length_take, List.length_drop, List.length_cons, List.length_nil, Nat.min_eq_left hqle]; omega) (by rw [pfxCs_app, pfxCs_app]; rfl))
              case measure => simp [intOf]; omega
            · go_simp
              have hal2 : Below ((wc.drew).alloc (.cells #[] 34)).heap.size ((wc.drew).alloc (.cells #[] 34)) (((wc.drew).alloc (.cells #[] 34)).alloc (.cells #[.int .u32 x, .int .i64 n] 34)) := (Below.refl _ _).alloc (Nat.le_refl _) _
              have hb2 := hb1.trans (hal2.mono hb1.size)
              have ho2 := ho1.alloc (.cells #[.int .u32 x, .int .i64 n] 34)
              have ly2 := lies_new ((wc.drew).alloc (.cells #[] 34)) x n
              try simp at ly2
              refine hK1.out _ _ (HSF.out _ hb2) (fun hS2 => ?_)
              clear hK1 K1
              try simp only [Act.put, List.setIfInBounds_toArray, List.set_cons_zero, List.set_cons_succ]
              refine ready_call (i := 4) (by kernel_rfl) (by rw [List.getElem?_toArray]; exact rfl) (by kernel_rfl) (fun K1 hK1 => ?_)
              refine wp_app_row (.tmp 45) (.tmp 48) (by rfl) wc.heap.size Try.underlying67 HI.out.1 HI.out.2.1 HI.out.2.2.1 HI.out.2.2.2 rfl (by decide) (by rfl) ho2 (by rfl) (LY1.out _ hb2) (by rw [pfxCs_len, List.length_take]; omega) pfxCs_one (by omega) (by decide) hb2.size (fun v3 w3 ho3 hg3 => ?_)
              have hb3 := hb2.grown hg3 hb2.size (fun r e => (ho2.lt r e).1)
              have ly3 := lies_grown ly2 hg3 (by simp [Value.ownBlock])
              refine hK1.out _ _ (HSF.out _ hb3) (fun hS3 => ?_)
              clear hK1 K1
              try simp only [Act.put, List.setIfInBounds_toArray, List.set_cons_zero, List.set_cons_succ]
              refine ready_call (i := 10) (by kernel_rfl) (by rw [List.getElem?_toArray]; exact rfl) (by kernel_rfl) (fun K1 hK1 => ?_)
              refine wp_app_row (.tmp 49) (.tmp 54) (by rfl) wc.heap.size Try.underlying67 HI.out.1 HI.out.2.1 HI.out.2.2.1 HI.out.2.2.2 rfl (by decide) (by rfl) ho3 (by rfl) ly3 rfl (by intro u hu; simp at hu; rcases hu with rfl | rfl <;> rfl) (by omega) (by decide) hb3.size (fun v4 w4 ho4 hg4 => ?_)
              have hb4 := hb3.grown hg4 hb3.size (fun r e => (ho3.lt r e).1)
              refine hK1.out _ _ (HSF.out _ hb4) (fun hS4 => ?_)
              clear hK1 K1
              try simp only [Act.put, List.setIfInBounds_toArray, List.set_cons_zero, List.set_cons_succ]
              refine ready_call (i := 14) (by kernel_rfl) (by rw [List.getElem?_toArray]; exact rfl) (by kernel_rfl) (fun K1 hK1 => ?_)
              refine wp_app_row (.tmp 55) (.tmp 58) (by rfl) wc.heap.size Try.underlying67 HI.out.1 HI.out.2.1 HI.out.2.2.1 HI.out.2.2.2 rfl (by decide) (by rfl) ho4 (by rfl) (LY2.out _ hb4) (by rw [pfxCs_len, List.length_drop]) pfxCs_one (by omega) (by decide) hb4.size (fun v5 w5 ho5 hg5 => ?_)
              have hb5 := hb4.grown hg5 hb4.size (fun r e => (ho4.lt r e).1)
              refine hK1.out _ _ (HSF.out _ hb5) (fun hS5 => ?_)
              clear hK1 K1
              try simp only [Act.put, List.setIfInBounds_toArray, List.set_cons_zero, List.set_cons_succ]
              refine ready_call (i := 15) (by kernel_rfl) (by rw [List.getElem?_toArray]; exact rfl) (by kernel_rfl) (fun K1 hK1 => ?_)
              go_simp
              refine hK1.out _ _ (HSF.out _ hb5) (fun hSz => ?_)
              clear hK1 K1
              try simp only [Act.put, List.setIfInBounds_toArray, List.set_cons_zero, List.set_cons_succ]
              refine wpAnyH_done (by kernel_rfl) ?_ _
              refine NoPanic.normal ?_
              go_wp2_with fail
              go_roundw
              case rel =>
                refine ⟨k + 1, by omega, by go_num, ?_, Lib.hid (HW.out.trans ((HX.out.trans (hb5.mono HX.out.size)).mono HW.out.size))⟩
                rw [HNX.out]
                exact Lib.hid (own_fit ho5 hal0 (by simp only [List.length_append, List.length_take, List.length_drop, List.length_cons, List.length_nil, Nat.min_eq_left hqle]; omega) (by rw [pfxCs_app, pfxCs_app]; rfl))
              case measure => simp [intOf]; omega
          · go_simp
            have hal1 : Below (wc.drew).heap.size (wc.drew) ((wc.drew).alloc (.cells #[.int .u32 x, .int .i64 n] 34)) := (Below.refl _ _).alloc (Nat.le_refl _) _
            have hb1 := hd.trans (hal1.mono hd.size)
            have ly1 := lies_new (wc.drew) x n
            try simp at ly1
            refine hK1.out _ _ (HSF.out _ hb1) (fun hS1 => ?_)
            clear hK1 K1
            try simp only [Act.put, List.setIfInBounds_toArray, List.set_cons_zero, List.set_cons_succ]
            refine ready_call (i := 0) (by kernel_rfl) (by rw [List.getElem?_toArray]; exact rfl) (by kernel_rfl) (fun K1 hK1 => ?_)
            go_simp
            have hal2 : Below ((wc.drew).alloc (.cells #[.int .u32 x, .int .i64 n] 34)).heap.size ((wc.drew).alloc (.cells #[.int .u32 x, .int .i64 n] 34)) (((wc.drew).alloc (.cells #[.int .u32 x, .int .i64 n] 34)).alloc (.cells #[] 34)) := (Below.refl _ _).alloc (Nat.le_refl _) _
            have hb2 := hb1.trans (hal2.mono hb1.size)
            have ly2 := ly1.below hal2
            have ho2 := World.ownsRow_lit (e := 34) (size := 2) ((wc.drew).alloc (.cells #[.int .u32 x, .int .i64 n] 34)) #[] 0 (hb1.size) (by decide) rfl
            try simp at ho2
            refine hK1.out _ _ (HSF.out _ hb2) (fun hS2 => ?_)
            clear hK1 K1
            try simp only [Act.put, List.setIfInBounds_toArray, List.set_cons_zero, List.set_cons_succ]
            refine ready_call (i := 4) (by kernel_rfl) (by rw [List.getElem?_toArray]; exact rfl) (by kernel_rfl) (fun K1 hK1 => ?_)
            refine wp_app_row (.tmp 45) (.tmp 48) (by rfl) wc.heap.size Try.underlying67 HI.out.1 HI.out.2.1 HI.out.2.2.1 HI.out.2.2.2 rfl (by decide) (by rfl) ho2 (by rfl) (LY1.out _ hb2) (by rw [pfxCs_len, List.length_take]; omega) pfxCs_one (by omega) (by decide) hb2.size (fun v3 w3 ho3 hg3 => ?_)
            have hb3 := hb2.grown hg3 hb2.size (fun r e => (ho2.lt r e).1)
            have ly3 := lies_grown ly2 hg3 (by simp [Value.ownBlock])
            refine hK1.out _ _ (HSF.out _ hb3) (fun hS3 => ?_)
            clear hK1 K1
            try simp only [Act.put, List.setIfInBounds_toArray, List.set_cons_zero, List.set_cons_succ]
            refine ready_call (i := 10) (by kernel_rfl) (by rw [List.getElem?_toArray]; exact rfl) (by kernel_rfl) (fun K1 hK1 => ?_)
            refine wp_app_row (.tmp 49) (.tmp 54) (by rfl) wc.heap.size Try.underlying67 HI.out.1 HI.out.2.1 HI.out.2.2.1 HI.out.2.2.2 rfl (by decide) (by rfl) ho3 (by rfl) ly3 rfl (by intro u hu; simp at hu; rcases hu with rfl | rfl <;> rfl) (by omega) (by decide) hb3.size (fun v4 w4 ho4 hg4 => ?_)
            have hb4 := hb3.grown hg4 hb3.size (fun r e => (ho3.lt r e).1)
            refine hK1.out _ _ (HSF.out _ hb4) (fun hS4 => ?_)
            clear hK1 K1
            try simp only [Act.put, List.setIfInBounds_toArray, List.set_cons_zero, List.set_cons_succ]
            refine ready_call (i := 14) (by kernel_rfl) (by rw [List.getElem?_toArray]; exact rfl) (by kernel_rfl) (fun K1 hK1 => ?_)
            refine wp_app_row (.tmp 55) (.tmp 58) (by rfl) wc.heap.size Try.underlying67 HI.out.1 HI.out.2.1 HI.out.2.2.1 HI.out.2.2.2 rfl (by decide) (by rfl) ho4 (by rfl) (LY2.out _ hb4) (by rw [pfxCs_len, List.length_drop]) pfxCs_one (by omega) (by decide) hb4.size (fun v5 w5 ho5 hg5 => ?_)
            have hb5 := hb4.grown hg5 hb4.size (fun r e => (ho4.lt r e).1)
            refine hK1.out _ _ (HSF.out _ hb5) (fun hS5 => ?_)
            clear hK1 K1
            try simp only [Act.put, List.setIfInBounds_toArray, List.set_cons_zero, List.set_cons_succ]
            refine ready_call (i := 15) (by kernel_rfl) (by rw [List.getElem?_toArray]; exact rfl) (by kernel_rfl) (fun K1 hK1 => ?_)
            go_simp
            refine hK1.out _ _ (HSF.out _ hb5) (fun hSz => ?_)
            clear hK1 K1
            try simp only [Act.put, List.setIfInBounds_toArray, List.set_cons_zero, List.set_cons_succ]
            refine wpAnyH_done (by kernel_rfl) ?_ _
            refine NoPanic.normal ?_
            go_wp2_with fail
            go_roundw
            case rel =>
              refine ⟨k + 1, by omega, by go_num, ?_, Lib.hid (HW.out.trans ((HX.out.trans (hb5.mono HX.out.size)).mono HW.out.size))⟩
              rw [HNX.out]
              exact Lib.hid (own_fit ho5 hal0 (by simp only [List.length_append, List.length_take, List.length_drop, List.length_cons, List.length_nil, Nat.min_eq_left hqle]; omega) (by rw [pfxCs_app, pfxCs_app]; rfl))
            case measure => simp [intOf]; omega
    · obtain rfl : k = l.length := by omega
      go_wp2_with fail
      go_ret
      rw [← show sortP (l.take l.length) = sortP l by rw [List.take_length]]
      exact ⟨_, rfl, HO.out, HW.out⟩
end Go.Proofs.Ytghkacciihocdaa

namespace Go.Proofs.Ytghkacciihocdaa
open Go Go.RowKit Go.Sort
attribute [local go_sem] Oper.semAt_some
attribute [local irreducible] wpQuiet

/-- A prefix and what it stands for. -/
abbrev Row6 := (Int × Int) × Int
def rowCs (l : List Row6) : List Value := l.flatMap (fun r => [.int .u32 r.1.1, .int .i64 r.1.2, .int .i64 r.2])
theorem rowCs_app (a b : List Row6) : rowCs (a ++ b) = rowCs a ++ rowCs b := by simp [rowCs]
theorem rowCs_len (l : List Row6) : (rowCs l).length = l.length * 3 := by
  induction l with
  | nil => rfl
  | cons a l ih => simp only [rowCs, List.flatMap_cons, List.length_append, List.length_cons, List.length_nil] at ih ⊢; omega
theorem rowCs_one {l : List Row6} : ∀ u ∈ rowCs l, u.oneCell' = true := fun u hu => by
  simp only [rowCs, List.mem_flatMap, List.mem_cons, List.not_mem_nil, or_false] at hu
  obtain ⟨p, _, rfl | rfl | rfl⟩ := hu <;> rfl
theorem rowCs_take (l : List Row6) (k : Nat) (h : k ≤ l.length) : rowCs (l.take k) = (rowCs l).take (k * 3) := by
  have e := rowCs_app (l.take k) (l.drop k)
  rw [List.take_append_drop] at e
  rw [e, List.take_left' (by rw [rowCs_len, List.length_take]; omega)]
theorem rowCs_drop (l : List Row6) (k : Nat) (h : k ≤ l.length) : rowCs (l.drop k) = (rowCs l).drop (k * 3) := by
  have e := rowCs_app (l.take k) (l.drop k)
  rw [List.take_append_drop] at e
  rw [e, List.drop_left' (by rw [rowCs_len, List.length_take]; omega)]
theorem rowCs_at (l : List Row6) (i : Nat) (h : i < l.length) : (rowCs l)[i * 3]? = some (.int .u32 (l[i]'h).1.1) ∧ (rowCs l)[i * 3 + 1]? = some (.int .i64 (l[i]'h).1.2) ∧ (rowCs l)[i * 3 + 2]? = some (.int .i64 (l[i]'h).2) := by
  have hs : l = l.take i ++ (l[i]'h :: l.drop (i + 1)) := by rw [← List.drop_eq_getElem_cons h, List.take_append_drop]
  have e1 : rowCs l = rowCs (l.take i) ++ ([.int .u32 (l[i]'h).1.1, .int .i64 (l[i]'h).1.2, .int .i64 (l[i]'h).2] ++ rowCs (l.drop (i + 1))) := by
    conv => lhs; rw [hs, rowCs_app]
    rfl
  have e2 : (rowCs (l.take i)).length = i * 3 := by rw [rowCs_len, List.length_take]; omega
  refine ⟨?_, ?_, ?_⟩
  · rw [e1, List.getElem?_append_right (by omega), e2, Nat.sub_self]; rfl
  · rw [e1, List.getElem?_append_right (by omega), e2, Nat.add_sub_cancel_left]; rfl
  · rw [e1, List.getElem?_append_right (by omega), e2, Nat.add_sub_cancel_left]; rfl
/-- The cells of a row. -/
theorem lies_row {w : World} {A : Option Addr} {l : List Row6} (h : LiesS w A (rowCs l)) (j : Nat) (hj : j < l.length) : ∃ b o, A = some ⟨b, o, none⟩ ∧ b < w.heap.size ∧
    w.cell? ⟨b, o + j * 3, none⟩ = some (.int .u32 (l[j]'hj).1.1) ∧ w.cell? ⟨b, o + j * 3 + 1, none⟩ = some (.int .i64 (l[j]'hj).1.2) ∧ w.cell? ⟨b, o + j * 3 + 2, none⟩ = some (.int .i64 (l[j]'hj).2) := by
  have hl := rowCs_len l
  obtain ⟨b, o, e, hlt, hc⟩ := h (by omega)
  have ha := rowCs_at l j hj
  refine ⟨b, o, e, hlt, ?_, ?_, ?_⟩
  · rw [hc (j * 3) (by omega)]; rw [← ha.1, List.getElem?_eq_getElem]
  · rw [Nat.add_assoc, hc (j * 3 + 1) (by omega)]; rw [← ha.2.1, List.getElem?_eq_getElem]
  · rw [Nat.add_assoc, hc (j * 3 + 2) (by omega)]; rw [← ha.2.2, List.getElem?_eq_getElem]

/-- The place of a prefix; -1: it is not there. -/
def spot6 (l : List Row6) (p : Int × Int) : Nat := (l.takeWhile (fun r => decide (r.1 ≠ p))).length
def atF (l : List Row6) (p : Int × Int) : Int := if spot6 l p < l.length then spot6 l p else -1
theorem while_of {α : Type} (f : α → Bool) {l : List α} {k : Nat} (hk : k ≤ l.length) (h : ∀ j (hj : j < l.length), j < k → f (l[j]'hj) = true) (he : ∀ (hj : k < l.length), f (l[k]'hj) = false) : (l.takeWhile f).length = k := by
  conv => lhs; rw [← List.take_append_drop k l]
  rw [List.takeWhile_append_of_pos (by
    intro x hx
    obtain ⟨j, hj, rfl⟩ := List.getElem_of_mem hx
    rw [List.getElem_take]
    exact h j _ (by simp at hj; omega))]
  have : (l.drop k).takeWhile f = [] := by
    rcases Nat.lt_or_ge k l.length with hlt | hge
    · rw [List.drop_eq_getElem_cons hlt, List.takeWhile_cons, if_neg (by rw [he hlt]; simp)]
    · rw [List.drop_of_length_le hge]; rfl
  rw [this, List.append_nil, List.length_take]
  omega
/-- A trie that is handed over, and a prefix: their boxes. -/
def Two6 (w : World) (v : Value) (x n : Int) (W : World) : Prop := Blk W w.heap.size 28 #[v] ∧ Blk W (w.heap.size + 1) 34 #[.int .u32 x, .int .i64 n] ∧ Below w.heap.size w W
theorem two6_new (w : World) (v : Value) (x n : Int) : Two6 w v x n ((w.alloc (.cells #[v] 28)).alloc (.cells #[.int .u32 x, .int .i64 n] 34)) := by
  refine ⟨(Blk.new w _ _).alloc _, ?_, two_below w _ _⟩
  have := Blk.new (w.alloc (.cells #[v] 28)) 34 #[.int .u32 x, .int .i64 n]
  simpa using this
theorem Two6.below {w W W' : World} {v : Value} {x n : Int} (h : Two6 w v x n W) (hb : Below W.heap.size W W') : Two6 w v x n W' :=
  ⟨h.1.below hb h.1.lt, h.2.1.below hb h.2.1.lt, h.2.2.trans (hb.mono h.2.2.size)⟩
theorem Two6.cells {w W : World} {v : Value} {x n : Int} (h : Two6 w v x n W) : W.cell? ⟨w.heap.size, 0, none⟩ = some v ∧ W.cell? ⟨w.heap.size + 1, 0, none⟩ = some (.int .u32 x) ∧ W.cell? ⟨w.heap.size + 1, 1, none⟩ = some (.int .i64 n) := by
  have c0 := h.1.cell 0
  have d0 := h.2.1.cell 0
  have d1 := h.2.1.cell 1
  simp only [List.getElem?_toArray, List.getElem?_cons_zero, List.getElem?_cons_succ] at c0 d0 d1
  exact ⟨c0, d0, d1⟩

set_option maxRecDepth 100000 in
set_option maxHeartbeats 1600000 in
theorem refAt_any (A : Option Addr) (c : Nat) (l : List Row6) (x n : Int) (hl : l.length ≤ 1000000) (w : World) (hA : LiesS w A (rowCs l)) :
    Calls Try.prog 13 #[.agg #[.slice A l.length c], pfx x n] w fun e w' => e = .returned (.int .i64 (atF l (x, n))) ∧ Below w.heap.size w w' := by
  have HA := Lib.hid hA
  have HT := Lib.hid (two6_new w (.slice A l.length c) x n)
  clear hA
  go_enter Try.func13, Try.ntmps13
  go_wp2_with fail
  go_loopw [5] (fun i wr => ∃ k : Nat, k ≤ l.length ∧ i = .int .i64 k ∧ Hid (∀ j (hj : j < l.length), j < k → decide ((l[j]'hj).1 ≠ (x, n)) = true) ∧ Hid (Two6 w (.slice A l.length c) x n wr)) (fun i _ => l.length - (intOf i).toNat)
  case atStart => exact ⟨0, by omega, rfl, Lib.hid (fun j _ h => by omega), HT⟩
  case round =>
    obtain ⟨k, hk, rfl, HZ, HW⟩ := hrel
    obtain ⟨c0, d0, d1⟩ := HW.out.cells
    by_cases hlt : k < l.length
    · obtain ⟨b, o, rfl, hbl, r0, r1, _⟩ := lies_row (HA.out.below HW.out.2.2) k hlt
      have k0 := cell_regrown r0
      have k1 := cell_regrown r1
      have q0 := cell_regrown c0
      have q1 := cell_regrown d0
      have q2 := cell_regrown d1
      clear r0 r1
      obtain ⟨⟨⟨y, m⟩, v⟩, hym⟩ : ∃ p, l[k]'hlt = p := ⟨_, rfl⟩
      simp only [hym] at k0 k1
      have HYM := Lib.hid hym
      clear hym
      have hlt2 : (k : Int) < (l.length : Int) := by omega
      have hc : (y = x ∧ m = n) ∨ (y = x ∧ ¬ m = n) ∨ ¬ y = x := by omega
      rcases hc with ⟨h1, h2⟩ | ⟨h1, h2⟩ | h1
      · go_wp2_with fail
        refine wp_region_quiet_below (by kernel_rfl) (by kernel_rfl) ?_
        repeat (quiet_step (fail))
        refine wpQuiet_nil ?_
        intro w2 hw2
        obtain ⟨⟨dq, osq⟩, rfl⟩ := hw2
        have HW2 := Lib.hid (HW.out.below (below_regrown wr dq osq))
        generalize grow (redrawn wr dq) osq = w2 at *
        clear k0 k1 q0 q1 q2 c0 d0 d1
        go_wp2_with fail
        go_ret
        have hsp : spot6 l (x, n) = k := while_of _ hk HZ.out (fun _ => by rw [HYM.out]; simp [h1, h2])
        exact ⟨by unfold atF; rw [hsp, if_pos hlt]; rfl, HW2.out.2.2⟩
      all_goals
        have HNE : Hid (decide ((l[k]'hlt).1 ≠ (x, n)) = true) := Lib.hid (by rw [HYM.out]; simp [h1]; try omega)
        go_wp2_with fail
        refine wp_region_quiet_below (by kernel_rfl) (by kernel_rfl) ?_
        repeat (quiet_step (fail))
        refine wpQuiet_nil ?_
        intro w2 hw2
        obtain ⟨⟨dq, osq⟩, rfl⟩ := hw2
        have HW2 := Lib.hid (HW.out.below (below_regrown wr dq osq))
        generalize grow (redrawn wr dq) osq = w2 at *
        clear k0 k1 q0 q1 q2 c0 d0 d1
        go_wp2_with fail
        go_roundw
        case rel =>
          exact ⟨k + 1, by omega, by go_num, Lib.hid (fun j hj h => by
            rcases Nat.lt_or_ge j k with h2 | h2
            · exact HZ.out j hj h2
            · obtain rfl : j = k := by omega
              exact HNE.out), HW2⟩
        case measure => simp [intOf]; omega
    · obtain rfl : k = l.length := by omega
      go_wp2_with fail
      go_ret
      have hsp : spot6 l (x, n) = l.length := while_of _ (Nat.le_refl _) HZ.out (fun h => absurd h (by omega))
      exact ⟨by unfold atF; rw [hsp, if_neg (by omega)]; rfl, HW.out.2.2⟩
end Go.Proofs.Ytghkacciihocdaa

namespace Go.Proofs.Ytghkacciihocdaa
open Go Go.RowKit Go.Sort
attribute [local go_sem] Oper.semAt_some
attribute [local irreducible] wpQuiet

theorem same_iff6 (l r : List Row6) (h : l.length = r.length) : l = r ↔ ∀ j (hl : j < l.length) (hr : j < r.length), l[j]'hl = r[j]'hr :=
  ⟨fun e j _ _ => by subst e; rfl, fun e => List.ext_getElem h (fun j h1 h2 => e j h1 h2)⟩

set_option maxRecDepth 100000 in
set_option maxHeartbeats 3200000 in
theorem refSame6_any (A B : Option Addr) (ca cb : Nat) (l r : List Row6) (hl : l.length ≤ 1000000) (hr : r.length ≤ 1000000) (w : World) (hA : LiesS w A (rowCs l)) (hB : LiesS w B (rowCs r)) :
    Calls Try.prog 32 #[.slice A l.length ca, .slice B r.length cb] w fun e w' => e = .returned (.bool (decide (l = r))) ∧ Below w.heap.size w w' := by
  have HA := Lib.hid hA
  have HB := Lib.hid hB
  clear hA hB
  by_cases hlen : l.length = r.length
  · have hs := same_iff6 l r hlen
    have HS := Lib.hid hs
    have HL := Lib.hid hlen
    rw [hlen]
    clear hs hlen
    go_enter Try.func32, Try.ntmps32
    go_wp2_with fail
    go_loopw [5] (fun i wr => ∃ k : Nat, k ≤ r.length ∧ i = .int .i64 k ∧ Hid (∀ j (hl : j < l.length) (hr : j < r.length), j < k → l[j]'hl = r[j]'hr) ∧ Hid (Below w.heap.size w wr)) (fun i _ => r.length - (intOf i).toNat)
    case atStart => exact ⟨0, by omega, rfl, Lib.hid (fun j _ _ h => by omega), Lib.hid (Below.refl _ _)⟩
    case round =>
      obtain ⟨k, hk, rfl, HZ, HW⟩ := hrel
      by_cases hlt : k < r.length
      · have hlk : k < l.length := by have := HL.out; omega
        obtain ⟨b, o, rfl, hbl, r0, r1, r2⟩ := lies_row (HA.out.below HW.out) k hlk
        obtain ⟨b2, o2, rfl, hbl2, s0, s1, s2⟩ := lies_row (HB.out.below HW.out) k hlt
        have k0 := cell_regrown r0
        have k1 := cell_regrown r1
        have k2 := cell_regrown r2
        have l0 := cell_regrown s0
        have l1 := cell_regrown s1
        have l2 := cell_regrown s2
        clear r0 r1 r2 s0 s1 s2
        have HZ2 : Hid (l[k]'hlk = r[k]'hlt → ∀ j (hl : j < l.length) (hr : j < r.length), j < k + 1 → l[j]'hl = r[j]'hr) := Lib.hid (fun e j hl hr hj => by
          rcases Nat.lt_or_ge j k with h | h
          · exact HZ.out j hl hr h
          · obtain rfl : j = k := by omega
            exact e)
        have HD : Hid (¬ l[k]'hlk = r[k]'hlt → decide (l = r) = false) := Lib.hid (fun hne => decide_eq_false (fun e => hne (HS.out.1 e k hlk hlt)))
        have hlt2 : (k : Int) < (r.length : Int) := by omega
        generalize (l[k]'hlk) = p at *
        generalize (r[k]'hlt) = q at *
        obtain ⟨⟨x, n⟩, v⟩ := p
        obtain ⟨⟨y, m⟩, u⟩ := q
        dsimp only at k0 k1 k2 l0 l1 l2
        have hc : (x = y ∧ n = m ∧ v = u) ∨ (x = y ∧ n = m ∧ ¬ v = u) ∨ (x = y ∧ ¬ n = m) ∨ ¬ x = y := by omega
        rcases hc with ⟨h1, h2, h3⟩ | ⟨h1, h2, h3⟩ | ⟨h1, h2⟩ | h1
        · subst h1; subst h2; subst h3
          have HZ3 := Lib.hid (HZ2.out rfl)
          clear HZ2 HD
          go_wp2_with fail
          refine wp_region_quiet_below (by kernel_rfl) (by kernel_rfl) ?_
          repeat (quiet_step (fail))
          refine wpQuiet_nil ?_
          intro w2 hw2
          obtain ⟨⟨dq, osq⟩, rfl⟩ := hw2
          have HW2 := Lib.hid (HW.out.trans ((below_regrown wr dq osq).mono HW.out.size))
          generalize grow (redrawn wr dq) osq = w2 at *
          clear k0 k1 k2 l0 l1 l2
          go_wp2_with fail
          go_roundw
          case rel => exact ⟨k + 1, by omega, by go_num, HZ3, HW2⟩
          case measure => simp [intOf]; omega
        all_goals
          have HD2 := Lib.hid (HD.out (by intro e; injection e with e1 e3; injection e1 with e1 e2; omega))
          clear HZ2 HD
          go_wp2_with fail
          refine wp_region_quiet_below (by kernel_rfl) (by kernel_rfl) ?_
          repeat (quiet_step (fail))
          refine wpQuiet_nil ?_
          intro w2 hw2
          obtain ⟨⟨dq, osq⟩, rfl⟩ := hw2
          have HW2 := Lib.hid (HW.out.trans ((below_regrown wr dq osq).mono HW.out.size))
          generalize grow (redrawn wr dq) osq = w2 at *
          clear k0 k1 k2 l0 l1 l2
          go_wp2_with fail
          go_ret
          exact ⟨by rw [HD2.out]; rfl, HW2.out⟩
      · obtain rfl : k = r.length := by omega
        go_wp2_with fail
        go_ret
        exact ⟨by rw [decide_eq_true (HS.out.2 (fun j hl hr => HZ.out j hl hr hr))]; rfl, HW.out⟩
  · have hne : ¬ (l.length : Int) = (r.length : Int) := by omega
    have HD : Hid (decide (l = r) = false) := Lib.hid (decide_eq_false (fun e => hlen (by rw [e])))
    go_enter Try.func32, Try.ntmps32
    go_wp2_with fail
    go_ret
    exact ⟨by rw [HD.out]; rfl, Below.refl _ _⟩

/-- A slice from a place on. -/
theorem lies_cut {w : World} {A : Option Addr} {xs : List Value} {n size cap q : Nat} (hl : LiesS w A xs) (hn : xs.length = n * size) (hs : 0 < size) (hq : q ≤ n) (hc : n ≤ cap) : LiesS w (if cap = q then A else Option.map (fun x => x.add (q * size)) A) (xs.drop (q * size)) := by
  by_cases hz : q = n
  · rw [List.drop_of_length_le (by rw [hn, hz]; exact Nat.le_refl _)]; exact LiesS.nil _ _
  · rw [if_neg (by omega)]
    obtain ⟨b, o, rfl, _, _⟩ := hl (by rw [hn]; exact Nat.mul_pos (by omega) hs)
    have := hl.drop (q * size)
    rw [show (some (⟨b, o, none⟩ : Addr)).map (fun x => x.add (q * size)) = some ⟨b, o + q * size, none⟩ by rw [Option.map_some, Addr.add_lit]]
    exact this
/-- How many rows stand ahead of a prefix. -/
def ahead6 (l : List Row6) (p : Int × Int) : Nat := (l.takeWhile (fun r => decide (ordF r.1.1 r.1.2 p.1 p.2 < 0))).length
theorem ahead6_le (l : List Row6) (p : Int × Int) : ahead6 l p ≤ l.length := List.Sublist.length_le (List.takeWhile_sublist _)

set_option maxRecDepth 100000 in
set_option maxHeartbeats 1600000 in
theorem refFrom_any (A : Option Addr) (c : Nat) (l : List Row6) (x n : Int) (hl : l.length ≤ 1000000) (hcl : l.length ≤ c) (w : World) (hA : LiesS w A (rowCs l)) :
    Calls Try.prog 24 #[.agg #[.slice A l.length c], pfx x n] w fun e w' => (∃ A' m c', e = .returned (.slice A' m c') ∧ m = (l.drop (ahead6 l (x, n))).length ∧ LiesS w A' (rowCs (l.drop (ahead6 l (x, n))))) ∧ Below w.heap.size w w' := by
  have HA := Lib.hid hA
  have HT := Lib.hid (two6_new w (.slice A l.length c) x n)
  clear hA
  go_enter Try.func24, Try.ntmps24
  go_wp2_with fail
  go_loopw [5] (fun i wr => ∃ k : Nat, k ≤ l.length ∧ i = .int .i64 k ∧ Hid (∀ j (hj : j < l.length), j < k → decide (ordF (l[j]'hj).1.1 (l[j]'hj).1.2 x n < 0) = true) ∧ Hid (Two6 w (.slice A l.length c) x n wr)) (fun i _ => l.length - (intOf i).toNat)
  case atStart => exact ⟨0, by omega, rfl, Lib.hid (fun j _ h => by omega), HT⟩
  case round =>
    obtain ⟨k, hk, rfl, HZ, HW⟩ := hrel
    obtain ⟨c0, d0, d1⟩ := HW.out.cells
    have q0 := cell_regrown c0
    have q1 := cell_regrown d0
    have q2 := cell_regrown d1
    clear c0 d0 d1
    by_cases hlt : k < l.length
    · obtain ⟨b, o, hAe, hbl, r0, r1, _⟩ := lies_row (HA.out.below HW.out.2.2) k hlt
      subst hAe
      have k0 := cell_regrown r0
      have k1 := cell_regrown r1
      clear r0 r1
      obtain ⟨⟨⟨y, m⟩, v⟩, hym⟩ : ∃ p, l[k]'hlt = p := ⟨_, rfl⟩
      simp only [hym] at k0 k1
      have HYM := Lib.hid hym
      clear hym
      have hlt2 : (k : Int) < (l.length : Int) := by omega
      have bO := ord_quiet y m x n wr
      by_cases hle : ordF y m x n < 0
      · go_wp2_with fail
        refine wp_region_quiet_below (by kernel_rfl) (by kernel_rfl) ?_
        repeat (quiet_step (first | (with_reducible exact bO _ _)))
        refine wpQuiet_nil ?_
        intro w2 hw2
        obtain ⟨⟨dq, osq⟩, rfl⟩ := hw2
        have HW2 := Lib.hid (HW.out.below (below_regrown wr dq osq))
        generalize grow (redrawn wr dq) osq = w2 at *
        clear k0 k1 q0 q1 q2 bO
        go_wp2_with fail
        go_roundw
        case rel =>
          exact ⟨k + 1, by omega, by go_num, Lib.hid (fun j hj h => by
            rcases Nat.lt_or_ge j k with h2 | h2
            · exact HZ.out j hj h2
            · obtain rfl : j = k := by omega
              rw [HYM.out]; exact decide_eq_true hle), HW2⟩
        case measure => simp [intOf]; omega
      · have hsp : ahead6 l (x, n) = k := while_of _ hk HZ.out (fun _ => by rw [HYM.out]; exact decide_eq_false (show ¬ ordF y m x n < 0 by omega))
        have HE : Hid (LiesS w (some ⟨b, o + k * 3, none⟩) (rowCs (l.drop k))) := Lib.hid (by rw [rowCs_drop _ _ hk]; exact HA.out.drop _)
        have HSP := Lib.hid hsp
        clear hsp
        have hck : ¬ c = k := by omega
        go_wp2_with fail
        refine wp_region_quiet_below (by kernel_rfl) (by kernel_rfl) ?_
        repeat (quiet_step (first | (with_reducible exact bO _ _)))
        refine wpQuiet_nil ?_
        intro w2 hw2
        obtain ⟨⟨dq, osq⟩, rfl⟩ := hw2
        have HW2 := Lib.hid (HW.out.below (below_regrown wr dq osq))
        generalize grow (redrawn wr dq) osq = w2 at *
        clear k0 k1 q0 q1 q2 bO
        obtain ⟨c0, d0, d1⟩ := HW2.out.cells
        go_wp2_with fail
        go_ret
        refine ⟨⟨_, _, _, rfl, by rw [HSP.out, List.length_drop], by rw [HSP.out]; exact HE.out⟩, HW2.out.2.2⟩
    · obtain rfl : k = l.length := by omega
      have hsp : ahead6 l (x, n) = l.length := while_of _ (Nat.le_refl _) HZ.out (fun h => absurd h (by omega))
      have HSP := Lib.hid hsp
      clear hsp
      go_wp2_with fail
      refine wp_region_quiet_below (by kernel_rfl) (by kernel_rfl) ?_
      repeat (quiet_step (fail))
      refine wpQuiet_nil ?_
      intro w2 hw2
      obtain ⟨⟨dq, osq⟩, rfl⟩ := hw2
      have HW2 := Lib.hid (HW.out.below (below_regrown wr dq osq))
      generalize grow (redrawn wr dq) osq = w2 at *
      clear q0 q1 q2
      obtain ⟨c0, d0, d1⟩ := HW2.out.cells
      go_wp2_with fail
      all_goals
        go_ret
        refine ⟨⟨_, _, ⟨_, rfl⟩, by rw [HSP.out]; omega, by rw [HSP.out, List.drop_length]; exact LiesS.nil _ _⟩, HW2.out.2.2⟩
end Go.Proofs.Ytghkacciihocdaa

namespace Go.Proofs.Ytghkacciihocdaa
open Go Go.RowKit Go.Sort
attribute [local go_sem] Oper.semAt_some
attribute [local irreducible] wpQuiet

theorem stand_quiet (x n y m : Int) (x0 : 0 ≤ x) (x1 : x < 4294967296) (y0 : 0 ≤ y) (y1 : y < 4294967296) (W : World) : ∀ d os, Calls Try.prog 64 #[pfx x n, pfx y m] (grow (redrawn W d) os) fun e w'' => e = .returned (.int .i64 (standF x n y m)) ∧ ∃ p : Regrown, w'' = grow (redrawn W p.d) p.os := fun _ _ =>
  Calls.regrown_of (refStands_any x n y m x0 x1 y0 y1 _)
/-- Prefixes whose addresses are such. -/
def Fair (l : List (Int × Int)) : Prop := ∀ j (h : j < l.length), 0 ≤ (l[j]'h).1 ∧ (l[j]'h).1 < 4294967296
def inD (p q : Int × Int) : Bool := decide (standF p.1 p.2 q.1 q.2 = 1 ∨ standF p.1 p.2 q.1 q.2 = 2)
/-- In how many a prefix stands, itself among them. -/
def cntD (l : List (Int × Int)) (p : Int × Int) : Nat := l.countP (inD p)
def mostD (l : List (Int × Int)) (k : Nat) : Nat := ((l.take k).map (cntD l)).foldl max 0
def depthF (l : List (Int × Int)) : Nat := mostD l l.length
theorem mostD_next {l : List (Int × Int)} {k : Nat} (h : k < l.length) : mostD l (k + 1) = max (mostD l k) (cntD l (l[k]'h)) := by
  unfold mostD
  rw [List.take_add_one, List.getElem?_eq_getElem h, List.map_append, List.foldl_append]
  rfl
theorem cntD_le (l : List (Int × Int)) (p : Int × Int) : cntD l p ≤ l.length := List.countP_le_length
theorem mostD_le (l : List (Int × Int)) : ∀ k, k ≤ l.length → mostD l k ≤ l.length
  | 0, _ => by simp [mostD]
  | k + 1, h => by
    rw [mostD_next (by omega)]
    have h1 := mostD_le l k (by omega)
    have h2 := cntD_le l (l[k]'(by omega))
    omega
theorem standF_vals (x n y m : Int) : standF x n y m = 1 ∨ standF x n y m = 2 ∨ standF x n y m = 3 ∨ standF x n y m = 4 := by
  unfold standF
  split
  · exact .inl rfl
  · split
    · exact .inr (.inl rfl)
    · split
      · exact .inr (.inr (.inl rfl))
      · exact .inr (.inr (.inr rfl))

set_option maxRecDepth 100000 in
set_option maxHeartbeats 3200000 in
theorem refDepth_any (A : Option Addr) (c : Nat) (l : List (Int × Int)) (hl : l.length ≤ 1000000) (hf : Fair l) (w : World) (hA : Pfxs w A l) :
    Calls Try.prog 38 #[.slice A l.length c] w fun e w' => e = .returned (.int .i64 (depthF l)) ∧ Below w.heap.size w w' := by
  have HA := Lib.hid hA
  have HF := Lib.hid hf
  clear hA hf
  go_enter Try.func38, Try.ntmps38
  go_wp2_with fail
  go_loopw [3, 4] (fun v3 v4 wr => ∃ k : Nat, k ≤ l.length ∧ v3 = .int .i64 (mostD l k) ∧ v4 = .int .i64 k ∧ Hid (Below w.heap.size w wr)) (fun _ i _ => l.length - (intOf i).toNat)
  case atStart => exact ⟨0, by omega, rfl, rfl, Lib.hid (Below.refl _ _)⟩
  case round =>
    obtain ⟨k, hk, rfl, rfl, HW⟩ := hrel
    by_cases hlt : k < l.length
    · have hlt2 : (k : Int) < (l.length : Int) := by omega
      have hML := mostD_le l k hk
      have HN := Lib.hid (mostD_next hlt)
      have HCL := Lib.hid (cntD_le l (l[k]'hlt))
      obtain ⟨hx0, hx1⟩ := HF.out k hlt
      obtain ⟨⟨x, n⟩, hxn⟩ : ∃ p, l[k]'hlt = p := ⟨_, rfl⟩
      rw [hxn] at hx0 hx1
      dsimp only at hx0 hx1
      have HXN := Lib.hid hxn
      have HX0 := Lib.hid hx0
      have HX1 := Lib.hid hx1
      clear hxn hx0 hx1
      obtain ⟨w0, hw0⟩ : ∃ w0, w0 = wr := ⟨_, rfl⟩
      subst hw0
      go_upto_block 2 with fail
      go_cut [5] from 8 to 39 (fun v5 wx => v5 = .int .i64 (cntD l (x, n)) ∧ Hid (Below w0.heap.size w0 wx))
      case first =>
        go_wp2_with fail
        go_loopw [5, 6] (fun v5 v6 wx => ∃ q : Nat, q ≤ l.length ∧ v5 = .int .i64 ((l.take q).countP (inD (x, n)) : Nat) ∧ v6 = .int .i64 q ∧ Hid (Below w0.heap.size w0 wx)) (fun _ i _ => l.length - (intOf i).toNat)
        case atStart => exact ⟨0, by omega, rfl, rfl, Lib.hid (Below.refl _ _)⟩
        case round =>
          obtain ⟨q, hq, rfl, rfl, HX⟩ := hrel
          by_cases hlq : q < l.length
          · obtain ⟨b, o, rfl, hbl, hcA⟩ := HA.out.below (HW.out.trans (HX.out.mono HW.out.size)) (by omega)
            have k0 := cell_regrown (hcA k hlt).1
            have k1 := cell_regrown (hcA k hlt).2
            have l0 := cell_regrown (hcA q hlq).1
            have l1 := cell_regrown (hcA q hlq).2
            obtain ⟨hy0, hy1⟩ := HF.out q hlq
            have hNQ : (l.take (q + 1)).countP (inD (x, n)) = (l.take q).countP (inD (x, n)) + (if inD (x, n) (l[q]'hlq) then 1 else 0) := by
              rw [List.take_add_one, List.getElem?_eq_getElem hlq, List.countP_append]
              simp [List.countP_cons]
            simp only [HXN.out] at k0 k1
            clear hcA
            generalize (l[q]'hlq) = p at *
            obtain ⟨y, m⟩ := p
            dsimp only at l0 l1 hy0 hy1
            have bS := stand_quiet x n y m HX0.out HX1.out hy0 hy1 wr
            have hlq2 : (q : Int) < (l.length : Int) := by omega
            have hct : (l.take q).countP (inD (x, n)) ≤ q := by
              have := List.countP_le_length (p := inD (x, n)) (l := l.take q)
              simp at this; omega
            have hv := standF_vals x n y m
            have hin : inD (x, n) (y, m) = decide (standF x n y m = 1 ∨ standF x n y m = 2) := rfl
            generalize standF x n y m = s at *
            rw [hin] at hNQ
            clear hin
            generalize (l.take q).countP (inD (x, n)) = ct at *
            have hct2 : ct ≤ 1000000 := by omega
            rcases hv with rfl | rfl | rfl | rfl
            all_goals
              simp at hNQ
              have HNQ := Lib.hid hNQ
              clear hNQ hct
              go_wp2_with fail
              refine wp_region_quiet_below (by kernel_rfl) (by kernel_rfl) ?_
              repeat (quiet_step (first | (with_reducible exact bS _ _)))
              refine wpQuiet_nil ?_
              intro w2 hw2
              obtain ⟨⟨dq, osq⟩, rfl⟩ := hw2
              have HX2 := Lib.hid (HX.out.trans ((below_regrown wr dq osq).mono HX.out.size))
              generalize grow (redrawn wr dq) osq = w2 at *
              clear k0 k1 l0 l1 bS
              go_wp2_with fail
              go_roundw
              case rel => exact ⟨q + 1, by omega, by rw [HNQ.out]; try go_num, by go_num, HX2⟩
              case measure => simp [intOf]; omega
          · obtain rfl : q = l.length := by omega
            go_wp2_with fail
            go_meet
            exact ⟨by rw [List.take_length]; rfl, HX⟩
      case rest =>
        obtain ⟨rfl, HX⟩ := hcut
        have hcl := HCL.out
        rw [HXN.out] at hcl
        have HN2 : Hid (mostD l (k + 1) = max (mostD l k) (cntD l (x, n))) := Lib.hid (by rw [HN.out, HXN.out])
        generalize cntD l (x, n) = ct at *
        generalize mostD l k = mo at *
        go_wp2_with fail
        go_roundw
        case rel => exact ⟨k + 1, by omega, by rw [HN2.out]; congr 1; split <;> omega, by go_num, Lib.hid (HW.out.trans (HX.out.mono HW.out.size))⟩
        case measure => simp [intOf]; omega
    · obtain rfl : k = l.length := by omega
      go_wp2_with fail
      go_ret
      exact ⟨rfl, HW.out⟩
end Go.Proofs.Ytghkacciihocdaa

namespace Go.Proofs.Ytghkacciihocdaa
open Go Go.RowKit Go.Sort
attribute [local go_sem] Oper.semAt_some
attribute [local irreducible] wpQuiet

/-- What two prefixes have in common. -/
def comN (p q : Int × Int) : Nat := ((List.range (min p.2.toNat q.2.toNat)).takeWhile (fun i => decide (bitN p.1 i = bitN q.1 i))).length
def com6 (p q : Int × Int) : Int × Int := (cutTo p.1 (comN p q), comN p q)
theorem refCom6_any (p q : Int × Int) (x0 : 0 ≤ p.1) (x1 : p.1 < 4294967296) (y0 : 0 ≤ q.1) (y1 : q.1 < 4294967296) (hn0 : 0 ≤ p.2) (hn : p.2 ≤ 32) (hm0 : 0 ≤ q.2) (hm : q.2 ≤ 32) (w : World) :
    Calls Try.prog 62 #[pfx p.1 p.2, pfx q.1 q.2] w fun e w' => e = .returned (pfx (com6 p q).1 (com6 p q).2) ∧ Below w.heap.size w w' := by
  refine (refCommon_any p.1 p.2 q.1 q.2 x0 x1 y0 y1 hn0 hn hm0 hm w).mono ?_
  rintro e w' ⟨⟨k, h1, h2, h3, h4, rfl⟩, hb⟩
  have hk : comN p q = k := while_of _ (by simp; omega) (fun j hj h => by simp only [List.getElem_range]; exact decide_eq_true (h3 j h)) (fun hj => by
    simp at hj
    simp only [List.getElem_range]
    exact decide_eq_false (h4 (by omega) (by omega)))
  exact ⟨by unfold com6; rw [hk], hb⟩
/-- Rows whose prefixes are such. -/
def Fair6 (l : List Row6) : Prop := ∀ j (h : j < l.length), 0 ≤ (l[j]'h).1.1 ∧ (l[j]'h).1.1 < 4294967296 ∧ 0 ≤ (l[j]'h).1.2 ∧ (l[j]'h).1.2 ≤ 32
def pAt (l : List Row6) (i : Nat) : Int × Int := ((l[i]?).getD ((0, 0), 0)).1
def lineA (l : List Row6) (i k : Nat) : List (Int × Int) := (List.range k).map (fun j => com6 (pAt l i) (pAt l j))
def preA6 (l : List Row6) (i : Nat) : List (Int × Int) := (List.range i).flatMap (fun j => lineA l j (j + 1))
def nowA (l : List Row6) (i k : Nat) : List (Int × Int) := preA6 l i ++ lineA l i k
/-- The nodes of rows. -/
def allF (l : List Row6) : List (Int × Int) := sortP (preA6 l l.length)
theorem pAt_is {l : List Row6} {i : Nat} (h : i < l.length) : pAt l i = (l[i]'h).1 := by
  unfold pAt; rw [List.getElem?_eq_getElem h]; rfl
theorem lineA_next (l : List Row6) (i k : Nat) : nowA l i (k + 1) = nowA l i k ++ [com6 (pAt l i) (pAt l k)] := by
  unfold nowA lineA
  rw [List.range_succ, List.map_append, List.append_assoc]
  rfl
theorem nowA_end (l : List Row6) (i : Nat) : nowA l i (i + 1) = nowA l (i + 1) 0 := by
  unfold nowA preA6
  rw [List.range_succ, List.flatMap_append]
  simp [lineA]
theorem nowA_zero (l : List Row6) (i : Nat) : nowA l i 0 = preA6 l i := by simp [nowA, lineA]
theorem preA6_len (l : List Row6) : ∀ i, i ≤ 600 → (preA6 l i).length ≤ i * 600
  | 0, _ => by simp [preA6]
  | i + 1, h => by
    have e : preA6 l (i + 1) = preA6 l i ++ lineA l i (i + 1) := by rw [← nowA_zero, ← nowA_end]; rfl
    have h1 := preA6_len l i (by omega)
    rw [e, List.length_append]
    have : (lineA l i (i + 1)).length = i + 1 := by simp [lineA]
    omega
theorem nowA_len (l : List Row6) (i k : Nat) (hi : i < 600) (hk : k ≤ i + 1) : (nowA l i k).length ≤ 360000 := by
  have h1 := preA6_len l i (by omega)
  have h2 : (lineA l i k).length = k := by simp [lineA]
  unfold nowA
  rw [List.length_append, h2]
  have : i * 600 ≤ 599 * 600 := Nat.mul_le_mul_right _ (by omega)
  omega

/-- A trie that is handed over: its box. -/
def One6 (w : World) (v : Value) (W : World) : Prop := Blk W w.heap.size 28 #[v] ∧ Below w.heap.size w W
theorem one6_new (w : World) (v : Value) : One6 w v (w.alloc (.cells #[v] 28)) := ⟨Blk.new _ _ _, (Below.refl _ _).alloc (Nat.le_refl _) _⟩
theorem One6.below {w W W' : World} {v : Value} (h : One6 w v W) (hb : Below W.heap.size W W') : One6 w v W' := ⟨h.1.below hb h.1.lt, h.2.trans (hb.mono h.2.size)⟩
theorem One6.grown {w W W' : World} {v : Value} {row : Option Nat} (h : One6 w v W) (hg : W.grownBy W' row) (hr : ∀ k, row = some k → w.heap.size + 1 ≤ k) : One6 w v W' :=
  ⟨h.1.grown hg (fun e => by have := hr _ e.symm; omega), h.2.grown hg h.2.size (fun k e => by have := hr k e; omega)⟩
theorem One6.cell {w W : World} {v : Value} (h : One6 w v W) : W.cell? ⟨w.heap.size, 0, none⟩ = some v := by
  have c0 := h.1.cell 0
  simpa using c0

set_option maxRecDepth 100000 in
set_option maxHeartbeats 3200000 in
theorem refAll6_any (A : Option Addr) (c : Nat) (l : List Row6) (hl : l.length < 600) (hf : Fair6 l) (w : World) (hA : LiesS w A (rowCs l)) :
    Calls Try.prog 37 #[.agg #[.slice A l.length c]] w fun e w' => ∃ v, e = .returned v ∧ w'.ownsRow w.heap.size 34 2 v (allF l).length (pfxCs (allF l)) ∧ Below w.heap.size w w' := by
  obtain ⟨i0, hi, hz0, hz1, hz2⟩ := info_parts infoPfx
  have HI := Lib.hid (And.intro hi (And.intro hz0 (And.intro hz1 hz2)))
  have HA := Lib.hid hA
  have HF := Lib.hid hf
  have HT := Lib.hid (one6_new w (.slice A l.length c))
  clear hA hf hi hz0 hz1 hz2
  go_enter Try.func37, Try.ntmps37
  go_wp2_with fail
  go_loopw [3, 4] (fun v i wr => ∃ k : Nat, k ≤ l.length ∧ i = .int .i64 k ∧ Hid (wr.ownsRow (w.heap.size + 1) 34 2 v (nowA l k 0).length (pfxCs (nowA l k 0))) ∧ Hid (One6 w (.slice A l.length c) wr)) (fun _ i _ => l.length - (intOf i).toNat)
  case atStart => exact ⟨0, by omega, rfl, Lib.hid (World.ownsRow_nil _ _ _ _), HT⟩
  case round =>
    obtain ⟨k, hk, rfl, HO, HW⟩ := hrel
    have c0 := HW.out.cell
    by_cases hlt : k < l.length
    · have hlt2 : (k : Int) < (l.length : Int) := by omega
      go_wp2_with fail
      clear c0
      go_loopw [3, 5] (fun v j wr => ∃ q : Nat, q ≤ k + 1 ∧ j = .int .i64 q ∧ Hid (wr.ownsRow (w.heap.size + 1) 34 2 v (nowA l k q).length (pfxCs (nowA l k q))) ∧ Hid (One6 w (.slice A l.length c) wr)) (fun _ j _ => k + 1 - (intOf j).toNat)
      case atStart => exact ⟨0, by omega, rfl, HO, HW⟩
      case round =>
        clear HO HW
        obtain ⟨q, hq, rfl, HO, HW⟩ := hrel
        by_cases hlq : q < k + 1
        · have hqk : (q : Int) ≤ (k : Int) := by omega
          have hql : q < l.length := by omega
          have hql2 : (q : Int) < (l.length : Int) := by omega
          have HLN := Lib.hid (nowA_len l k q (by omega) (by omega))
          have HNX := Lib.hid (lineA_next l k q)
          obtain ⟨f0, f1, f2, f3⟩ := HF.out k hlt
          obtain ⟨g0, g1, g2, g3⟩ := HF.out q hql
          rw [pAt_is hlt, pAt_is hql] at HNX
          obtain ⟨b, o, rfl, hbl, r0, r1, _⟩ := lies_row HA.out k hlt
          obtain ⟨b2, o2, he, _, s0, s1, _⟩ := lies_row HA.out q hql
          obtain ⟨rfl, rfl⟩ : b = b2 ∧ o = o2 := by injection he with e; injection e with e1 e2; exact ⟨e1, e2⟩
          clear he
          obtain ⟨⟨p, v⟩, hp⟩ : ∃ p, l[k]'hlt = p := ⟨_, rfl⟩
          obtain ⟨⟨p2, v2⟩, hp2⟩ : ∃ p, l[q]'hql = p := ⟨_, rfl⟩
          simp only [hp, hp2] at f0 f1 f2 f3 g0 g1 g2 g3 HNX r0 r1 s0 s1
          have HR := Lib.hid (And.intro r0 (And.intro r1 (And.intro s0 s1)))
          have HCM := Lib.hid (fun W => refCom6_any p p2 f0 f1 g0 g1 f2 f3 g2 g3 W)
          clear hp hp2 f0 f1 f2 f3 g0 g1 g2 g3 r0 r1 s0 s1
          generalize com6 p p2 = cc at *
          obtain ⟨cx, cn⟩ := cc
          obtain ⟨x, n⟩ := p
          obtain ⟨y, m⟩ := p2
          dsimp only at HR HCM
          obtain ⟨Av, cv, rfl⟩ := own_slice HO.out
          have HS : Hid (∀ W, One6 w (.slice (some ⟨b, o, none⟩) l.length c) W → W.cell? ⟨w.heap.size, 0, none⟩ = some (.slice (some ⟨b, o, none⟩) l.length c) ∧ W.cell? ⟨b, o + k * 3, none⟩ = some (.int .u32 x) ∧ W.cell? ⟨b, o + k * 3 + 1, none⟩ = some (.int .i64 n) ∧ W.cell? ⟨b, o + q * 3, none⟩ = some (.int .u32 y) ∧ W.cell? ⟨b, o + q * 3 + 1, none⟩ = some (.int .i64 m)) := Lib.hid (fun W h =>
            ⟨h.cell, (h.2.cell (p := ⟨b, o + k * 3, none⟩) hbl).trans HR.out.1, (h.2.cell (p := ⟨b, o + k * 3 + 1, none⟩) hbl).trans HR.out.2.1, (h.2.cell (p := ⟨b, o + q * 3, none⟩) hbl).trans HR.out.2.2.1, (h.2.cell (p := ⟨b, o + q * 3 + 1, none⟩) hbl).trans HR.out.2.2.2⟩)
          go_upto_region 8 with fail
          have hd := below_drew wr
          have ht0 := HW.out.below hd
          have ho0 := own_past HO.out hd
          refine wp_region_noPanic ?_
          refine wp_region_held_drew (S := fun W => W.cell? ⟨w.heap.size, 0, none⟩ = some (.slice (some ⟨b, o, none⟩) l.length c) ∧ W.cell? ⟨b, o + k * 3, none⟩ = some (.int .u32 x) ∧ W.cell? ⟨b, o + k * 3 + 1, none⟩ = some (.int .i64 n) ∧ W.cell? ⟨b, o + q * 3, none⟩ = some (.int .u32 y) ∧ W.cell? ⟨b, o + q * 3 + 1, none⟩ = some (.int .i64 m)) (by kernel_rfl) (HS.out _ ht0) ?_
          intro hS0
          refine wpAnyH_take (i := 0) (v := ?v1) (by rw [List.getElem?_toArray]; exact rfl) (by kernel_rfl) (by kernel_rfl) (by kernel_rfl) (fun _ _ _ h => h) (Or.inl ⟨by rfl, ?hy1⟩) (by assumption) ?rest1
          case hy1 => intro w hSw; (try dsimp only at hSw); go_simp; (try with_reducible rfl)
          try simp only [Act.put, List.setIfInBounds_toArray, List.set_cons_zero, List.set_cons_succ]
          refine wpAnyH_take (i := 1) (v := ?v2) (by rw [List.getElem?_toArray]; exact rfl) (by kernel_rfl) (by kernel_rfl) (by kernel_rfl) (fun _ _ _ h => h) (Or.inl ⟨by rfl, ?hy2⟩) (by assumption) ?rest2
          case hy2 => intro w hSw; (try dsimp only at hSw); go_simp; (try with_reducible rfl)
          try simp only [Act.put, List.setIfInBounds_toArray, List.set_cons_zero, List.set_cons_succ]
          refine wpAnyH_take (i := 2) (v := ?v3) (by rw [List.getElem?_toArray]; exact rfl) (by kernel_rfl) (by kernel_rfl) (by kernel_rfl) (fun _ _ _ h => h) (Or.inl ⟨by rfl, ?hy3⟩) (by assumption) ?rest3
          case hy3 => intro w hSw; (try dsimp only at hSw); go_simp; (try with_reducible rfl)
          try simp only [Act.put, List.setIfInBounds_toArray, List.set_cons_zero, List.set_cons_succ]
          refine wpAnyH_take (i := 3) (v := ?v4) (by rw [List.getElem?_toArray]; exact rfl) (by kernel_rfl) (by kernel_rfl) (by kernel_rfl) (fun _ _ _ h => h) (Or.inl ⟨by rfl, ?hy4⟩) (by assumption) ?rest4
          case hy4 => intro w hSw; (try dsimp only at hSw); go_simp; (try with_reducible rfl)
          try simp only [Act.put, List.setIfInBounds_toArray, List.set_cons_zero, List.set_cons_succ]
          refine wpAnyH_take (i := 4) (v := ?v5) (by rw [List.getElem?_toArray]; exact rfl) (by kernel_rfl) (by kernel_rfl) (by kernel_rfl) (fun _ _ _ h => h) (Or.inl ⟨by rfl, ?hy5⟩) (by assumption) ?rest5
          case hy5 => intro w hSw; (try dsimp only at hSw); go_simp; (try with_reducible rfl)
          try simp only [Act.put, List.setIfInBounds_toArray, List.set_cons_zero, List.set_cons_succ]
          refine wpAnyH_take (i := 5) (v := ?v6) (by rw [List.getElem?_toArray]; exact rfl) (by kernel_rfl) (by kernel_rfl) (by kernel_rfl) (fun _ _ _ h => h) (Or.inl ⟨by rfl, ?hy6⟩) (by assumption) ?rest6
          case hy6 => intro w hSw; (try dsimp only at hSw); go_simp; (try with_reducible rfl)
          try simp only [Act.put, List.setIfInBounds_toArray, List.set_cons_zero, List.set_cons_succ]
          refine wpAnyH_take (i := 6) (v := ?v7) (by rw [List.getElem?_toArray]; exact rfl) (by kernel_rfl) (by kernel_rfl) (by kernel_rfl) (fun _ _ _ h => h) (Or.inl ⟨by rfl, ?hy7⟩) (by assumption) ?rest7
          case hy7 => intro w hSw; (try dsimp only at hSw); go_simp; (try with_reducible rfl)
          try simp only [Act.put, List.setIfInBounds_toArray, List.set_cons_zero, List.set_cons_succ]
          refine wpAnyH_take (i := 7) (v := ?v8) (by rw [List.getElem?_toArray]; exact rfl) (by kernel_rfl) (by kernel_rfl) (by kernel_rfl) (fun _ _ _ h => h) (Or.inl ⟨by rfl, ?hy8⟩) (by assumption) ?rest8
          case hy8 => intro w hSw; (try dsimp only at hSw); go_simp; (try with_reducible rfl)
          try simp only [Act.put, List.setIfInBounds_toArray, List.set_cons_zero, List.set_cons_succ]
          refine wpAnyH_take (i := 8) (v := ?v9) (by rw [List.getElem?_toArray]; exact rfl) (by kernel_rfl) (by kernel_rfl) (by kernel_rfl) (fun _ _ _ h => h) (Or.inl ⟨by rfl, ?hy9⟩) (by assumption) ?rest9
          case hy9 => intro w hSw; (try dsimp only at hSw); go_simp; (try with_reducible rfl)
          try simp only [Act.put, List.setIfInBounds_toArray, List.set_cons_zero, List.set_cons_succ]
          refine wpAnyH_take (i := 9) (v := ?v10) (by rw [List.getElem?_toArray]; exact rfl) (by kernel_rfl) (by kernel_rfl) (by kernel_rfl) (fun _ _ _ h => h) (Or.inl ⟨by rfl, ?hy10⟩) (by assumption) ?rest10
          case hy10 => intro w hSw; (try dsimp only at hSw); go_simp; (try with_reducible rfl)
          try simp only [Act.put, List.setIfInBounds_toArray, List.set_cons_zero, List.set_cons_succ]
          refine wpAnyH_take (i := 10) (v := ?v11) (by rw [List.getElem?_toArray]; exact rfl) (by kernel_rfl) (by kernel_rfl) (by kernel_rfl) (fun _ _ _ h => h) (Or.inl ⟨by rfl, ?hy11⟩) (by assumption) ?rest11
          case hy11 => intro w hSw; (try dsimp only at hSw); go_simp; (try with_reducible rfl)
          try simp only [Act.put, List.setIfInBounds_toArray, List.set_cons_zero, List.set_cons_succ]
          refine wpAnyH_take (i := 11) (v := ?v12) (by rw [List.getElem?_toArray]; exact rfl) (by kernel_rfl) (by kernel_rfl) (by kernel_rfl) (fun _ _ _ h => h) (Or.inl ⟨by rfl, ?hy12⟩) (by assumption) ?rest12
          case hy12 => intro w hSw; (try dsimp only at hSw); go_simp; (try with_reducible rfl)
          try simp only [Act.put, List.setIfInBounds_toArray, List.set_cons_zero, List.set_cons_succ]
          refine wpAnyH_take (i := 12) (v := ?v13) (by rw [List.getElem?_toArray]; exact rfl) (by kernel_rfl) (by kernel_rfl) (by kernel_rfl) (fun _ _ _ h => h) (Or.inl ⟨by rfl, ?hy13⟩) (by assumption) ?rest13
          case hy13 => intro w hSw; (try dsimp only at hSw); go_simp; (try with_reducible rfl)
          try simp only [Act.put, List.setIfInBounds_toArray, List.set_cons_zero, List.set_cons_succ]
          refine ready_call (i := 13) (by kernel_rfl) (by rw [List.getElem?_toArray]; exact rfl) (by kernel_rfl) (fun K1 hK1 => ?_)
          go_simp
          refine (HCM.out _).mono ?_
          rintro e w1 ⟨rfl, hb1⟩
          have ht1 := ht0.below hb1
          have ho1 := own_past ho0 hb1
          clear hb1
          refine hK1.out _ _ (HS.out _ ht1) (fun hS1 => ?_)
          clear hK1 K1
          try simp only [Act.put, List.setIfInBounds_toArray, List.set_cons_zero, List.set_cons_succ]
          refine ready_call (i := 14) (by kernel_rfl) (by rw [List.getElem?_toArray]; exact rfl) (by kernel_rfl) (fun K1 hK1 => ?_)
          go_simp
          have hal : Below w1.heap.size w1 (w1.alloc (.cells #[.int .u32 cx, .int .i64 cn] 34)) := (Below.refl _ _).alloc (Nat.le_refl _) _
          have ht2 := ht1.below hal
          have ho2 := own_past ho1 hal
          have ly2 := lies_new w1 cx cn
          try simp at ly2
          refine hK1.out _ _ (HS.out _ ht2) (fun hS2 => ?_)
          clear hK1 K1
          try simp only [Act.put, List.setIfInBounds_toArray, List.set_cons_zero, List.set_cons_succ]
          refine ready_call (i := 15) (by kernel_rfl) (by rw [List.getElem?_toArray]; exact rfl) (by kernel_rfl) (fun K1 hK1 => ?_)
          refine wp_app_row (.tmp 18) (.tmp 32) (by rfl) (w.heap.size + 1) Try.underlying67 HI.out.1 HI.out.2.1 HI.out.2.2.1 HI.out.2.2.2 rfl (by decide) (by rfl) ho2 (by rfl) ly2 rfl (by intro u hu; simp at hu; rcases hu with rfl | rfl <;> rfl) (by have := HLN.out; omega) (by decide) ht2.1.lt (fun v3 w3 ho3 hg3 => ?_)
          have ht3 := ht2.grown hg3 (fun r e => (ho2.lt r e).1)
          refine hK1.out _ _ (HS.out _ ht3) (fun hS3 => ?_)
          clear hK1 K1
          try simp only [Act.put, List.setIfInBounds_toArray, List.set_cons_zero, List.set_cons_succ]
          refine ready_call (i := 16) (by kernel_rfl) (by rw [List.getElem?_toArray]; exact rfl) (by kernel_rfl) (fun K1 hK1 => ?_)
          go_simp
          refine hK1.out _ _ (HS.out _ ht3) (fun hS4 => ?_)
          clear hK1 K1
          try simp only [Act.put, List.setIfInBounds_toArray, List.set_cons_zero, List.set_cons_succ]
          refine wpAnyH_done (by kernel_rfl) ?_ _
          refine NoPanic.normal ?_
          have HO3 : Hid (w3.ownsRow (w.heap.size + 1) 34 2 v3 (nowA l k (q + 1)).length (pfxCs (nowA l k (q + 1)))) := Lib.hid (own_fit ho3 (Nat.le_refl _) (by rw [HNX.out, List.length_append]; rfl) (by rw [HNX.out, pfxCs_app]; rfl))
          have HT3 := Lib.hid ht3
          clear ho3 ht3 hS0 hS1 hS2 hS3 hS4 ho0 ho1 ho2 ht0 ht1 ht2 hd hal ly2 hg3
          go_wp2_with fail
          go_roundw
          case rel => exact ⟨q + 1, by omega, by go_num, HO3, HT3⟩
          case measure => simp [intOf]; omega
        · obtain rfl : q = k + 1 := by omega
          go_wp2_with fail
          go_roundw
          case rel =>
            refine ⟨k + 1, by omega, by go_num, ?_, HW⟩
            rw [← nowA_end]
            exact HO
          case measure => simp [intOf]; omega
    · obtain rfl : k = l.length := by omega
      obtain ⟨Av, cv, rfl⟩ := own_slice HO.out
      have hly := lies_own HO.out
      rw [nowA_zero] at hly
      have hln : (preA6 l l.length).length ≤ 1000000 := by
        have h1 := preA6_len l l.length (by omega)
        have : l.length * 600 ≤ 600 * 600 := Nat.mul_le_mul_right _ (by omega)
        omega
      have HSO := Lib.hid (refSort_any Av cv (preA6 l l.length) hln wr (lies_pfxs hly))
      have e0 : (nowA l l.length 0).length = (preA6 l l.length).length := by rw [nowA_zero]
      rw [e0]
      clear hly e0
      go_wp2_with fail
      refine HSO.out.mono ?_
      rintro e w2 ⟨v, rfl, ho, hb⟩
      have HB := Lib.hid (HW.out.2.trans (hb.mono HW.out.2.size))
      have HO2 : Hid (w2.ownsRow w.heap.size 34 2 v (allF l).length (pfxCs (allF l))) := Lib.hid (own_fit ho HW.out.2.size rfl rfl)
      clear hb ho HSO
      go_wp2_with fail
      go_ret
      exact ⟨_, rfl, HO2.out, HB.out⟩
end Go.Proofs.Ytghkacciihocdaa
