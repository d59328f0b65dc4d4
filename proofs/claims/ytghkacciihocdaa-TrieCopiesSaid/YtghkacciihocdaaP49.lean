/- Merged by tools/merge.py: P37, P39, P49. -/
import Derived.Test.YtghkacciihocdaaP00
import Derived.Test.YtghkacciihocdaaI33
import Derived.Test.YtghkacciihocdaaI37
import Derived.Deep.Slices
import Derived.Test.YtghkacciihocdaaI42
import Derived.Test.YtghkacciihocdaaI49
namespace Go.Proofs.Ytghkacciihocdaa
open Go Go.RowKit Go.ChangeShapes Go.WideShapes Go.ChangeAt
namespace T6
theorem array4a {α : Type} {cs : Array α} (h : cs.size = 4) : ∃ c0 c1 c2 c3, cs = #[c0, c1, c2, c3] := by
  obtain ⟨l⟩ := cs
  match l, h with
  | [c0, c1, c2, c3], _ => exact ⟨c0, c1, c2, c3, rfl⟩
theorem cellsAct : Try.prog.cellsOf 36 = 4 := by kernel_rfl
theorem cellsPfx6 : Try.prog.cellsOf 34 = 2 := by kernel_rfl
theorem cellsI6 : Try.prog.cellsOf 3 = 1 := by kernel_rfl
theorem cellsA6 : Try.prog.cellsOf 32 = 1 := by kernel_rfl
set_option maxRecDepth 100000 in
/-- A call that came in. -/
theorem open_act {H : Type} {enc : TypeId × Value → H} {w : World} {base b0 : Nat} {sp : Nat → Bool} {held : Bool} {r : Reach} {v : Value} {d : DataW H} {p : List MemPlace}
    (hv : Value.okWide Try.prog w r b0 36 v) (h : DataW.Trod enc Try.prog w base sp held 36 v d p) :
    ∃ c x n u : Int, v = .agg #[.int .i64 c, .int .u32 x, .int .i64 n, .int .i64 u] ∧ 0 ≤ x ∧ x < 4294967296 ∧ (-9223372036854775808 ≤ n ∧ n ≤ 9223372036854775807) ∧ -9223372036854775808 ≤ u ∧ u ≤ 9223372036854775807 := by
  obtain ⟨cs, rfl, hsz⟩ := okWide_struct Try.underlying36 hv
  obtain ⟨c0, c1, c2, c3, rfl⟩ := array4a (hsz.trans cellsAct)
  obtain ⟨fuel, hf⟩ := h
  obtain ⟨xs, n, _, _, _, hlen, hfs⟩ := DataW.trod_struct Try.underlying36 hf
  match xs, hlen with
  | [y0, y1, y2], _ =>
    have h0 := hfs 0 _ rfl
    have h1 := hfs 1 _ rfl
    have h2 := hfs 2 _ rfl
    simp [Value.cells, cellsI6, cellsPfx6] at h0 h1 h2
    obtain ⟨e1, e2⟩ := y1
    obtain ⟨ys, m, _, _, _, hlen2, hgs⟩ := DataW.trod_struct Try.underlying34 h1
    match ys, hlen2 with
    | [z0, z1], _ =>
      have g0 := hgs 0 _ rfl
      have g1 := hgs 1 _ rfl
      simp [cellsI6, cellsA6] at g0 g1
      obtain ⟨f, e0, _, w0⟩ := DataW.trod_int Try.underlying3 h0
      obtain ⟨x, e1, _, w1⟩ := DataW.trod_int Try.underlying32 g0
      obtain ⟨k, e2, _, w2⟩ := DataW.trod_int Try.underlying3 g1
      obtain ⟨u, e3, _, w3⟩ := DataW.trod_int Try.underlying3 h2
      simp at e0 e1 e2 e3
      subst e0 e1 e2 e3
      have b1 := wf0_u32 w1
      have b2 := bounds_i64 w2
      have b3 := bounds_i64 w3
      exact ⟨f, x, k, u, rfl, b1.1, b1.2, b2, b3⟩
end T6

set_option maxRecDepth 100000 in
theorem trieNone_lifted (os : Os) (started : os.Started) (H : Type) (enc : TypeId × Value → H) :
    ReturnsInHanded {} Try.checked os 6 .any (Rows.trieNoneSpec.pre6 enc Try.prog Try.f6 [] false)
      (Rows.trieNoneSpec.post enc Try.prog Try.f6 false true false false) := by
  refine law_lifted0 (C := Try.checked) own0 started (by kernel_rfl) Try.func6 laidOut0 rfl (by kernel_rfl) (by kernel_rfl) Try.underlying4 (by kernel_rfl)
    (fun ds hds => by
      match ds, hds with
      | [_, _, _], _ => rfl)
    (ChangeSpec.witness6 (enc := enc) (C := Try.checked) false ⟨#[], #[.agg #[.int .i64 0, .int .u32 0, .int .i64 0, .int .i64 0], .int .u32 0, .int .i64 0], []⟩ 8 (by kernel_rfl) (by kernel_rfl) (by kernel_rfl) (by kernel_rfl)) ?_
  intro W base args ds p hval hA _ _
  rw [Try.params6] at hA hval
  obtain ⟨v0, r0, d0, _, p0, _, e0, _, _, h0, hA⟩ := trodAll_cons hA
  obtain ⟨v1, r1, d1, _, p1, _, e1, _, _, h1, hA⟩ := trodAll_cons hA
  obtain ⟨v2, r2, d2, _, p2, _, e2, _, _, h2, hA⟩ := trodAll_cons hA
  obtain ⟨e3, _, _⟩ := trodAll_nil hA
  subst e3 e2 e1
  obtain ⟨args⟩ := args
  simp only at e0
  subst e0
  obtain ⟨c, x, l, u, rfl, x0, x1, _, _⟩ := T6.open_act (hval 0 36 v0 rfl rfl) h0
  obtain ⟨a, rfl, _, _, wa⟩ := open_int Try.underlying32 (hval 1 32 v1 rfl rfl) h1
  obtain ⟨n, rfl, _, _, _⟩ := open_int Try.underlying3 (hval 2 3 v2 rfl rfl) h2
  exact T6.law06_none c x l u a n x0 x1 (wf0_u32 wa).1 (wf0_u32 wa).2 W

theorem trieNone_holds : Rows.TrieNoneSaid :=
  OpenClaim.holds_of_wide 6 Try.f6 rfl rfl rfl rfl rfl rfl rfl ⟨rfl, rfl, rfl, rfl, rfl⟩ rfl rfl rfl rfl rfl (by kernel_rfl) Try.func6 (by kernel_rfl)
    (of_decide_eq_true (by kernel_rfl)) (by unfold Func.isWrapper; first | (rw [if_pos (by decide +kernel)]; kernel_rfl) | (rw [if_neg (by decide +kernel)]; exact ⟨rfl, rfl⟩))
    (fun os started H enc _ => trieNone_lifted os started H enc)
#print axioms trieNone_holds
end Go.Proofs.Ytghkacciihocdaa

namespace Go.Proofs.Ytghkacciihocdaa
open Go Go.RowKit Go.ChangeShapes Go.WideShapes Go.ChangeAt
namespace T6
set_option maxRecDepth 100000 in
/-- Two cells that are a prefix. -/
theorem trod_pfx {H : Type} {enc : TypeId × Value → H} {w : World} {base fuel : Nat} {sp : Nat → Bool} {held : Bool} {cs : List Value} {x : DataW H × List MemPlace}
    (h : DataW.trod enc Try.prog w base sp held fuel 34 cs = some x) : ∃ p : Int × Int, (0 ≤ p.1 ∧ p.1 < 4294967296) ∧ cs = [.int .u32 p.1, .int .i64 p.2] := by
  obtain ⟨xs, n, _, _, hcl, hlen, hfs⟩ := DataW.trod_struct Try.underlying34 h
  rw [cellsPfx6] at hcl
  match cs, hcl, xs, hlen with
  | [c0, c1], _, [y0, y1], _ =>
    have h0 := hfs 0 _ rfl
    have h1 := hfs 1 _ rfl
    simp [cellsI6, cellsA6] at h0 h1
    obtain ⟨f, e0, _, w0⟩ := DataW.trod_int Try.underlying32 h0
    obtain ⟨t, e1, _, w1⟩ := DataW.trod_int Try.underlying3 h1
    simp at e0 e1
    subst e0 e1
    exact ⟨(f, t), wf0_u32 w0, rfl⟩
set_option maxRecDepth 100000 in
/-- A slice of prefixes that came in. -/
theorem open_pfxs {H : Type} {enc : TypeId × Value → H} {w : World} {base b0 : Nat} {sp : Nat → Bool} {held : Bool} {r : Reach} {v : Value} {d : DataW H} {p : List MemPlace}
    (hv : Value.okWide Try.prog w r b0 67 v) (h : DataW.Trod enc Try.prog w base sp held 67 v d p) :
    ∃ (a : Option Addr) (l : List (Int × Int)) (c : Nat), v = .slice a l.length c ∧ (∀ p ∈ l, 0 ≤ p.1 ∧ p.1 < 4294967296) ∧ LiesS w a (pfxCs l) := by
  obtain ⟨a0, len0, cap0, rfl⟩ := okWide_slice Try.underlying67 hv
  obtain ⟨fuel, hf⟩ := h
  have hf' : DataW.trod enc Try.prog w base sp held fuel 67 [.slice a0 len0 cap0] = some (d, p) := by simpa [Value.cells] using hf
  rcases Go.Deep.open_slice Try.underlying67 hf' with ⟨hcs, _⟩ | ⟨a, len, cap, m, n, D, Pl, hcs, _, hl, _, hm, _, hi⟩
  · simp at hcs
    obtain ⟨rfl, rfl, rfl⟩ := hcs
    exact ⟨none, [], 0, rfl, fun e he => by simp at he, fun h => absurd h (by simp [pfxCs])⟩
  · simp at hcs
    obtain ⟨rfl, rfl, rfl⟩ := hcs
    have hlm : len0 ≤ m := by rw [hm]; split <;> omega
    have each : ∀ i, i < len0 → ∃ q : Int × Int, (0 ≤ q.1 ∧ q.1 < 4294967296) ∧ w.cell? ((a.add (i * 2)).add 0) = some (.int .u32 q.1) ∧ w.cell? ((a.add (i * 2)).add 1) = some (.int .i64 q.2) := fun i hil => by
      obtain ⟨cs', hc, ht⟩ := hi i (by omega)
      obtain ⟨e, ho, he⟩ := trod_pfx ht
      rw [cellsPfx6] at hc
      obtain ⟨_, _, hat⟩ := World.cells?_some hc
      refine ⟨e, ho, ?_, ?_⟩
      · rw [hat 0 (by omega), he]; rfl
      · rw [hat 1 (by omega), he]; rfl
    obtain ⟨f, hf⟩ : ∃ f : Nat → Int × Int, ∀ i, i < len0 → (0 ≤ (f i).1 ∧ (f i).1 < 4294967296) ∧ w.cell? ((a.add (i * 2)).add 0) = some (.int .u32 (f i).1) ∧ w.cell? ((a.add (i * 2)).add 1) = some (.int .i64 (f i).2) := by
      refine ⟨fun i => if h : i < len0 then (each i h).choose else (0, 0), fun i h => ?_⟩
      dsimp only
      rw [dif_pos h]
      exact (each i h).choose_spec
    have hll : ((List.range len0).map f).length = len0 := by simp
    refine ⟨some a, (List.range len0).map f, cap0, by rw [hll], fun e he => ?_, pfxs_lies fun h0 => ?_⟩
    · obtain ⟨i, hi2, rfl⟩ := List.mem_map.1 he
      exact (hf i (by simpa using hi2)).1
    · rw [hll] at h0
      have c0 := (hf 0 h0).2.1
      obtain ⟨b, o, spot⟩ := a
      have hspot : spot = none := by simpa [Addr.add] using World.cell?_spot c0
      subst hspot
      rw [Addr.add_lit, Addr.add_lit] at c0
      refine ⟨b, o, rfl, World.block_lt_of_cell? _ _ c0, fun j hj => ?_⟩
      rw [hll] at hj
      have h1 := (hf j hj).2
      rw [Addr.add_lit, Addr.add_lit, Addr.add_lit] at h1
      simpa using h1
end T6

set_option maxRecDepth 100000 in
theorem trieHolds_lifted (os : Os) (started : os.Started) (H : Type) (enc : TypeId × Value → H) :
    ReturnsInHanded {} Try.checked os 8 .any (Rows.trieHoldsSpec.pre6 enc Try.prog Try.f8 [] false)
      (Rows.trieHoldsSpec.post enc Try.prog Try.f8 false true false false) := by
  refine law_lifted0 (C := Try.checked) own0 started (by kernel_rfl) Try.func8 laidOut0 rfl (by kernel_rfl) (by kernel_rfl) Try.underlying4 (by kernel_rfl)
    (fun ds hds => by
      match ds, hds with
      | [_, _, _], _ => rfl)
    (ChangeSpec.witness6 (enc := enc) (C := Try.checked) false ⟨#[], #[.slice none 0 0, .int .u32 0, .int .u32 0], []⟩ 8 (by kernel_rfl) (by kernel_rfl) (by kernel_rfl) (by kernel_rfl)) ?_
  intro W base args ds p hval hA _ _
  rw [Try.params8] at hA hval
  obtain ⟨v0, r0, d0, _, p0, _, e0, _, _, h0, hA⟩ := trodAll_cons hA
  obtain ⟨v1, r1, d1, _, p1, _, e1, _, _, h1, hA⟩ := trodAll_cons hA
  obtain ⟨v2, r2, d2, _, p2, _, e2, _, _, h2, hA⟩ := trodAll_cons hA
  obtain ⟨e3, _, _⟩ := trodAll_nil hA
  subst e3 e2 e1
  obtain ⟨args⟩ := args
  simp only at e0
  subst e0
  obtain ⟨A, l, k, rfl, hl, hLA⟩ := T6.open_pfxs (hval 0 67 v0 rfl rfl) h0
  obtain ⟨g, rfl, _, _, _⟩ := open_int Try.underlying31 (hval 1 31 v1 rfl rfl) h1
  obtain ⟨a, rfl, _, _, wa⟩ := open_int Try.underlying32 (hval 2 32 v2 rfl rfl) h2
  exact T6.law06_holds A k l g a hl (wf0_u32 wa).1 (wf0_u32 wa).2 W hLA

theorem trieHolds_holds : Rows.TrieHoldsSaid :=
  OpenClaim.holds_of_wide 8 Try.f8 rfl rfl rfl rfl rfl rfl rfl ⟨rfl, rfl, rfl, rfl, rfl⟩ rfl rfl rfl rfl rfl (by kernel_rfl) Try.func8 (by kernel_rfl)
    (of_decide_eq_true (by kernel_rfl)) (by unfold Func.isWrapper; first | (rw [if_pos (by decide +kernel)]; kernel_rfl) | (rw [if_neg (by decide +kernel)]; exact ⟨rfl, rfl⟩))
    (fun os started H enc _ => trieHolds_lifted os started H enc)
#print axioms trieHolds_holds
end Go.Proofs.Ytghkacciihocdaa

namespace Go.Proofs.Ytghkacciihocdaa
open Go Go.RowKit Go.ChangeShapes Go.WideShapes Go.ChangeAt
namespace T6
set_option maxRecDepth 100000 in
/-- Four cells that are a call. -/
theorem trod_act {H : Type} {enc : TypeId × Value → H} {w : World} {base fuel : Nat} {sp : Nat → Bool} {held : Bool} {cs : List Value} {x : DataW H × List MemPlace}
    (h : DataW.trod enc Try.prog w base sp held fuel 36 cs = some x) : ∃ p : Act6, (0 ≤ p.2.1 ∧ p.2.1 < 4294967296) ∧ cs = [.int .i64 p.1, .int .u32 p.2.1, .int .i64 p.2.2.1, .int .i64 p.2.2.2] := by
  obtain ⟨xs, n, _, _, hcl, hlen, hfs⟩ := DataW.trod_struct Try.underlying36 h
  rw [cellsAct] at hcl
  match cs, hcl, xs, hlen with
  | [c0, c1, c2, c3], _, [y0, (z0, z1), y2], _ =>
    have h0 := hfs 0 _ rfl
    have h1 := hfs 1 _ rfl
    have h2 := hfs 2 _ rfl
    simp [cellsI6, cellsPfx6] at h0 h1 h2
    obtain ⟨p, hp, hcs⟩ := trod_pfx h1
    obtain ⟨f, e0, _, w0⟩ := DataW.trod_int Try.underlying3 h0
    obtain ⟨u, e3, _, w3⟩ := DataW.trod_int Try.underlying3 h2
    simp at e0 e3 hcs
    obtain ⟨rfl, rfl⟩ := hcs
    subst e0 e3
    exact ⟨(f, p.1, p.2, u), hp, rfl⟩
set_option maxRecDepth 100000 in
/-- A slice of calls that came in. -/
theorem open_acts {H : Type} {enc : TypeId × Value → H} {w : World} {base b0 : Nat} {sp : Nat → Bool} {held : Bool} {r : Reach} {v : Value} {d : DataW H} {p : List MemPlace}
    (hv : Value.okWide Try.prog w r b0 22 v) (h : DataW.Trod enc Try.prog w base sp held 22 v d p) :
    ∃ (a : Option Addr) (l : List Act6) (c : Nat), v = .slice a l.length c ∧ (∀ p ∈ l, 0 ≤ p.2.1 ∧ p.2.1 < 4294967296) ∧ ActsS w a l := by
  obtain ⟨a0, len0, cap0, rfl⟩ := okWide_slice Try.underlying22 hv
  obtain ⟨fuel, hf⟩ := h
  have hf' : DataW.trod enc Try.prog w base sp held fuel 22 [.slice a0 len0 cap0] = some (d, p) := by simpa [Value.cells] using hf
  rcases Go.Deep.open_slice Try.underlying22 hf' with ⟨hcs, _⟩ | ⟨a, len, cap, m, n, D, Pl, hcs, _, hl, _, hm, _, hi⟩
  · simp at hcs
    obtain ⟨rfl, rfl, rfl⟩ := hcs
    exact ⟨none, [], 0, rfl, fun e he => by simp at he, fun h => absurd h (by simp)⟩
  · simp at hcs
    obtain ⟨rfl, rfl, rfl⟩ := hcs
    have hlm : len0 ≤ m := by rw [hm]; split <;> omega
    have each : ∀ i, i < len0 → ∃ q : Act6, (0 ≤ q.2.1 ∧ q.2.1 < 4294967296) ∧ w.cell? ((a.add (i * 4)).add 0) = some (.int .i64 q.1) ∧ w.cell? ((a.add (i * 4)).add 1) = some (.int .u32 q.2.1) ∧ w.cell? ((a.add (i * 4)).add 2) = some (.int .i64 q.2.2.1) ∧ w.cell? ((a.add (i * 4)).add 3) = some (.int .i64 q.2.2.2) := fun i hil => by
      obtain ⟨cs', hc, ht⟩ := hi i (by omega)
      obtain ⟨e, ho, he⟩ := trod_act ht
      rw [cellsAct] at hc
      obtain ⟨_, _, hat⟩ := World.cells?_some hc
      refine ⟨e, ho, ?_, ?_, ?_, ?_⟩
      · rw [hat 0 (by omega), he]; rfl
      · rw [hat 1 (by omega), he]; rfl
      · rw [hat 2 (by omega), he]; rfl
      · rw [hat 3 (by omega), he]; rfl
    obtain ⟨f, hf⟩ : ∃ f : Nat → Act6, ∀ i, i < len0 → (0 ≤ (f i).2.1 ∧ (f i).2.1 < 4294967296) ∧ w.cell? ((a.add (i * 4)).add 0) = some (.int .i64 (f i).1) ∧ w.cell? ((a.add (i * 4)).add 1) = some (.int .u32 (f i).2.1) ∧ w.cell? ((a.add (i * 4)).add 2) = some (.int .i64 (f i).2.2.1) ∧ w.cell? ((a.add (i * 4)).add 3) = some (.int .i64 (f i).2.2.2) := by
      refine ⟨fun i => if h : i < len0 then (each i h).choose else (0, 0, 0, 0), fun i h => ?_⟩
      dsimp only
      rw [dif_pos h]
      exact (each i h).choose_spec
    have hll : ((List.range len0).map f).length = len0 := by simp
    refine ⟨some a, (List.range len0).map f, cap0, by rw [hll], fun e he => ?_, fun h0 => ?_⟩
    · obtain ⟨i, hi2, rfl⟩ := List.mem_map.1 he
      exact (hf i (by simpa using hi2)).1
    · rw [hll] at h0
      have c0 := (hf 0 h0).2.1
      obtain ⟨b, o, spot⟩ := a
      have hspot : spot = none := by simpa [Addr.add] using World.cell?_spot c0
      subst hspot
      rw [Addr.add_lit, Addr.add_lit] at c0
      refine ⟨b, o, rfl, World.block_lt_of_cell? _ _ c0, fun j hj => ?_⟩
      rw [hll] at hj
      have h1 := (hf j hj).2
      rw [Addr.add_lit, Addr.add_lit, Addr.add_lit, Addr.add_lit, Addr.add_lit] at h1
      simpa using h1
end T6

set_option maxRecDepth 100000 in
theorem trieFrom_lifted (os : Os) (started : os.Started) (H : Type) (enc : TypeId × Value → H) :
    ReturnsInHanded {} Try.checked os 5 .any (Rows.trieFromSpec.pre6 enc Try.prog Try.f5 [] false)
      (Rows.trieFromSpec.post enc Try.prog Try.f5 false true false false) := by
  refine law_lifted0 (C := Try.checked) own0 started (by kernel_rfl) Try.func5 laidOut0 rfl (by kernel_rfl) (by kernel_rfl) Try.underlying4 (by kernel_rfl)
    (fun ds hds => by
      match ds, hds with
      | [_, _, _, _], _ => rfl)
    (ChangeSpec.witness6 (enc := enc) (C := Try.checked) false ⟨#[], #[.slice none 0 0, .agg #[.int .u32 0, .int .i64 0], .int .i64 0, .agg #[.int .i64 0, .int .u32 0, .int .i64 0, .int .i64 0]], []⟩ 8 (by kernel_rfl) (by kernel_rfl) (by kernel_rfl) (by kernel_rfl)) ?_
  intro W base args ds p hval hA _ _
  rw [Try.params5] at hA hval
  obtain ⟨v0, r0, d0, _, p0, _, e0, _, _, h0, hA⟩ := trodAll_cons hA
  obtain ⟨v1, r1, d1, _, p1, _, e1, _, _, h1, hA⟩ := trodAll_cons hA
  obtain ⟨v2, r2, d2, _, p2, _, e2, _, _, h2, hA⟩ := trodAll_cons hA
  obtain ⟨v3, r3, d3, _, p3, _, e3, _, _, h3, hA⟩ := trodAll_cons hA
  obtain ⟨e4, _, _⟩ := trodAll_nil hA
  subst e4 e3 e2 e1
  obtain ⟨args⟩ := args
  simp only at e0
  subst e0
  obtain ⟨A, l, k, rfl, hl, hLA⟩ := T6.open_acts (hval 0 22 v0 rfl rfl) h0
  obtain ⟨x, n, rfl, x0, x1, _, _⟩ := open_prefix (hval 1 34 v1 rfl rfl) h1
  obtain ⟨m, rfl, _, _, wm⟩ := open_int Try.underlying3 (hval 2 3 v2 rfl rfl) h2
  obtain ⟨c, y, q, u, rfl, y0, y1, _, _⟩ := T6.open_act (hval 3 36 v3 rfl rfl) h3
  have bm := bounds_i64 wm
  exact T6.law06_from A k l hl x n m c y q u y0 y1 bm.1 bm.2 W hLA

theorem trieFrom_holds : Rows.TrieFromSaid :=
  OpenClaim.holds_of_wide 5 Try.f5 rfl rfl rfl rfl rfl rfl rfl ⟨rfl, rfl, rfl, rfl, rfl⟩ rfl rfl rfl rfl rfl (by kernel_rfl) Try.func5 (by kernel_rfl)
    (of_decide_eq_true (by kernel_rfl)) (by unfold Func.isWrapper; first | (rw [if_pos (by decide +kernel)]; kernel_rfl) | (rw [if_neg (by decide +kernel)]; exact ⟨rfl, rfl⟩))
    (fun os started H enc _ => trieFrom_lifted os started H enc)
#print axioms trieFrom_holds
end Go.Proofs.Ytghkacciihocdaa

namespace Go.Proofs.Ytghkacciihocdaa
open Go Go.RowKit Go.ChangeShapes Go.WideShapes Go.ChangeAt
set_option maxRecDepth 100000 in
theorem trieFinds_lifted (os : Os) (started : os.Started) (H : Type) (enc : TypeId × Value → H) :
    ReturnsInHanded {} Try.checked os 4 .any (Rows.trieFindsSpec.pre6 enc Try.prog Try.f4 [] false)
      (Rows.trieFindsSpec.post enc Try.prog Try.f4 false true false false) := by
  refine law_lifted0 (C := Try.checked) own0 started (by kernel_rfl) Try.func4 laidOut0 rfl (by kernel_rfl) (by kernel_rfl) Try.underlying4 (by kernel_rfl)
    (fun ds hds => by
      match ds, hds with
      | [_, _, _, _], _ => rfl)
    (ChangeSpec.witness6 (enc := enc) (C := Try.checked) false ⟨#[], #[.slice none 0 0, .int .u32 0, .agg #[.int .u32 0, .int .i64 0], .int .i64 0], []⟩ 8 (by kernel_rfl) (by kernel_rfl) (by kernel_rfl) (by kernel_rfl)) ?_
  intro W base args ds p hval hA _ _
  rw [Try.params4] at hA hval
  obtain ⟨v0, r0, d0, _, p0, _, e0, _, _, h0, hA⟩ := trodAll_cons hA
  obtain ⟨v1, r1, d1, _, p1, _, e1, _, _, h1, hA⟩ := trodAll_cons hA
  obtain ⟨v2, r2, d2, _, p2, _, e2, _, _, h2, hA⟩ := trodAll_cons hA
  obtain ⟨v3, r3, d3, _, p3, _, e3, _, _, h3, hA⟩ := trodAll_cons hA
  obtain ⟨e4, _, _⟩ := trodAll_nil hA
  subst e4 e3 e2 e1
  obtain ⟨args⟩ := args
  simp only at e0
  subst e0
  obtain ⟨A, l, k, rfl, hl, hLA⟩ := T6.open_acts (hval 0 22 v0 rfl rfl) h0
  obtain ⟨a, rfl, _, _, wa⟩ := open_int Try.underlying32 (hval 1 32 v1 rfl rfl) h1
  obtain ⟨x, n, rfl, x0, x1, _, _⟩ := open_prefix (hval 2 34 v2 rfl rfl) h2
  obtain ⟨m, rfl, _, _, wm⟩ := open_int Try.underlying3 (hval 3 3 v3 rfl rfl) h3
  have bm := bounds_i64 wm
  exact T6.law06_finds A k l hl a x n m (wf0_u32 wa).1 (wf0_u32 wa).2 x0 x1 bm.1 bm.2 W hLA

theorem trieFinds_holds : Rows.TrieFindsSaid :=
  OpenClaim.holds_of_wide 4 Try.f4 rfl rfl rfl rfl rfl rfl rfl ⟨rfl, rfl, rfl, rfl, rfl⟩ rfl rfl rfl rfl rfl (by kernel_rfl) Try.func4 (by kernel_rfl)
    (of_decide_eq_true (by kernel_rfl)) (by unfold Func.isWrapper; first | (rw [if_pos (by decide +kernel)]; kernel_rfl) | (rw [if_neg (by decide +kernel)]; exact ⟨rfl, rfl⟩))
    (fun os started H enc _ => trieFinds_lifted os started H enc)
#print axioms trieFinds_holds

set_option maxRecDepth 100000 in
theorem triePlays_lifted (os : Os) (started : os.Started) (H : Type) (enc : TypeId × Value → H) :
    ReturnsInHanded {} Try.checked os 3 .any (Rows.triePlaysSpec.pre6 enc Try.prog Try.f3 [] false)
      (Rows.triePlaysSpec.post enc Try.prog Try.f3 false true false false) := by
  refine law_lifted0 (C := Try.checked) own0 started (by kernel_rfl) Try.func3 laidOut0 rfl (by kernel_rfl) (by kernel_rfl) Try.underlying4 (by kernel_rfl)
    (fun ds hds => by
      match ds, hds with
      | [_], _ => rfl)
    (ChangeSpec.witness6 (enc := enc) (C := Try.checked) false ⟨#[], #[.slice none 0 0], []⟩ 8 (by kernel_rfl) (by kernel_rfl) (by kernel_rfl) (by kernel_rfl)) ?_
  intro W base args ds p hval hA _ _
  rw [Try.params3] at hA hval
  obtain ⟨v0, r0, d0, _, p0, _, e0, _, _, h0, hA⟩ := trodAll_cons hA
  obtain ⟨e1, _, _⟩ := trodAll_nil hA
  subst e1
  obtain ⟨args⟩ := args
  simp only at e0
  subst e0
  obtain ⟨A, l, k, rfl, hl, hLA⟩ := T6.open_acts (hval 0 22 v0 rfl rfl) h0
  exact T6.law06_plays A k l hl W hLA

theorem triePlays_holds : Rows.TriePlaysSaid :=
  OpenClaim.holds_of_wide 3 Try.f3 rfl rfl rfl rfl rfl rfl rfl ⟨rfl, rfl, rfl, rfl, rfl⟩ rfl rfl rfl rfl rfl (by kernel_rfl) Try.func3 (by kernel_rfl)
    (of_decide_eq_true (by kernel_rfl)) (by unfold Func.isWrapper; first | (rw [if_pos (by decide +kernel)]; kernel_rfl) | (rw [if_neg (by decide +kernel)]; exact ⟨rfl, rfl⟩))
    (fun os started H enc _ => triePlays_lifted os started H enc)
#print axioms triePlays_holds

set_option maxRecDepth 100000 in
theorem trieCopies_lifted (os : Os) (started : os.Started) (H : Type) (enc : TypeId × Value → H) :
    ReturnsInHanded {} Try.checked os 7 .any (Rows.trieCopiesSpec.pre6 enc Try.prog Try.f7 [] false)
      (Rows.trieCopiesSpec.post enc Try.prog Try.f7 false true false false) := by
  refine law_lifted0 (C := Try.checked) own0 started (by kernel_rfl) Try.func7 laidOut0 rfl (by kernel_rfl) (by kernel_rfl) Try.underlying4 (by kernel_rfl)
    (fun ds hds => by
      match ds, hds with
      | [_, _, _], _ => rfl)
    (ChangeSpec.witness6 (enc := enc) (C := Try.checked) false ⟨#[], #[.slice none 0 0, .agg #[.int .i64 0, .int .u32 0, .int .i64 0, .int .i64 0], .agg #[.int .i64 0, .int .u32 0, .int .i64 0, .int .i64 0]], []⟩ 8 (by kernel_rfl) (by kernel_rfl) (by kernel_rfl) (by kernel_rfl)) ?_
  intro W base args ds p hval hA _ _
  rw [Try.params7] at hA hval
  obtain ⟨v0, r0, d0, _, p0, _, e0, _, _, h0, hA⟩ := trodAll_cons hA
  obtain ⟨v1, r1, d1, _, p1, _, e1, _, _, h1, hA⟩ := trodAll_cons hA
  obtain ⟨v2, r2, d2, _, p2, _, e2, _, _, h2, hA⟩ := trodAll_cons hA
  obtain ⟨e3, _, _⟩ := trodAll_nil hA
  subst e3 e2 e1
  obtain ⟨args⟩ := args
  simp only at e0
  subst e0
  obtain ⟨A, l, k, rfl, hl, hLA⟩ := T6.open_acts (hval 0 22 v0 rfl rfl) h0
  obtain ⟨c, y, q, u, rfl, y0, y1, _, _⟩ := T6.open_act (hval 1 36 v1 rfl rfl) h1
  obtain ⟨c', y', q', u', rfl, y0', y1', _, _⟩ := T6.open_act (hval 2 36 v2 rfl rfl) h2
  exact T6.law06_copies A k l hl c y q u c' y' q' u' y0 y1 y0' y1' W hLA

theorem trieCopies_holds : Rows.TrieCopiesSaid :=
  OpenClaim.holds_of_wide 7 Try.f7 rfl rfl rfl rfl rfl rfl rfl ⟨rfl, rfl, rfl, rfl, rfl⟩ rfl rfl rfl rfl rfl (by kernel_rfl) Try.func7 (by kernel_rfl)
    (of_decide_eq_true (by kernel_rfl)) (by unfold Func.isWrapper; first | (rw [if_pos (by decide +kernel)]; kernel_rfl) | (rw [if_neg (by decide +kernel)]; exact ⟨rfl, rfl⟩))
    (fun os started H enc _ => trieCopies_lifted os started H enc)
#print axioms trieCopies_holds
end Go.Proofs.Ytghkacciihocdaa
