/- A region that draws its order and only reads, inside a round: the text's order does for all. -/
import Derived.OrdersIn
import Derived.OrdersHeld
import Derived.RegionIn
namespace Go.Proofs.Ytghkacciihocdaa
open Go
section
variable {F : Fence} {n : Nat} {P : Program} {md : Region.Mode} {ops : Array Oper} {Q : Exit → Act → World → Prop} {w : World}

/-- Whatever order is picked: each operation that may come up yields, and the world stays as it is. -/
def AllY (P : Program) (md : Region.Mode) (ops : Array Oper) (Q : Exit → Act → World → Prop) (w : World) : Nat → Array Bool → Act → Prop
  | 0, listed, a => Region.ready md ops listed = [] ∧ Q .normal a w
  | fuel + 1, listed, a => (Region.ready md ops listed = [] → Q .normal a w) ∧
    ∀ i ∈ Region.ready md ops listed, ∃ o v, ops[i]? = some o ∧ YieldsIf P ops (fun w' => w' = w) o v a ∧ AllY P md ops Q w fuel (listed.setIfInBounds i true) (a.put o.dst v)

def noDefer (ops : Array Oper) : Bool := ops.toList.all fun o => match o.op with
  | .defer _ => false
  | _ => true
theorem noDefer_spec (h : noDefer ops = true) {i : Nat} {o : Oper} (ho : ops[i]? = some o) (c : _) : o.op ≠ .defer c := fun e => by
  have := List.all_eq_true.1 h o (by
    obtain ⟨hl, rfl⟩ := Array.getElem?_eq_some_iff.1 ho
    exact Array.getElem_mem_toList hl)
  rw [e] at this
  cases this

theorem AllY.inRound (hF : ∀ f, F.fn f) (hd : noDefer ops = true) : ∀ (fuel : Nat) (listed : Array Bool) (a : Act), AllY P md ops Q w fuel listed a → wpAnyIn F n P md ops Q fuel listed a w
  | 0, _, _, h => h
  | fuel + 1, listed, a, h => ⟨h.1, fun i hi => by
    obtain ⟨o, v, ho, hy, hr⟩ := h.2 i hi
    have ih := AllY.inRound hF hd fuel _ _ hr
    unfold wpOpIn
    simp only [ho]
    rcases hy with ⟨hw, hv⟩ | ⟨hw, rfl⟩
    · rw [if_pos hw]
      refine ⟨fun f _ => hF f, ?_⟩
      rw [Oper.semAt_eq _ _ _ (noDefer_spec hd ho), hv w rfl]
      exact ih
    · rw [if_neg (by simp [hw])]
      exact ⟨fun f _ => hF f, ih⟩⟩

/-- The beginning. -/
theorem region_round {id : Nat} {a : Act} (hm : P.follows .mixedOrders = true) (hF : ∀ f, F.fn f) (hd : noDefer ops = true)
    (h : AllY P .any ops Q w.drew ops.size (Array.replicate ops.size false) a) : (Code.region id ops true).wpIn F n P Q a w :=
  wpIn_region_any hm (AllY.inRound hF hd _ _ _ h)

theorem AllY.plain : ∀ (fuel : Nat) (listed : Array Bool) (a : Act), AllY P md ops Q w fuel listed a → wpAny P md ops Q fuel listed a w
  | 0, _, _, h => h
  | fuel + 1, listed, a, h => ⟨h.1, fun i hi => by
    obtain ⟨o, v, ho, hy, hr⟩ := h.2 i hi
    have ih := AllY.plain fuel _ _ hr
    exact hy.wpOp ho rfl ih⟩
/-- The same, outside of rounds. -/
theorem region_plain {id : Nat} {a : Act} (hm : P.follows .mixedOrders = true) (h : AllY P .any ops Q w.drew ops.size (Array.replicate ops.size false) a) : (Code.region id ops true).wp P Q a w :=
  wp_region_any hm (AllY.plain _ _ _ h)

theorem AllY.first {i : Nat} {oi : Oper} {v : Value} (hi : ops[i]? = some oi) (hsel : ∀ (j : Nat) (o : Oper) cs b, ops[j]? = some o → o.op ≠ .select cs b) :
    ∀ (fuel : Nat) (listed : Array Bool) (a : Act),
      (∀ j oj, ops[j]? = some oj → j ≠ i → listed.getD j true = false → (∀ e ∈ oj.after, Region.binds md e = true → e.on ≠ i) → oi.apart ops oj = true) →
      i ∈ Region.ready md ops listed → YieldsIf P ops (fun w' => w' = w) oi v a →
      AllY P md ops Q w fuel (listed.setIfInBounds i true) (a.put oi.dst v) → AllY P md ops Q w (fuel + 1) listed a
  | 0, listed, a, _, hr, hy, H => by
    refine ⟨fun h => (by rw [h] at hr; cases hr), fun j hj => ?_⟩
    by_cases hji : j = i
    · subst hji; exact ⟨oi, v, hi, hy, H⟩
    · have := ready_mono hj hji
      rw [H.1] at this
      cases this
  | fuel + 1, listed, a, hfree, hr, hy, H => by
    refine ⟨fun h => (by rw [h] at hr; cases hr), fun j hj => ?_⟩
    by_cases hji : j = i
    · subst hji; exact ⟨oi, v, hi, hy, H⟩
    · obtain ⟨oj, vj, hoj, yj, rest⟩ := H.2 j (ready_mono hj hji)
      obtain ⟨hjun, oj', hoj', hall⟩ := mem_ready.1 hj
      rw [hoj] at hoj'
      cases hoj'
      have hnot : ∀ e ∈ oj.after, Region.binds md e = true → e.on ≠ i := fun e he hb heq => by
        have h1 := hall e he hb
        have h0 := (mem_ready.1 hr).1
        rw [heq, Array.getD_eq_getD_getElem?] at h1
        rw [Array.getD_eq_getD_getElem?] at h0
        cases hx : listed[i]? with
        | none => rw [hx] at h1; cases h1
        | some b => rw [hx] at h0 h1; cases h0; cases h1
      obtain ⟨h1, h2, h3⟩ := Oper.apart_spec (hfree j oj hoj hji hjun hnot)
      have yj' : YieldsIf P ops (fun w' => w' = w) oj vj a := yj.of_same (execOp_put oj (fun cs b => hsel j oj cs b hoj) a oi.dst v h1).symm (wanted_put oj a oi.dst v h1).symm
      have yi' : YieldsIf P ops (fun w' => w' = w) oi v (a.put oj.dst vj) := hy.of_same (execOp_put oi (fun cs b => hsel i oi cs b hi) a oj.dst vj h3) (wanted_put oi a oj.dst vj h3)
      refine ⟨oj, vj, hoj, yj', AllY.first hi hsel fuel _ _ (fun k ok hk hki hun hno => hfree k ok hk hki ?_ hno) (ready_mono hr (Ne.symm hji)) yi' ?_⟩
      · by_cases hjk : j = k
        · subst hjk; exact hjun
        · rwa [getD_set_ne true hjk] at hun
      · rw [Array.setIfInBounds_comm _ _ hji, ← Act.put_comm a v vj h2]
        exact rest

/-- Take number i first. -/
theorem AllY.take {i : Nat} {oi : Oper} {v : Value} {fuel : Nat} {listed : Array Bool} {a : Act} (hi : ops[i]? = some oi)
    (hs : Region.noSelect ops = true) (hf : Region.free md ops listed i = true) (hr : (Region.ready md ops listed).contains i = true)
    (hy : YieldsIf P ops (fun w' => w' = w) oi v a)
    (h : AllY P md ops Q w fuel (listed.setIfInBounds i true) (a.put oi.dst v)) : AllY P md ops Q w (fuel + 1) listed a :=
  AllY.first hi (Region.noSelect_spec hs) fuel listed a (Region.free_spec hi hf) (by simpa using hr) hy h
theorem AllY.done {listed : Array Bool} {a : Act} (hr : Region.ready md ops listed = []) (h : Q .normal a w) : AllY P md ops Q w 0 listed a := ⟨hr, h⟩
end
end Go.Proofs.Ytghkacciihocdaa
