/- A store of a whole struct or array into a block of its own. -/
import Derived.Test.YtehhablobfaplaaDoorA0
import Derived.Deep.MidRow
import Derived.Deep.Cut
namespace Go.Proofs.YtehhablobfaplaaDoor
open Go Go.RowKit

def setL (zs : Array Value) : Nat → List Value → Array Value
  | _, [] => zs
  | o, v :: r => setL (zs.setIfInBounds o v) (o + 1) r
theorem setL_all : ∀ (l pre rest : List Value), rest.length = l.length → setL (pre ++ rest).toArray pre.length l = (pre ++ l).toArray
  | [], pre, [], _ => by simp [setL]
  | v :: l, pre, x :: rest, h => by
    simp only [setL, List.setIfInBounds_toArray]
    have h1 : (pre ++ x :: rest).set pre.length v = (pre ++ [v]) ++ rest := by simp
    have h2 := setL_all l (pre ++ [v]) rest (by simpa using h)
    rw [h1]
    simpa using h2
theorem setL_whole (zs cs : Array Value) (h : zs.size = cs.size) : setL zs 0 cs.toList = cs := by
  have := setL_all cs.toList [] zs.toList (by simpa using h)
  simpa using this
theorem Blk.setCells {b : Nat} {t : TypeId} : ∀ (l : List Value) (o : Nat) {w : World} {zs : Array Value}, Blk w b t zs → Blk (w.setCells b o l) b t (setL zs o l) ∧ w.grownBy (w.setCells b o l) (some b)
  | [], _, w, _, h => ⟨h, grown_refl _ _⟩
  | v :: r, o, w, zs, h => by
    obtain ⟨h1, h2⟩ := Blk.setCells r (o + 1) (h.set_ o v)
    have g := grown_set w b o v
    exact ⟨h1, ⟨h2.os.trans g.os, h2.tape.trans g.tape, h2.output.trans g.output, Nat.le_trans g.size h2.size, fun k hk hne => (h2.block k (Nat.lt_of_lt_of_le hk g.size) hne).trans (g.block k hk hne)⟩⟩
/-- What a store of a whole value into a block of its own asks. -/
structure NewSt (P : Program) (w : World) (ty : TypeId) (b : Nat) (t : TypeId) (zs cs : Array Value) : Prop where
  blk : Blk w b t zs
  len : zs.size = cs.size
  inf : (P.info? ty).map (·.size) = some cs.size
  one : cs.all (·.oneCell') = true
theorem wpList_store_new {P : Program} {ops : Array Oper} {rest : List Oper} {op : Oper} {a : Act} {w : World} {Q : Exit → Act → World → Prop} {ty : TypeId} {b : Nat} {t : TypeId} {zs cs : Array Value} (hs : NewSt P w ty b t zs cs) (hgd : op.guard = none) (x y : Operand) (ho : op.op = .store ty x y)
    (hx : a.eval x = .pointer (some ⟨b, 0, none⟩)) (hy : a.eval y = .agg cs)
    (h : ∀ w2, Blk w2 b t cs → w.grownBy w2 (some b) → wpList P ops Q rest (a.put op.dst undef) w2) : wpList P ops Q (op :: rest) a w := by
  obtain ⟨hb, hn, hi, h1⟩ := hs
  refine wpList_store_mid hgd ty x y ho b 0 cs hx hy (fun j hj => ⟨?_, hb.frozen _⟩) hi h1 ?_
  · rw [hb.cell, Array.getElem?_eq_getElem (by omega)]
    rfl
  · obtain ⟨h2, h3⟩ := hb.setCells cs.toList 0
    rw [setL_whole zs cs hn] at h2
    exact h _ h2 h3
end Go.Proofs.YtehhablobfaplaaDoor
