/- Contracts of layer 1: Text and the reference's Text, over a world in which the library's table lies. -/
import Derived.Test.YtghkacciihocdaaA2
import Derived.Test.YtghkacciihocdaaShelf
import Derived.WalkSmall
import Derived.Lib.ItoaNum
import Derived.Lib.Join
import Derived.Lib.QuietBelow
namespace Go.Proofs.Ytghkacciihocdaa
open Go Go.RowKit Go.Sort

theorem below_grow (w : World) (k : Nat) (os : Array Obj) : Below w.heap.size w (grow (w.drewN k) os) :=
  ⟨rfl, rfl, rfl, by simp [grow, World.drewN], fun i hi => by
    show (w.heap ++ os)[i]? = _
    rw [Array.getElem?_append_left hi]⟩

def sb (n : Int) : ByteArray := ⟨(Lib.itoa n).toArray⟩

/-- The k-th part of an address. -/
def pt (a : Int) : Nat → Int
  | 0 => a / 16777216
  | 1 => a / 65536 % 256
  | 2 => a / 256 % 256
  | _ => a % 256

theorem pt_range (a : Int) (h0 : 0 ≤ a) (h1 : a < 4294967296) (k : Nat) : 0 ≤ pt a k ∧ pt a k < 256 := by
  match k with
  | 0 => simp only [pt]; omega
  | 1 => simp only [pt]; omega
  | 2 => simp only [pt]; omega
  | k + 3 => simp only [pt]; omega

def pts (a : Int) (k j : Nat) : ByteArray := if j < k then sb (pt a j) else ⟨#[]⟩

/-- An address's text. -/
def txt (a : Int) : List UInt8 := Lib.itoa (pt a 0) ++ 46 :: (Lib.itoa (pt a 1) ++ 46 :: (Lib.itoa (pt a 2) ++ 46 :: Lib.itoa (pt a 3)))

theorem pts_zero (a : Int) (j : Nat) : pts a 0 j = ⟨#[]⟩ := by simp [pts]
theorem pts_four (a : Int) (j : Nat) (h : j < 4) : pts a 4 j = sb (pt a j) := by simp [pts, h]
theorem pts_same (a : Int) (k : Nat) : pts a (k + 1) k = sb (pt a k) := by simp [pts]
theorem pts_other (a : Int) (k j : Nat) (h : j ≠ k) : pts a (k + 1) j = pts a k j := by
  unfold pts
  by_cases h1 : j < k
  · rw [if_pos h1, if_pos (by omega)]
  · rw [if_neg h1, if_neg (by omega)]

theorem join4 (a : Int) : Lib.join ([sb (pt a 0), sb (pt a 1), sb (pt a 2), sb (pt a 3)].map (·.data.toList)) [46] = txt a := by
  simp [Lib.join_cons, Lib.joinTail, txt, sb]

theorem itoa_len (n : Int) (h0 : 0 ≤ n) (h1 : n < 256) : (Lib.itoa n).length ≤ 3 := by
  obtain ⟨u, rfl⟩ : ∃ u : Nat, n = u := ⟨n.toNat, by omega⟩
  have hu : u < 256 := by omega
  have hi : Lib.itoa (u : Int) = Lib.decDigits u := by simp [Lib.itoa]
  rw [hi, Lib.decDigits]
  split
  · simp
  · rw [Lib.decDigits]
    split
    · simp
    · rw [Lib.decDigits, dif_pos (by omega)]
      simp

theorem txt_len (a : Int) (h0 : 0 ≤ a) (h1 : a < 4294967296) : (txt a).length ≤ 15 := by
  have l0 := itoa_len _ (pt_range a h0 h1 0).1 (pt_range a h0 h1 0).2
  have l1 := itoa_len _ (pt_range a h0 h1 1).1 (pt_range a h0 h1 1).2
  have l2 := itoa_len _ (pt_range a h0 h1 2).1 (pt_range a h0 h1 2).2
  have l3 := itoa_len _ (pt_range a h0 h1 3).1 (pt_range a h0 h1 3).2
  simp only [txt, List.length_append, List.length_cons]
  omega

/-- The four texts lie in block B behind k rounds. -/
def Held (a : Int) (B k : Nat) (w : World) : Prop := ∀ j, j < 4 → w.cell? ⟨B, j, none⟩ = some (.string (pts a k j)) ∧ w.frozen? ⟨B, j, none⟩ = false

theorem Held.below {a : Int} {B k : Nat} {w w' : World} (h : Held a B k w) (hB : B < w.heap.size) (hb : Below w.heap.size w w') : Held a B k w' :=
  fun j hj => ⟨(hb.cell (p := ⟨B, j, none⟩) hB).trans (h j hj).1, (hb.frozen (p := ⟨B, j, none⟩) hB).trans (h j hj).2⟩

theorem Held.next {a : Int} {B k : Nat} {w : World} (h : Held a B k w) (hk : k < 4) : Held a B (k + 1) (w.setCell ⟨B, k, none⟩ (.string (sb (pt a k)))) := by
  intro j hj
  refine ⟨?_, by rw [World.frozen?_setCell]; exact (h j hj).2⟩
  by_cases e : j = k
  · subst e
    rw [World.cell?_setCell_same _ _ _ (h j hj).1, pts_same]
  · rw [World.cell?_setCell_other _ _ _ _ (by intro c; cases c; exact e rfl), pts_other _ _ _ e]
    exact (h j hj).1

end Go.Proofs.Ytghkacciihocdaa
