/- Layer 3: what Put and Read promise, the program's and the reference's alike. -/
import Derived.Test.YtfbfdjcdjogefaaDoorO5
import Derived.Lib.LaidTab
import Derived.WalkSmall
namespace Go.Proofs.YtfbfdjcdjogefaaDoor
open Go Go.RowKit
attribute [local go_sem] Oper.semAt_some

theorem gWid : Tryd.prog.globalNamed "waywarden/octet.widths" = some 0 := by kernel_rfl
/-- What layer 3's functions ask of a world: the widths lie. -/
structure Fit3 (w : World) : Prop where
  tab : Lib.TabIs Tryd.prog w "waywarden/octet.widths" .i64 [1, 2, 4]
theorem Fit3.below {w w' : World} (h : Fit3 w) (hb : Below w.heap.size w w') : Fit3 w' :=
  ⟨var?_below hb gWid (World.block_lt_of_cell? _ _ (h.tab.cell gWid 0 (by decide))) h.tab⟩

/-- What Put tells: an error, the bytes. -/
def putNo (n k : Int) : Int := if ¬ W3 k then 2 else if n / 256 ^ k.toNat > 0 then 4 else 0
def putL (n k : Int) : List Int := if putNo n k = 0 then be k.toNat n else []

theorem isBytes_putL (n k : Int) : IsBytes (putL n k) := by
  unfold putL
  split
  · exact isBytes_be _ _
  · intro x h; cases h
theorem putL_le (n k : Int) : (putL n k).length ≤ 4 := by
  unfold putL
  split
  · rename_i h
    have hk : W3 k := Classical.byContradiction fun hw => by unfold putNo at h; rw [if_pos hw] at h; cases h
    rw [be_length]
    rcases hk with rfl | rfl | rfl <;> decide
  · exact Nat.zero_le _

/-- What a function promises that is called Put. -/
def PutC (f : FuncId) : Prop := ∀ (n k : Int) (w : World), 0 ≤ n → n < 4294967296 → Fit3 w →
  Calls Tryd.prog f #[.int .u32 n, .int .i64 k] w fun e w' => ∃ p c, e = .returned (.tuple #[.slice p (putL n k).length c, .int .i64 (putNo n k)]) ∧ (putL n k).length ≤ c ∧ ByS w' p (putL n k) ∧ Below w.heap.size w w'
/-- What a function promises that is called Read. -/
def ReadC (f : FuncId) : Prop := ∀ (p : Option Addr) (cap : Nat) (xs : List Int) (at_ k : Int) (w : World), IsBytes xs → xs.length ≤ 1000000 → xs.length ≤ cap → ByS w p xs → at_ < 9223372036854775808 → Fit3 w →
  Calls Tryd.prog f #[.slice p xs.length cap, .int .i64 at_, .int .i64 k] w fun e w' => e = .returned (.tuple #[.int .u32 (readN xs at_ k), .int .i64 (readNo xs at_ k)]) ∧ Below w.heap.size w w'
def YesC (f : FuncId) : Prop := ∀ w : World, Fit3 w → Calls Tryd.prog f #[] w fun e w' => e = .returned (.bool true) ∧ Below w.heap.size w w'

theorem refPut_c : PutC 53 := fun n k w h0 h1 _ => by
  by_cases hk : W3 k
  · obtain ⟨m, rfl, hm⟩ := hk.nat
    refine (refPut_any n h0 h1 m hm w).mono ?_
    rintro e w' ⟨he, hb⟩
    by_cases hz : n / 256 ^ m > 0
    · rw [if_pos hz] at he
      have e0 : putNo n m = 4 := by unfold putNo; rw [if_neg (by simpa using hk), Int.toNat_natCast, if_pos hz]
      have e1 : putL n m = [] := by unfold putL; rw [e0]; rfl
      rw [e0, e1]
      exact ⟨none, 0, he, Nat.le_refl _, ByS.nil _ _, hb⟩
    · rw [if_neg hz] at he
      have e0 : putNo n m = 0 := by unfold putNo; rw [if_neg (by simpa using hk), Int.toNat_natCast, if_neg hz]
      have e1 : putL n m = be m n := by unfold putL; rw [e0, if_pos rfl, Int.toNat_natCast]
      rw [e0, e1]
      refine ⟨some ⟨w.heap.size, 0, none⟩, m, by rw [be_length]; exact he.1, by simp, ?_, hb⟩
      exact ByS.ofBlk (r := []) (by rw [List.append_nil]; exact he.2)
  · have e0 : putNo n k = 2 := by unfold putNo; rw [if_pos hk]
    have e1 : putL n k = [] := by unfold putL; rw [e0]; rfl
    rw [e0, e1]
    refine (refPut_arg n k hk w).mono ?_
    rintro e w' ⟨rfl, rfl⟩
    exact ⟨none, 0, rfl, Nat.le_refl _, ByS.nil _ _, Below.refl _ _⟩
theorem refRead_c : ReadC 31 := fun p cap xs at_ k w hb hn _ hx _ _ => refRead_any p cap xs hb hn at_ k w hx

theorem wpList_app_bytes {ops : Array Oper} {rest : List Oper} {o : Oper} {a : Act} {Q : Exit → Act → World → Prop} (hgd : o.guard = none) (s x : Operand)
    (ho : o.op = .call { callee := .builtin .append, args := #[s, x], argTypes := #[26, 26] }) (base : Nat) {w : World} {v : Value} {xs : List Int} (hs : a.eval s = v) (hown : OwnB base w v xs)
    {p : Option Addr} {ys : List Int} {c : Nat} (hx : a.eval x = .slice p ys.length c) (hy : ByS w p ys) (hn : xs.length + ys.length ≤ 1000000) (hbase : base ≤ w.heap.size)
    (h : ∀ v' w', OwnB base w' v' (xs ++ ys) → w.grownBy w' v.ownBlock → (v' = .slice none 0 0 ↔ v = .slice none 0 0 ∧ ys.length = 0) → wpList Tryd.prog ops Q rest (a.put o.dst v') w') : wpList Tryd.prog ops Q (o :: rest) a w := by
  obtain ⟨v', w', hr, h1, h2, h3⟩ := app_bytes base o.type hown hy c hn hbase
  exact Lib.wpList_append_run_sl w hgd s x 26 ho v _ hs hx hr (h v' w' h1 h2 h3)

/-- What was put is read back. -/
theorem put_read {n k : Int} (h0 : 0 ≤ n) (h1 : n < 4294967296) (hz : putNo n k = 0) (ahead behind : List Int) : readNo (ahead ++ putL n k ++ behind) ahead.length k = 0 ∧ readN (ahead ++ putL n k ++ behind) ahead.length k = n := by
  have hk : W3 k := Classical.byContradiction fun hw => by unfold putNo at hz; rw [if_pos hw] at hz; cases hz
  obtain ⟨m, rfl, hm⟩ := hk.nat
  have hlt : ¬ n / 256 ^ m > 0 := fun hgt => by
    unfold putNo at hz
    rw [if_neg (by simpa using hk), Int.toNat_natCast, if_pos hgt] at hz
    cases hz
  have hL : putL n m = be m n := by unfold putL; rw [if_pos hz, Int.toNat_natCast]
  have hn : n < 256 ^ m := by
    rcases hm with rfl | rfl | rfl
    · simp only [Int.pow_one] at *; omega
    · have : (256 : Int) ^ 2 = 65536 := by decide
      rw [this] at *; omega
    · have : (256 : Int) ^ 4 = 4294967296 := by decide
      rw [this] at *; omega
  have hno : readNo (ahead ++ putL n m ++ behind) ahead.length m = 0 := by
    unfold readNo
    rw [if_neg (by simpa using hk), if_neg (by omega), if_neg (by rw [hL]; simp; omega)]
  refine ⟨hno, ?_⟩
  unfold readN
  rw [if_pos hno, Int.toNat_natCast, Int.toNat_natCast, hL, List.append_assoc, List.drop_left, List.take_left' (by simp), val_be hm h0 hn]
end Go.Proofs.YtfbfdjcdjogefaaDoor
