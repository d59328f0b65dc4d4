/- Contract of layer 1's reference Each: a slice of its own that holds what refF tells. -/
import Derived.Test.YtkkeimcicpkmbaaDoorM3
import Derived.Test.YtkkeimcicpkmbaaDoorA0
namespace Go.Proofs.YtkkeimcicpkmbaaDoor
open Go Go.RowKit

def oneCells (x : Int × Int) : List Value := [.int .i64 x.1, .int .u32 x.2]
def manyCells (l : List (Int × Int)) : List Value := l.flatMap oneCells
theorem manyCells_snoc (l : List (Int × Int)) (x : Int × Int) : manyCells (l ++ [x]) = manyCells l ++ oneCells x := by simp [manyCells]

theorem infoOne : (Tryd.prog.info? 49).map (fun i => (i.zero, i.size, i.bytes)) = some (some (.agg #[.int .i64 0, .int .u32 0]), 2, 16) := by kernel_rfl

/-- Where Head tells of no address, or of one behind which neither the end nor a blank stands, nothing is told. -/
theorem refF_none {n i : Nat} {l : List UInt8} (h : (headFrom 4 0 l i).2.2 = false) : refF (n + 1) i l = [] := by
  rw [refF, if_neg (by rw [h]; simp)]
theorem refF_end {n i : Nat} {l : List UInt8} (h : (headFrom 4 0 l i).2.2 = true) (hd : l.drop ((headFrom 4 0 l i).2.1 - i) = []) : refF (n + 1) i l = [((i : Int), (headFrom 4 0 l i).1)] := by
  rw [refF, if_pos h, hd]
theorem refF_stop {n i : Nat} {l r : List UInt8} {c : UInt8} (h : (headFrom 4 0 l i).2.2 = true) (hd : l.drop ((headFrom 4 0 l i).2.1 - i) = c :: r) (hc : ¬ c = 32) : refF (n + 1) i l = [] := by
  rw [refF, if_pos h, hd]
  simp only
  rw [if_neg hc]
theorem refF_go {n i : Nat} {l r : List UInt8} {c : UInt8} (h : (headFrom 4 0 l i).2.2 = true) (hd : l.drop ((headFrom 4 0 l i).2.1 - i) = c :: r) (hc : c = 32) : refF (n + 1) i l = ((i : Int), (headFrom 4 0 l i).1) :: refF n ((headFrom 4 0 l i).2.1 + 1) r := by
  rw [refF, if_pos h, hd]
  simp only
  rw [if_pos hc]

theorem head_ge (k : Nat) (n : Int) (l : List UInt8) (i : Nat) : i ≤ (headFrom k n l i).2.1 := by
  rw [headFrom_shift]; simp only; omega

set_option maxRecDepth 100000 in
set_option maxHeartbeats 3200000 in
theorem refEach_any (s : ByteArray) (hs : s.size ≤ 1000000) (w : World) :
    Calls Tryd.prog 19 #[.string s] w fun e w' => ∃ v, e = .returned v ∧ w'.ownsRow w.heap.size 49 2 v (refF (s.size + 1) 0 s.data.toList).length (manyCells (refF (s.size + 1) 0 s.data.toList)) ∧ Below w.heap.size w w' := by
  obtain ⟨i0, hi, hz0, hz1, hz2⟩ := info_parts infoOne
  have HI := Lib.hid (And.intro hi (And.intro hz0 (And.intro hz1 hz2)))
  clear hi hz0 hz1 hz2
  go_enter Tryd.func19, Tryd.ntmps19
  go_wp2
  go_loopw [3, 4] (fun v a wr => ∃ (n at_ : Nat) (done : List (Int × Int)), a = .int .i64 at_ ∧ at_ ≤ s.size ∧ s.size - at_ + 1 ≤ n ∧ done.length ≤ at_ ∧ Hid (refF (s.size + 1) 0 s.data.toList = done ++ refF n at_ (s.data.toList.drop at_)) ∧
      Hid (wr.ownsRow w.heap.size 49 2 v done.length (manyCells done)) ∧ Hid (Below w.heap.size w wr)) (fun _ a _ => s.size + 1 - (intOf a).toNat)
  case atStart => exact ⟨s.size + 1, 0, [], rfl, by omega, by omega, by simp, by simp [Hid], World.ownsRow_nil _ _ _ _, Below.refl _ _⟩
  case round =>
    obtain ⟨n, at_, done, rfl, hat, hn, hdl, HL, HO, HB⟩ := hrel
    obtain ⟨n, rfl⟩ : ∃ m, n = m + 1 := ⟨n - 1, by omega⟩
    have hL := HL.out
    have hge := head_ge 4 0 (s.data.toList.drop at_) at_
    have hle := head_le 4 0 (s.data.toList.drop at_) at_
    have hlen : (s.data.toList.drop at_).length = s.size - at_ := by simp
    rw [hlen] at hle
    have hh : Calls Tryd.prog 30 #[.string s, .int .i64 at_] wr fun e w' => e = .returned (.tuple #[.int .u32 (headFrom 4 0 (s.data.toList.drop at_) at_).1, .int .i64 ((headFrom 4 0 (s.data.toList.drop at_) at_).2.1 : Nat), .bool (headFrom 4 0 (s.data.toList.drop at_) at_).2.2]) ∧ wr = w' := head_any s at_ hat (by unfold maxLen; omega) wr
    have hnone := refF_none (n := n) (i := at_) (l := s.data.toList.drop at_)
    have hend := refF_end (n := n) (i := at_) (l := s.data.toList.drop at_)
    have hstop := fun r c => refF_stop (n := n) (i := at_) (l := s.data.toList.drop at_) (r := r) (c := c)
    have hgo := fun r c => refF_go (n := n) (i := at_) (l := s.data.toList.drop at_) (r := r) (c := c)
    rw [List.drop_drop] at hend
    simp only [List.drop_drop] at hstop hgo
    generalize headFrom 4 0 (s.data.toList.drop at_) at_ = x at *
    obtain ⟨a, e, is⟩ := x
    simp only at hge hle hh hnone hend hstop hgo
    rw [show at_ + (e - at_) = e from by omega] at hend
    simp only [show at_ + (e - at_) = e from by omega] at hstop hgo
    have HH := Lib.hid hh
    clear hh hlen
    cases is with
    | false =>
      rw [hnone rfl, List.append_nil] at hL
      have HL2 := Lib.hid hL
      clear hL HL hnone hend hstop hgo
      go_wp2_with fail
      refine HH.out.mono ?_
      rintro e w' ⟨rfl, rfl⟩
      go_wp2
      go_ret
      exact ⟨_, rfl, by rw [HL2.out]; exact HO.out, HB.out⟩
    | true =>
      by_cases hlt : e < s.size
      · have hdrop : s.data.toList.drop e = (s[e]'hlt) :: s.data.toList.drop (e + 1) := by
          rw [List.drop_eq_getElem_cons (by simpa using hlt)]
          rfl
        have hlt' : (e : Int) < (s.size : Int) := by omega
        by_cases hc : (s[e]'hlt) = 32
        · rw [hgo _ _ rfl hdrop hc] at hL
          have hL2 : refF (s.size + 1) 0 s.data.toList = (done ++ [((at_ : Int), a)]) ++ refF n (e + 1) (s.data.toList.drop (e + 1)) := by
            rw [hL]; simp
          have HL2 := Lib.hid hL2
          have hcb : (((s[e]'hlt).toNat : Int) != 32) = false := by rw [hc]; rfl
          have hce : (((s[e]'hlt).toNat : Int) == 32) = true := by rw [hc]; rfl
          have hes : ((e : Int) == (s.size : Int)) = false := by simp; omega
          clear hL hL2 HL hnone hend hstop hgo hdrop hc
          go_wp2_with fail
          refine HH.out.mono ?_
          rintro e' w' ⟨rfl, rfl⟩
          go_wp2_with (at_builtin; refine wpList_append_own _ rfl _ _ 43 rfl w.heap.size 49 i0 (.agg #[.int .i64 0, .int .u32 0]) 2 16 Tryd.underlying43 HI.out.1 HI.out.2.1 HI.out.2.2.1 HI.out.2.2.2 rfl (by decide) _ _ _ rfl (HO.out.alloc _) ⟨wr.heap.size, 0, none⟩ 1 1 (oneCells (at_, a)) rfl rfl ?c1 ?c2 ?c3 ?c4 ?c5 ?_)
          case c1 =>
            intro j u hj
            match j, hj with
            | 0, hj => simp [oneCells] at hj; subst hj; simp [Addr.add]
            | 1, hj => simp [oneCells] at hj; subst hj; simp [Addr.add]
          case c2 => intro u hu; simp [oneCells] at hu; rcases hu with rfl | rfl <;> rfl
          case c3 => unfold maxLen; omega
          case c4 => omega
          case c5 => have := HB.out.size; simp; omega
          intro v' w1 hown' hgrow _
          have hb1 : Below w.heap.size w w1 := (HB.out.alloc HB.out.size _).grown hgrow (by have := HB.out.size; simp; omega) (fun k hk => (HO.out.lt k hk).1)
          rw [← manyCells_snoc] at hown'
          have hown2 : w1.ownsRow w.heap.size 49 2 v' (done ++ [((at_ : Int), a)]).length (manyCells (done ++ [((at_ : Int), a)])) := by rw [List.length_append]; exact hown'
          have HO1 := Lib.hid hown2
          have HB1 := Lib.hid hb1
          clear hown' hown2 hgrow hb1 HO HB
          go_wp2
          go_roundw
          case rel => exact ⟨n, e + 1, done ++ [((at_ : Int), a)], by go_num, by omega, by omega, by rw [List.length_append]; simp; omega, HL2, HO1, HB1⟩
          case measure => simp [intOf]; omega
        · rw [hstop _ _ rfl hdrop hc, List.append_nil] at hL
          have HL2 := Lib.hid hL
          have hcn : ¬ ((s[e]'hlt).toNat : Int) = 32 := fun x => hc (UInt8.toNat_inj.1 (by show (s[e]'hlt).toNat = 32; omega))
          have hcb : (((s[e]'hlt).toNat : Int) != 32) = true := by simpa using hcn
          have hce : (((s[e]'hlt).toNat : Int) == 32) = false := by simpa using hcn
          clear hL HL hnone hend hstop hgo hdrop hc hcn
          go_wp2_with fail
          refine HH.out.mono ?_
          rintro e' w' ⟨rfl, rfl⟩
          go_wp2
          go_ret
          exact ⟨_, rfl, by rw [HL2.out]; exact HO.out, HB.out⟩
      · have hes0 : e = s.size := by omega
        subst hes0
        have hdrop : s.data.toList.drop s.size = [] := List.drop_of_length_le (by simp)
        rw [hend rfl hdrop] at hL
        have HL2 := Lib.hid hL
        have hes : ((s.size : Int) == (s.size : Int)) = true := by simp
        clear hL HL hnone hend hstop hgo hdrop
        go_wp2_with fail
        refine HH.out.mono ?_
        rintro e' w' ⟨rfl, rfl⟩
        go_wp2_with (at_builtin; refine wpList_append_own _ rfl _ _ 43 rfl w.heap.size 49 i0 (.agg #[.int .i64 0, .int .u32 0]) 2 16 Tryd.underlying43 HI.out.1 HI.out.2.1 HI.out.2.2.1 HI.out.2.2.2 rfl (by decide) _ _ _ rfl (HO.out.alloc _) ⟨wr.heap.size, 0, none⟩ 1 1 (oneCells (at_, a)) rfl rfl ?d1 ?d2 ?d3 ?d4 ?d5 ?_)
        case d1 =>
          intro j u hj
          match j, hj with
          | 0, hj => simp [oneCells] at hj; subst hj; simp [Addr.add]
          | 1, hj => simp [oneCells] at hj; subst hj; simp [Addr.add]
        case d2 => intro u hu; simp [oneCells] at hu; rcases hu with rfl | rfl <;> rfl
        case d3 => unfold maxLen; omega
        case d4 => omega
        case d5 => have := HB.out.size; simp; omega
        intro v' w1 hown' hgrow _
        have hb1 : Below w.heap.size w w1 := (HB.out.alloc HB.out.size _).grown hgrow (by have := HB.out.size; simp; omega) (fun k hk => (HO.out.lt k hk).1)
        rw [← manyCells_snoc] at hown'
        have hown2 : w1.ownsRow w.heap.size 49 2 v' (done ++ [((at_ : Int), a)]).length (manyCells (done ++ [((at_ : Int), a)])) := by rw [List.length_append]; exact hown'
        have HO1 := Lib.hid hown2
        have HB1 := Lib.hid hb1
        clear hown' hown2 hgrow hb1 HO HB
        go_wp2
        go_ret
        exact ⟨_, rfl, by rw [HL2.out]; exact HO1.out, HB1.out⟩
end Go.Proofs.YtkkeimcicpkmbaaDoor
