/- Layer 6's program: what From makes of a tree: a list of what tells. -/
import Derived.Test.YtghkacciihocdaaI21
namespace Go.Proofs.Ytghkacciihocdaa
open Go Go.RowKit Go.Shelf Go.Sort
attribute [local go_sem] Oper.semAt_some
namespace T6

/-- A node as it was. -/
structure Snap where
  k : Key
  h : Bool
  v : Int
  pl : Option Addr
  pr : Option Addr
abbrev Snap.agg (s : Snap) : Value := .agg #[.int .u32 (kx s.k), .int .i64 (kn s.k), .bool s.h, .int .i64 s.v, .pointer s.pl, .pointer s.pr]
def tellV (s : Snap) : Value := .func (.func 39) #[s.agg] #[]
def tells (l : List Snap) : List Value := l.map tellV
def snapR (s : Snap) : Key × Int := (s.k, s.v)
theorem tells_one {l : List Snap} : ∀ u ∈ tells l, u.oneCell' = true := fun u hu => by
  obtain ⟨s, _, rfl⟩ := List.mem_map.1 hu
  rfl
theorem tells_app (a b : List Snap) : tells (a ++ b) = tells a ++ tells b := by simp [tells]
theorem lies_box (w : World) (T : TypeId) (u : Value) : LiesS (w.alloc (.cells #[u] T)) (some ⟨w.heap.size, 0, none⟩) [u] := fun _ => by
  refine ⟨w.heap.size, 0, rfl, by simp, fun j hj => ?_⟩
  obtain rfl : j = 0 := by simpa using hj
  exact (Blk.new w T #[u]).cell (0 + 0)
/-- Is a prefix no earlier than another? -/
def fromB (x n : Int) (k : Key) : Bool := decide (0 ≤ ordF (kx k) (kn k) x n)
def selF (x n : Int) (k : Key) (h : Bool) (v : Int) (pl pr : Option Addr) : List Snap := if h && fromB x n k then [⟨k, h, v, pl, pr⟩] else []
set_option maxRecDepth 100000 in
set_option maxHeartbeats 1600000 in
theorem from1_any (k : Key) (h : Bool) (v : Int) (pl pr : Option Addr) (x n : Int) (s bp : Nat) (A0 A1 : Option Addr) (c0 c1 : Nat) (xs ys : List Snap) (hlen : xs.length + ys.length ≤ 2000) (w : World) (hb : Blk w s 84 #[.slice A0 xs.length c0, .slice A1 ys.length c1]) (hx : LiesS w A0 (tells xs)) (hy : LiesS w A1 (tells ys))
    (p0 : w.cell? ⟨bp, 0, none⟩ = some (.int .u32 x)) (p1 : w.cell? ⟨bp, 1, none⟩ = some (.int .i64 n)) :
    Calls Try.prog 48 #[(Snap.mk k h v pl pr).agg, .slice (some ⟨s, 0, none⟩) 2 2, .pointer (some ⟨bp, 0, none⟩)] w fun e w' => ∃ u, e = .returned u ∧ w'.ownsRow w.heap.size 96 1 u (selF x n k h v pl pr ++ (xs ++ ys)).length (tells (selF x n k h v pl pr ++ (xs ++ ys))) ∧ Below w.heap.size w w' := by
  have hb0 := box_below w (.cells #[.int .u32 (kx k), .int .i64 (kn k), .bool h, .int .i64 v, .pointer pl, .pointer pr] 81)
  have hnb := Blk.new w 81 #[.int .u32 (kx k), .int .i64 (kn k), .bool h, .int .i64 v, .pointer pl, .pointer pr]
  have n0 := hnb.cell 0
  have n1 := hnb.cell 1
  have n2 := hnb.cell 2
  simp only [List.getElem?_toArray, List.getElem?_cons_zero, List.getElem?_cons_succ] at n0 n1 n2
  have q0 := (hb0.cell (p := ⟨bp, 0, none⟩) (World.block_lt_of_cell? _ _ p0)).trans p0
  have q1 := (hb0.cell (p := ⟨bp, 1, none⟩) (World.block_lt_of_cell? _ _ p1)).trans p1
  obtain ⟨i0, hi, hz0, hz1, hz2⟩ := info_parts infoTell
  have HI := Lib.hid (And.intro hi (And.intro hz0 (And.intro hz1 hz2)))
  have HNB := Lib.hid hnb
  have HB0 := Lib.hid hb0
  have HX := Lib.hid hx
  have HY := Lib.hid hy
  have HB := Lib.hid hb
  have HCC := Lib.hid (fun (W : World) (hW : Below w.heap.size w W) => concat_any s A0 A1 c0 c1 (tells xs) (tells ys) tells_one tells_one (by simpa [tells] using hlen) W (by simpa [tells] using HB.out.below hW HB.out.lt) (hx.below hW) (hy.below hW))
  have HO := Lib.hid (fun W => order_any (kx k) (kn k) x n W)
  have htl : (tells xs).length + (tells ys).length = xs.length + ys.length := by simp [tells]
  have HTL := Lib.hid htl
  clear hb0 hnb hx hy hb hi hz0 hz1 hz2 p0 p1 htl
  cases h
  · have hsel : selF x n k false v pl pr = [] := by unfold selF; simp
    rw [hsel]
    clear hsel
    go_enter Try.func48, Try.ntmps48
    go_wp2_with fail
    generalize (w.alloc (.cells #[.int .u32 (kx k), .int .i64 (kn k), .bool false, .int .i64 v, .pointer pl, .pointer pr] 81)) = W0 at *
    clear n0 n1 n2 q0 q1
    refine (HCC.out _ HB0.out).mono ?_
    rintro e w2 ⟨u, rfl, ho, hb2⟩
    have hbw2 := HB0.out.trans (hb2.mono HB0.out.size)
    rw [HTL.out] at ho
    obtain ⟨A2, c2, rfl⟩ := own_slice ho
    have HL2 := Lib.hid (lies_own ho)
    have HB2 := Lib.hid hbw2
    clear ho hb2 hbw2
    go_wp2_with (at_builtin; refine wpl_app_row rfl _ _ rfl w.heap.size Try.underlying84 HI.out.1 HI.out.2.1 HI.out.2.2.1 HI.out.2.2.2 rfl (by decide) rfl (World.ownsRow_nil _ _ _ _) rfl HL2.out (by simp [tells]) (by intro u hu; rcases List.mem_append.1 hu with h | h; exact tells_one u h; exact tells_one u h) (by omega) (by decide) HB2.out.size (fun v3 w3 ho3 hg3 => ?_))
    have HB3 := Lib.hid (HB2.out.grown hg3 HB2.out.size (fun k e => by have e' : Value.ownBlock (.slice none 0 0) = some k := e; simp [Value.ownBlock] at e'))
    have HO3 := Lib.hid ho3
    clear ho3 hg3
    go_wp2_with fail
    go_ret
    refine ⟨_, rfl, ?_, HB3.out⟩
    have := HO3.out
    simpa [tells_app] using this
  · by_cases hf : 0 ≤ ordF (kx k) (kn k) x n
    · have hsel : selF x n k true v pl pr = [⟨k, true, v, pl, pr⟩] := by unfold selF fromB; simp [hf]
      rw [hsel]
      clear hsel
      generalize ordF (kx k) (kn k) x n = od at *
      go_enter Try.func48, Try.ntmps48
      go_wp2_with fail
      generalize (w.alloc (.cells #[.int .u32 (kx k), .int .i64 (kn k), .bool true, .int .i64 v, .pointer pl, .pointer pr] 81)) = W0 at *
      refine (HO.out _).mono ?_
      rintro e w1 ⟨rfl, hb1⟩
      have HB1 := Lib.hid (HB0.out.trans (hb1.mono HB0.out.size))
      have hnb1 := HNB.out.below hb1 HNB.out.lt
      have m0 := hnb1.cell 0
      have m1 := hnb1.cell 1
      have m2 := hnb1.cell 2
      have m3 := hnb1.cell 3
      have m4 := hnb1.cell 4
      have m5 := hnb1.cell 5
      simp only [List.getElem?_toArray, List.getElem?_cons_zero, List.getElem?_cons_succ] at m0 m1 m2 m3 m4 m5
      clear hb1 hnb1 n0 n1 n2 q0 q1
      go_wp2_with (at_builtin; refine wpl_app_row rfl _ _ rfl w.heap.size Try.underlying84 HI.out.1 HI.out.2.1 HI.out.2.2.1 HI.out.2.2.2 rfl (by decide) rfl (World.ownsRow_nil _ _ _ _) rfl (lies_box w1 96 (tellV ⟨k, true, v, pl, pr⟩)) (by simp) (by intro u hu; simp at hu; subst hu; rfl) (by omega) (by decide) (by have := HB1.out.size; simp; omega) (fun vA wA hoA hgA => ?_))
      have hbA : Below w.heap.size w wA := (HB1.out.trans ((box_below w1 (.cells #[tellV ⟨k, true, v, pl, pr⟩] 96)).mono HB1.out.size)).grown hgA (by have := HB1.out.size; simp; omega) (fun k e => by have e' : Value.ownBlock (.slice none 0 0) = some k := e; simp [Value.ownBlock] at e')
      have HOA := Lib.hid (show wA.ownsRow w.heap.size 96 1 vA 1 (tells [⟨k, true, v, pl, pr⟩]) by simpa [tells] using hoA)
      have HBA := Lib.hid hbA
      clear hbA hoA hgA m0 m1 m2 m3 m4 m5
      go_wp2_with fail
      refine (HCC.out _ HBA.out).mono ?_
      rintro e w2 ⟨u, rfl, ho, hb2⟩
      have hbw2 := HBA.out.trans (hb2.mono HBA.out.size)
      rw [HTL.out] at ho
      obtain ⟨A2, c2, rfl⟩ := own_slice ho
      have HL2 := Lib.hid (lies_own ho)
      have HB2 := Lib.hid hbw2
      have HOX := Lib.hid (own_past HOA.out hb2)
      clear ho hb2 hbw2
      go_wp2_with (at_builtin; refine wpl_app_row rfl _ _ rfl w.heap.size Try.underlying84 HI.out.1 HI.out.2.1 HI.out.2.2.1 HI.out.2.2.2 rfl (by decide) rfl HOX.out rfl HL2.out (by simp [tells]) (by intro u hu; rcases List.mem_append.1 hu with h | h; exact tells_one u h; exact tells_one u h) (by omega) (by decide) HB2.out.size (fun v3 w3 ho3 hg3 => ?_))
      have HB3 := Lib.hid (HB2.out.grown hg3 HB2.out.size (fun k e => (HOX.out.lt k e).1))
      have HO3 := Lib.hid ho3
      clear ho3 hg3
      go_wp2_with fail
      go_ret
      refine ⟨_, rfl, ?_, HB3.out⟩
      have := HO3.out
      simpa [tells, Nat.add_comm, Nat.add_assoc] using this
    · have hsel : selF x n k true v pl pr = [] := by unfold selF fromB; simp [hf]
      have hneg : ordF (kx k) (kn k) x n < 0 := by omega
      rw [hsel]
      clear hsel hf
      generalize ordF (kx k) (kn k) x n = od at *
      go_enter Try.func48, Try.ntmps48
      go_wp2_with fail
      generalize (w.alloc (.cells #[.int .u32 (kx k), .int .i64 (kn k), .bool true, .int .i64 v, .pointer pl, .pointer pr] 81)) = W0 at *
      refine (HO.out _).mono ?_
      rintro e w1 ⟨rfl, hb1⟩
      have HB1 := Lib.hid (HB0.out.trans (hb1.mono HB0.out.size))
      clear hb1 n0 n1 n2 q0 q1
      go_wp2_with fail
      refine (HCC.out _ HB1.out).mono ?_
      rintro e w2 ⟨u, rfl, ho, hb2⟩
      have hbw2 := HB1.out.trans (hb2.mono HB1.out.size)
      rw [HTL.out] at ho
      obtain ⟨A2, c2, rfl⟩ := own_slice ho
      have HL2 := Lib.hid (lies_own ho)
      have HB2 := Lib.hid hbw2
      clear ho hb2 hbw2
      go_wp2_with (at_builtin; refine wpl_app_row rfl _ _ rfl w.heap.size Try.underlying84 HI.out.1 HI.out.2.1 HI.out.2.2.1 HI.out.2.2.2 rfl (by decide) rfl (World.ownsRow_nil _ _ _ _) rfl HL2.out (by simp [tells]) (by intro u hu; rcases List.mem_append.1 hu with h | h; exact tells_one u h; exact tells_one u h) (by omega) (by decide) HB2.out.size (fun v3 w3 ho3 hg3 => ?_))
      have HB3 := Lib.hid (HB2.out.grown hg3 HB2.out.size (fun k e => by have e' : Value.ownBlock (.slice none 0 0) = some k := e; simp [Value.ownBlock] at e'))
      have HO3 := Lib.hid ho3
      clear ho3 hg3
      go_wp2_with fail
      go_ret
      refine ⟨_, rfl, ?_, HB3.out⟩
      have := HO3.out
      simpa [tells_app] using this
end T6
end Go.Proofs.Ytghkacciihocdaa
