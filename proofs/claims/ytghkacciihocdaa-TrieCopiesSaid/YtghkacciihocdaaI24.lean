/- Layer 6's program: told, From, Above. -/
import Derived.Test.YtghkacciihocdaaI23
namespace Go.Proofs.Ytghkacciihocdaa
open Go Go.RowKit Go.Shelf Go.Sort
attribute [local go_sem] Oper.semAt_some
namespace T6

/-- A value that goes over what tells. -/
def SeqAt (W : World) (v : Value) (L : List Snap) : Prop := ∃ bs A c, v = .func (.func 65) #[] #[.pointer (some ⟨bs, 0, none⟩)] ∧ Blk W bs 84 #[.slice A L.length c] ∧ LiesS W A (tells L)
theorem SeqAt.below {W W' : World} {v : Value} {L : List Snap} (h : SeqAt W v L) (hb : Below W.heap.size W W') : SeqAt W' v L := by
  obtain ⟨bs, A, c, h1, h2, h3⟩ := h
  exact ⟨bs, A, c, h1, h2.below hb h2.lt, h3.below hb⟩
theorem told_any (A : Option Addr) (c : Nat) (L : List Snap) (w : World) (hl : LiesS w A (tells L)) : Calls Try.prog 40 #[.slice A L.length c] w fun e w' => ∃ v, e = .returned v ∧ SeqAt w' v L ∧ Below w.heap.size w w' := by
  have HB := Lib.hid (box_below w (.cells #[.slice A L.length c] 84))
  have HL := Lib.hid hl
  clear hl
  go_enter Try.func40, Try.ntmps40
  go_wp2_with fail
  go_ret
  exact ⟨_, rfl, ⟨_, _, _, rfl, Blk.new _ _ _, HL.out.below HB.out⟩, HB.out⟩
theorem foldTell_top (bp : Nat) (x n : Int) (t : Tr) (hk : t.keys.length ≤ 2000) (w : World) (hl : Lies w t) (hp0 : w.cell? ⟨bp, 0, none⟩ = some (.int .u32 x)) (hp1 : w.cell? ⟨bp, 1, none⟩ = some (.int .i64 n)) :
    Calls Try.prog 46 #[.pointer (ptr t), .func (.func 48) #[] #[.pointer (some ⟨bp, 0, none⟩)]] w fun e w' => ∃ A c, e = .returned (.slice A (snaps x n t).length c) ∧ LiesS w' A (tells (snaps x n t)) ∧ Below w.heap.size w w' := by
  have hb2 := two_below w (.cells #[.func (.func 48) #[] #[.pointer (some ⟨bp, 0, none⟩)]] 97) (.cells #[.func (.func 68) #[] #[.pointer (some ⟨w.heap.size, 0, none⟩), .pointer (some ⟨w.heap.size + 1, 0, none⟩)]] 114)
  have hbo := (Blk.new w 97 #[.func (.func 48) #[] #[.pointer (some ⟨bp, 0, none⟩)]]).alloc (.cells #[.func (.func 68) #[] #[.pointer (some ⟨w.heap.size, 0, none⟩), .pointer (some ⟨w.heap.size + 1, 0, none⟩)]] 114)
  have hba := Blk.new (w.alloc (.cells #[.func (.func 48) #[] #[.pointer (some ⟨bp, 0, none⟩)]] 97)) 114 #[.func (.func 68) #[] #[.pointer (some ⟨w.heap.size, 0, none⟩), .pointer (some ⟨w.heap.size + 1, 0, none⟩)]]
  have hs1 : (w.alloc (.cells #[.func (.func 48) #[] #[.pointer (some ⟨bp, 0, none⟩)]] 97)).heap.size = w.heap.size + 1 := by simp
  rw [hs1] at hba
  have HX := Lib.hid (And.intro hb2 (And.intro hbo hba))
  have HL := Lib.hid hl
  have HP := Lib.hid (And.intro hp0 hp1)
  clear hb2 hbo hba hl hs1 hp0 hp1
  go_enter Try.func46, Try.ntmps46
  go_wp2_with fail
  refine (foldTell_any w.heap.size (w.heap.size + 1) bp x n t hk _ (HL.out.keep fun c hc => HX.out.1.block c (HL.out.lt c hc)) (HX.out.2.1.cell 0) (HX.out.2.2.cell 0)
    ((HX.out.1.cell (p := ⟨bp, 0, none⟩) (World.block_lt_of_cell? _ _ HP.out.1)).trans HP.out.1) ((HX.out.1.cell (p := ⟨bp, 1, none⟩) (World.block_lt_of_cell? _ _ HP.out.2)).trans HP.out.2)).mono ?_
  rintro e w1 ⟨u, rfl, ho, hb1⟩
  obtain ⟨A, c, rfl⟩ := own_slice ho
  have HB1 := Lib.hid (HX.out.1.trans (hb1.mono HX.out.1.size))
  have HO := Lib.hid (lies_own ho)
  clear hb1 ho
  go_wp2_with fail
  go_ret
  exact ⟨_, _, rfl, HO.out, HB1.out⟩
theorem from_any (t : Tr) (x n : Int) (w : World) (q : Option Addr) (hq : (q = none ∧ t = .nil) ∨ ∃ g, q = some ⟨g, 0, none⟩ ∧ Trie w g t) (hk : t.keys.length ≤ 2000) :
    Calls Try.prog 23 #[.pointer q, pfx x n] w fun e w' => ∃ v, e = .returned v ∧ SeqAt w' v (snaps x n t) ∧ Below w.heap.size w w' := by
  have hb0 := box_below w (.cells #[.int .u32 x, .int .i64 n] 34)
  have hpb := Blk.new w 34 #[.int .u32 x, .int .i64 n]
  have HF : Hid (Calls Try.prog 47 #[.pointer q] (w.alloc (.cells #[.int .u32 x, .int .i64 n] 34)) fun e w' => e = .returned (.pointer (ptr t)) ∧ (w.alloc (.cells #[.int .u32 x, .int .i64 n] 34)) = w') := by
    rcases hq with ⟨rfl, rfl⟩ | ⟨g, rfl, hT⟩
    · exact first0_any _
    · exact first_any _ g _ _ (hT.below hb0).own
  have HL : Hid (Lies (w.alloc (.cells #[.int .u32 x, .int .i64 n] 34)) t) := by
    rcases hq with ⟨rfl, rfl⟩ | ⟨g, rfl, hT⟩
    · exact trivial
    · exact (hT.below hb0).lies
  have HPB := Lib.hid hpb
  have HB0 := Lib.hid hb0
  clear hpb hb0 hq
  go_enter Try.func23, Try.ntmps23
  go_wp2_with fail
  generalize (w.alloc (.cells #[.int .u32 x, .int .i64 n] 34)) = W0 at *
  refine HF.out.mono ?_
  rintro e w1 ⟨rfl, rfl⟩
  go_wp2_with fail
  refine (foldTell_top w.heap.size x n t hk _ HL.out (HPB.out.cell 0) (HPB.out.cell 1)).mono ?_
  rintro e w2 ⟨A, c, rfl, hl2, hb2⟩
  have HL2 := Lib.hid hl2
  have HB2 := Lib.hid (HB0.out.trans (hb2.mono HB0.out.size))
  clear hl2 hb2
  go_wp2_with fail
  refine (told_any A c (snaps x n t) _ HL2.out).mono ?_
  rintro e w3 ⟨v, rfl, hs, hb3⟩
  have HS := Lib.hid hs
  have HB3 := Lib.hid (HB2.out.trans (hb3.mono HB2.out.size))
  clear hs hb3
  go_wp2_with fail
  go_ret
  exact ⟨_, rfl, HS.out, HB3.out⟩
def snapT : Tr → Snap
  | .nil => ⟨[], false, 0, none, none⟩
  | .node _ k h v l r => ⟨k, h, v, ptr l, ptr r⟩
set_option maxRecDepth 100000 in
set_option maxHeartbeats 1600000 in
theorem above6_any (t : Tr) (p : Key) (hp : p.length ≤ 32) (w : World) (g : Nat) (hT : Trie w g t) :
    Calls Try.prog 18 #[.pointer (some ⟨g, 0, none⟩), pfx (kx p) (kn p)] w fun e w' => ∃ v, e = .returned v ∧ SeqAt w' v ((t.way p).map snapT) ∧ Below w.heap.size w w' := by
  have hb0 := box_below w (.cells #[.int .u32 (kx p), .int .i64 (kn p)] 34)
  have hpb := Blk.new w 34 #[.int .u32 (kx p), .int .i64 (kn p)]
  have HT := Lib.hid (hT.below hb0)
  have HB0 := Lib.hid hb0
  have d0 := hpb.cell 0
  have d1 := hpb.cell 1
  simp only [List.getElem?_toArray, List.getElem?_cons_zero, List.getElem?_cons_succ] at d0 d1
  have hway := fun W (hW : Lies W t) => way_mem (p := p) hW hT.wf
  have HW := Lib.hid hway
  have hlen : (t.way p).length ≤ 33 := by have := way_len t p hT.wf; have := depth_most hT.wf; omega
  have HA := Lib.hid (fun W hW => above_any t p hp W g hW)
  obtain ⟨i0, hi, hz0, hz1, hz2⟩ := info_parts infoTell
  have HI := Lib.hid (And.intro hi (And.intro hz0 (And.intro hz1 hz2)))
  clear hT hb0 hpb hway hi hz0 hz1 hz2
  generalize t.way p = L at *
  go_enter Try.func18, Try.ntmps18
  go_wp2_with fail
  generalize (w.alloc (.cells #[.int .u32 (kx p), .int .i64 (kn p)] 34)) = W0 at *
  refine (HA.out _ HT.out).mono ?_
  rintro e w1 ⟨⟨A, c, rfl, hL⟩, hb1⟩
  have hT1 := HT.out.below hb1
  have HB1 := Lib.hid (HB0.out.trans (hb1.mono HB0.out.size))
  have HE := Lib.hid (HW.out w1 hT1.lies)
  have HL := Lib.hid hL
  clear hT1 hb1 hL HB0 HT HW HA d0 d1
  go_wp2_with fail
  go_loopw [5, 12] (fun sl i wr => ∃ k : Nat, k ≤ L.length ∧ i = .int .i64 k ∧ Hid (wr.ownsRow w1.heap.size 96 1 sl k (tells ((L.take k).map snapT))) ∧ Hid (Below w1.heap.size w1 wr)) (fun _ i _ => L.length - (intOf i).toNat)
  case atStart => exact ⟨0, by omega, rfl, Lib.hid (World.ownsRow_nil _ _ _ _), Lib.hid (Below.refl _ _)⟩
  case round =>
    obtain ⟨k, hk, rfl, HOr, HBr⟩ := hrel
    by_cases hlt : k < L.length
    · obtain ⟨bn, kk, v, l, r, hs, hbn, hkk, hkp⟩ := HE.out _ (List.getElem_mem hlt)
      obtain ⟨b, o, rfl, hlb, hc⟩ := HL.out (by simp [ptrs]; omega)
      have hck := (HBr.out.cell (p := ⟨b, o + k, none⟩) hlb).trans (hc k (by simpa [ptrs] using hlt))
      rw [ptrs_at hlt, hs] at hck
      simp only [ptr] at hck
      have hbr := hbn.below HBr.out hbn.lt
      obtain ⟨c0, c1, c2, c3, c4, c5⟩ := cellN hbr
      have hlti : (k : Int) < (L.length : Int) := by omega
      have hnext : (L.take (k + 1)).map snapT = (L.take k).map snapT ++ [⟨kk, true, v, ptr l, ptr r⟩] := by
        rw [List.take_succ_eq_append_getElem hlt, List.map_append, hs]; rfl
      have HNX := Lib.hid hnext
      have hzr := HBr.out.size
      clear hbn hc hbr hnext
      go_wp2_with (at_builtin; refine wpl_app_row rfl _ _ rfl w1.heap.size Try.underlying84 HI.out.1 HI.out.2.1 HI.out.2.2.1 HI.out.2.2.2 rfl (by decide) rfl (own_past HOr.out (box_below _ _)) rfl (lies_box wr 96 (tellV ⟨kk, true, v, ptr l, ptr r⟩)) (by simp) (by intro u hu; simp at hu; subst hu; rfl) (by omega) (by decide) (by simp; omega) (fun vA wA hoA hgA => ?_))
      have hbA : Below w1.heap.size w1 wA := (HBr.out.trans ((box_below wr (.cells #[tellV ⟨kk, true, v, ptr l, ptr r⟩] 96)).mono HBr.out.size)).grown hgA (by simp; omega) (fun k e => (HOr.out.lt k e).1)
      have HOA := Lib.hid (show wA.ownsRow w1.heap.size 96 1 vA (k + 1) (tells ((L.take (k + 1)).map snapT)) by rw [HNX.out, tells_app]; exact hoA)
      have HBA := Lib.hid hbA
      clear hbA hoA hgA c0 c1 c2 c3 c4 c5 hck
      go_wp2_with fail
      go_roundw
      case rel => exact ⟨k + 1, by omega, by go_num, HOA, HBA⟩
      case measure => simp [intOf]; omega
    · obtain rfl : k = L.length := by omega
      obtain ⟨A2, c2, rfl⟩ := own_slice HOr.out
      have hl2 := lies_own HOr.out
      rw [List.take_length] at hl2
      have HL2 := Lib.hid hl2
      have HT := Lib.hid (told_any A2 c2 (L.map snapT) wr hl2)
      rw [List.length_map] at HT
      clear hl2
      go_wp2_with fail
      refine HT.out.mono ?_
      rintro e w3 ⟨v, rfl, hs, hb3⟩
      have HS := Lib.hid hs
      have HB3 := Lib.hid (HB1.out.trans ((HBr.out.trans (hb3.mono HBr.out.size)).mono HB1.out.size))
      clear hs hb3
      go_wp2_with fail
      go_ret
      exact ⟨_, rfl, HS.out, HB3.out⟩
end T6
end Go.Proofs.Ytghkacciihocdaa
