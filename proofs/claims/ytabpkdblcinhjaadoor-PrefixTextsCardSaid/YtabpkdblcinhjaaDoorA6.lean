/- Contract of layer 1: Parse. -/
import Derived.Test.YtabpkdblcinhjaaDoorA5
namespace Go.Proofs.YtabpkdblcinhjaaDoor
open Go Go.RowKit

theorem Rd.step_big (s : Rd) (c : Int) (h : 58 ≤ c) : s.step c = none := by
  unfold Rd.step
  rw [if_neg (by omega), if_neg (by omega)]

def rd0 : Rd := ⟨0, 0, 0, 0, 0, 0, 0⟩
theorem rd0_ok : rd0.Ok := by constructor <;> simp [rd0]

/-- What a reader comes to behind bytes, or the place at which it gives up. -/
def scan : List UInt8 → Rd → Nat → Except Nat Rd
  | [], s, _ => .ok s
  | c :: r, s, i => match s.step c.toNat with | none => .error i | some s' => scan r s' (i + 1)

def addrOf (s : Rd) : Int := s.q0 * 16777216 + s.q1 * 65536 + s.q2 * 256 + s.q3

/-- What Parse tells of bytes: the address, the place, the error's number. -/
def parsed (l : List UInt8) : Int × Int × Int :=
  match scan l rd0 0 with
  | .error i => (0, (i : Int), 110)
  | .ok s => if s.k = 3 ∧ 0 < s.d then (addrOf s.put, (l.length : Int), 0) else (0, (l.length : Int), 110)

def parseEnd (l : List UInt8) : Ending := .returned (.tuple #[.int .u32 (parsed l).1, .int .i64 (parsed l).2.1, .int .i64 (parsed l).2.2])

theorem scan_none {l : List UInt8} {s : Rd} {i : Nat} {c : UInt8} {r : List UInt8} (h : scan l rd0 0 = scan (c :: r) s i) (hs : s.step c.toNat = none) : parseEnd l = .returned (.tuple #[.int .u32 0, .int .i64 i, .int .i64 110]) := by
  simp only [scan, hs] at h
  simp [parseEnd, parsed, h]

theorem scan_some {l : List UInt8} {s s' : Rd} {i : Nat} {c : UInt8} {r : List UInt8} (h : scan l rd0 0 = scan (c :: r) s i) (hs : s.step c.toNat = some s') : scan l rd0 0 = scan r s' (i + 1) := by
  simp only [scan, hs] at h
  exact h

theorem scan_end_ok {l : List UInt8} {s : Rd} {i : Nat} (h : scan l rd0 0 = scan [] s i) (hs : s.k = 3 ∧ 0 < s.d) : parseEnd l = .returned (.tuple #[.int .u32 (addrOf s.put), .int .i64 l.length, .int .i64 0]) := by
  simp only [scan] at h
  simp [parseEnd, parsed, h, hs]
theorem scan_end_no {l : List UInt8} {s : Rd} {i : Nat} (h : scan l rd0 0 = scan [] s i) (hs : ¬ (s.k = 3 ∧ 0 < s.d)) : parseEnd l = .returned (.tuple #[.int .u32 0, .int .i64 l.length, .int .i64 110]) := by
  simp only [scan] at h
  simp only [parseEnd, parsed, h, if_neg hs]

/-- What holds of Parse's world: its two cells, its reader, its iterator; what was there is as it was. -/
structure PW (w : World) (B : Nat) (s : ByteArray) (pos : Nat) (st : Rd) (at_ : Int) (wr : World) : Prop where
  c3 : Blk wr B 3 #[.int .i64 0]
  c4 : Blk wr (B + 1) 27 #[.int .i64 0]
  rd : RS wr (B + 1 + 1) st at_
  it : wr.heap[B + 1 + 1 + 1]? = some (.stringIter s pos)
  bl : Below B w wr

section
variable {w wr w' : World} {B pos : Nat} {s : ByteArray} {st st' : Rd} {at_ : Int}
theorem PW.next (h : PW w B s pos st at_ wr) (pos' : Nat) : PW w B s pos' st at_ (wr.iterAt (B + 1 + 1 + 1) s pos') :=
  ⟨(Lib.iterAt_other _ _ _ _ _ (by omega)).trans h.c3, (Lib.iterAt_other _ _ _ _ _ (by omega)).trans h.c4, (Lib.iterAt_other _ _ _ _ _ (by omega)).trans h.rd, Lib.iterAt_heap _ _ _ _ _ h.it, Lib.below_iterAt h.bl (by omega) _ _⟩
theorem PW.place (h : PW w B s pos st at_ wr) (n : Int) : PW w B s pos st n (wr.setCell ⟨B + 1 + 1, 7, none⟩ (.int .i64 n)) :=
  ⟨Blk.far h.c3 (by simp; omega) _, Blk.far h.c4 (by simp) _, by have := Blk.set_ h.rd 7 (.int .i64 n); simpa [RS, RB, Blk] using this, (Below.heap_setCell _ _ _ _ (by simp)).trans h.it, h.bl.setCell (by simp; omega) _⟩
theorem PW.took (h : PW w B s pos st at_ wr) (hr : RS w' (B + 1 + 1) st' at_) (hg : wr.grownBy w' (some (B + 1 + 1))) (hB : B ≤ wr.heap.size) : PW w B s pos st' at_ w' :=
  ⟨Blk.grown h.c3 hg (by simp; omega), Blk.grown h.c4 hg (by simp), hr, (hg.block _ (Array.getElem?_eq_some_iff.1 h.it).1 (by simp)).trans h.it, h.bl.grown hg hB (fun k e => by cases e; omega)⟩
theorem PW.lost (h : PW w B s pos st at_ wr) (hg : wr.grownBy w' (some (B + 1 + 1))) (hB : B ≤ wr.heap.size) : Blk w' B 3 #[.int .i64 0] ∧ Blk w' (B + 1) 27 #[.int .i64 0] ∧ Below B w w' :=
  ⟨Blk.grown h.c3 hg (by simp; omega), Blk.grown h.c4 hg (by simp), h.bl.grown hg hB (fun k e => by cases e; omega)⟩
end

theorem Rd.Ok.put0 {s : Rd} (h : s.Ok) : 0 ≤ s.put.q0 ∧ s.put.q0 < 256 := by
  obtain ⟨k0, k3, p0, p1, d0, d3, d2, dd, q0, q1, q2, q3⟩ := h
  unfold Rd.put
  split
  · simp only; omega
  · split
    · simp only; omega
    · split <;> (simp only; omega)
theorem Rd.Ok.put1 {s : Rd} (h : s.Ok) : 0 ≤ s.put.q1 ∧ s.put.q1 < 256 := by
  obtain ⟨k0, k3, p0, p1, d0, d3, d2, dd, q0, q1, q2, q3⟩ := h
  unfold Rd.put
  split
  · simp only; omega
  · split
    · simp only; omega
    · split <;> (simp only; omega)
theorem Rd.Ok.put2 {s : Rd} (h : s.Ok) : 0 ≤ s.put.q2 ∧ s.put.q2 < 256 := by
  obtain ⟨k0, k3, p0, p1, d0, d3, d2, dd, q0, q1, q2, q3⟩ := h
  unfold Rd.put
  split
  · simp only; omega
  · split
    · simp only; omega
    · split <;> (simp only; omega)
theorem Rd.Ok.put3 {s : Rd} (h : s.Ok) : 0 ≤ s.put.q3 ∧ s.put.q3 < 256 := by
  obtain ⟨k0, k3, p0, p1, d0, d3, d2, dd, q0, q1, q2, q3⟩ := h
  unfold Rd.put
  split
  · simp only; omega
  · split
    · simp only; omega
    · split <;> (simp only; omega)

set_option maxRecDepth 100000 in
set_option maxHeartbeats 3200000 in
theorem parse_any (s : ByteArray) (w : World) :
    Calls Tryd.prog 44 #[.string s] w fun e w' => e = parseEnd s.data.toList ∧ Below w.heap.size w w' := by
  have hmf : ∀ (fn : Fn) (first cap : Array Value) (w : World), (Instr.makeFunc fn first cap).run Tryd.prog w = .ok (.func fn first cap) w := fun _ _ _ _ => rfl
  go_enter_defers Tryd.func44, Tryd.ntmps44
  go_wp2
  have h0 : PW w w.heap.size s 0 rd0 0 ((((w.alloc (.cells #[.int .i64 0] 3)).alloc (.cells #[.int .i64 0] 27)).alloc (.cells #[.int .u8 0, .int .u8 0, .int .u8 0, .int .u8 0, .int .i64 0, .int .i64 0, .int .i64 0, .int .i64 0] 108)).iter s 0) := by
    refine ⟨(((Blk.new w _ _).alloc _).alloc _).alloc _, ?_, ?_, ?_, ?_⟩
    · have := ((Blk.new (w.alloc (.cells #[.int .i64 0] 3)) 27 #[.int .i64 0]).alloc (.cells #[.int .u8 0, .int .u8 0, .int .u8 0, .int .u8 0, .int .i64 0, .int .i64 0, .int .i64 0, .int .i64 0] 108)).alloc (.stringIter s 0)
      simpa [World.iter] using this
    · have := (Blk.new ((w.alloc (.cells #[.int .i64 0] 3)).alloc (.cells #[.int .i64 0] 27)) 108 #[.int .u8 0, .int .u8 0, .int .u8 0, .int .u8 0, .int .i64 0, .int .i64 0, .int .i64 0, .int .i64 0]).alloc (.stringIter s 0)
      simpa [World.iter, RS, RB, rd0] using this
    · have := World.iter_heap (((w.alloc (.cells #[.int .i64 0] 3)).alloc (.cells #[.int .i64 0] 27)).alloc (.cells #[.int .u8 0, .int .u8 0, .int .u8 0, .int .u8 0, .int .i64 0, .int .i64 0, .int .i64 0, .int .i64 0] 108)) s 0
      simpa using this
    · exact ((((Below.refl _ w).alloc (Nat.le_refl _) _).alloc (by simp) _).alloc (by simp; omega) _).alloc (by simp; omega) _
  have H0 := Lib.hid h0
  clear h0
  go_loopw [6] (fun _ wr => ∃ (pos : Nat) (st : Rd) (at_ : Int), pos ≤ s.size ∧ Hid st.Ok ∧ Hid (PW w w.heap.size s pos st at_ wr) ∧ Hid (scan s.data.toList rd0 0 = scan (s.data.toList.drop pos) st pos)) (fun _ wr => s.size - wr.iterPos (w.heap.size + 1 + 1 + 1))
  case atStart => exact ⟨0, rd0, 0, Nat.zero_le _, rd0_ok, H0, by simp [Hid]⟩
  case round =>
    clear H0
    obtain ⟨pos, st, at_, hpos, HO, HP, HS⟩ := hrel
    have hBs : w.heap.size ≤ wr.heap.size := HP.out.bl.size
    by_cases hp : pos < s.size
    · have hdrop : s.data.toList.drop pos = (s[pos]'hp) :: s.data.toList.drop (pos + 1) := by
        rw [List.drop_eq_getElem_cons (by simpa using hp)]
        rfl
      have hS := HS.out
      rw [hdrop] at hS
      have HS2 := Lib.hid hS
      clear hS hdrop
      cases hst : st.step (s[pos]'hp).toNat with
      | none =>
        have hend := scan_none HS2.out hst
        have HE := Lib.hid hend
        have hdn : st.step ((Utf8.decode s pos).1 : Nat) = none := by
          by_cases ha : (s[pos]'hp).toNat < 128
          · rw [decode_ascii s pos hp ha]; exact hst
          · exact Rd.step_big _ _ (by have := (decode_high s pos hp (by omega)).1; omega)
        have hdle := decode_le s pos
        have hnx0 := fun ty => Lib.run_next_any_at (P := Tryd.prog) wr (w.heap.size + 1 + 1 + 1) s pos ty HP.out.it hp
        generalize (Utf8.decode s pos).1 = c at *
        generalize pos + (Utf8.decode s pos).2 = pos' at *
        have hP1 := HP.out.next pos'
        generalize wr.iterAt (w.heap.size + 1 + 1 + 1) s pos' = W1 at *
        have hP2 := hP1.place (pos : Int)
        have hc7 := Blk.cell hP1.rd 7
        have hf7 := Blk.frozen hP1.rd 7
        have hB1 := hP1.bl.size
        have ht := take_no (w.heap.size + 1 + 1) st pos c _ HO.out (by omega) (by omega) hdn hP2.rd
        have HT := Lib.hid ht
        have HP2 := Lib.hid hP2
        clear hend hst hdn hP1 hP2 ht HS HS2 HP
        go_wp2_with fail
        refine HT.out.mono ?_
        rintro e w3 ⟨rfl, hg⟩
        obtain ⟨hb3, hb4, hbl⟩ := HP2.out.lost hg (by simpa [World.setCell] using hB1)
        have k3 := Blk.cell hb3 0
        have z3 := Blk.frozen hb3 0
        have k4 := Blk.cell hb4 0
        have z4 := Blk.frozen hb4 0
        have HB := Lib.hid hbl
        clear hg hb3 hb4 hbl hnx0
        go_wp2
        have kk3 : ((w3.setCell ⟨w.heap.size, 0, none⟩ (.int .i64 (pos : Int))).setCell ⟨w.heap.size + 1, 0, none⟩ (.int .i64 110)).cell? ⟨w.heap.size, 0, none⟩ = some (.int .i64 (pos : Int)) := by
          rw [World.cell?_setCell_other _ _ _ _ (by simp), World.cell?_setCell_same _ _ _ k3]
        have kk4 : ((w3.setCell ⟨w.heap.size, 0, none⟩ (.int .i64 (pos : Int))).setCell ⟨w.heap.size + 1, 0, none⟩ (.int .i64 110)).cell? ⟨w.heap.size + 1, 0, none⟩ = some (.int .i64 110) := by
          rw [World.cell?_setCell_same _ _ _ (u := .int .i64 0) (by rw [World.cell?_setCell_other _ _ _ _ (by simp)]; exact k4)]
        have hbb : Below w.heap.size w ((w3.setCell ⟨w.heap.size, 0, none⟩ (.int .i64 (pos : Int))).setCell ⟨w.heap.size + 1, 0, none⟩ (.int .i64 110)) := (HB.out.setCell (p := ⟨w.heap.size, 0, none⟩) (Nat.le_refl _) _).setCell (p := ⟨w.heap.size + 1, 0, none⟩) (by simp) _
        refine leaves_cons (f := 52) (args := #[.pointer (some ⟨w.heap.size, 0, none⟩), .pointer (some ⟨w.heap.size + 1, 0, none⟩)]) (by simp) (by simp [go_sem]) ?_
        refine (catch_panicking w.heap.size (w.heap.size + 1) 0 0 (pos : Int) w3 (by omega) k3 z3 k4 z4).mono ?_
        rintro e u' w'' ⟨rfl, rfl, rfl⟩
        simp only [HE.out]
        simp [Leaves, settle, results, Tryd.results44, go_sem, kk3, kk4, hbb]
      | some st' =>
        have hn := scan_some HS2.out hst
        have HN := Lib.hid hn
        have ha : (s[pos]'hp).toNat < 128 := by
          apply Decidable.byContradiction
          intro hx
          rw [Rd.step_big _ _ (by omega)] at hst
          cases hst
        have ho' := HO.out.step hst
        have HO' := Lib.hid ho'
        have hnx0 := fun ty => Lib.run_next_ascii_at (P := Tryd.prog) wr (w.heap.size + 1 + 1 + 1) s pos ty HP.out.it hp ha
        generalize (s[pos]'hp).toNat = c at *
        have hP1 := HP.out.next (pos + 1)
        generalize wr.iterAt (w.heap.size + 1 + 1 + 1) s (pos + 1) = W1 at *
        have hP2 := hP1.place (pos : Int)
        have hc7 := Blk.cell hP1.rd 7
        have hf7 := Blk.frozen hP1.rd 7
        have hB1 := hP1.bl.size
        have ht := take_ok (w.heap.size + 1 + 1) st st' pos c _ HO.out (by omega) (by omega) hst hP2.rd
        have HT := Lib.hid ht
        have HP2 := Lib.hid hP2
        have hit : wr.iterPos (w.heap.size + 1 + 1 + 1) = pos := by simp [World.iterPos, HP.out.it]
        have HIT := Lib.hid hit
        clear hn hst ho' hP1 hP2 ht HS HS2 HP hit
        go_wp2_with fail
        refine HT.out.mono ?_
        rintro e w3 ⟨rfl, hr, hg⟩
        have hP3 := HP2.out.took hr hg (by simpa [World.setCell] using hB1)
        have HP3 := Lib.hid hP3
        have hit3 : w3.iterPos (w.heap.size + 1 + 1 + 1) = pos + 1 := by simp [World.iterPos, hP3.it]
        have HIT3 := Lib.hid hit3
        clear hr hg hP3 hnx0 hit3
        go_wp2
        go_roundw
        case rel => exact ⟨pos + 1, st', _, by omega, HO', HP3, HN⟩
        case measure => rw [HIT.out, HIT3.out]; omega
    · obtain rfl : pos = s.size := by omega
      have hS := HS.out
      rw [List.drop_of_length_le (by simp)] at hS
      have HS2 := Lib.hid hS
      clear hS
      have hnx0 := fun ty => Lib.run_next_end_at (P := Tryd.prog) wr (w.heap.size + 1 + 1 + 1) s s.size ty HP.out.it hp
      have hP2 := HP.out.place (s.size : Int)
      have hc7 := Blk.cell HP.out.rd 7
      have hf7 := Blk.frozen HP.out.rd 7
      have hlen : s.data.toList.length = s.size := by simp
      have HL := Lib.hid hlen
      clear hlen
      by_cases hok : st.k = 3 ∧ 0 < st.d
      · have hend := scan_end_ok HS2.out hok
        rw [HL.out] at hend
        have HE := Lib.hid hend
        have ht := end_ok (w.heap.size + 1 + 1) st s.size _ HO.out hok.1 hok.2 hP2.rd
        have HT := Lib.hid ht
        have HP2 := Lib.hid hP2
        clear hend ht hP2 HS HS2 HP hok
        go_wp2_with fail
        refine HT.out.mono ?_
        rintro e w3 ⟨rfl, hr, hg⟩
        have hP3 := HP2.out.took hr hg (by simpa [World.setCell] using hBs)
        have hB3 := hP3.bl.size
        have r0 := Blk.cell hP3.rd 0
        have r1 := Blk.cell hP3.rd 1
        have r2 := Blk.cell hP3.rd 2
        have r3 := Blk.cell hP3.rd 3
        have l3 := hP3.c3.lt
        have l4 := hP3.c4.lt
        have hof := of_any st.put.q0 st.put.q1 st.put.q2 st.put.q3 w3 HO.out.put0 HO.out.put1 HO.out.put2 HO.out.put3
        have HOF := Lib.hid hof
        have HP3 := Lib.hid hP3
        clear hr hg hP3 hof hnx0
        go_wp2_with fail
        refine HOF.out.mono ?_
        rintro e w4 ⟨rfl, hb4⟩
        have k3 := Blk.cell (HP3.out.c3.below hb4 l3) 0
        have z3 := Blk.frozen (HP3.out.c3.below hb4 l3) 0
        have k4 := Blk.cell (HP3.out.c4.below hb4 l4) 0
        have z4 := Blk.frozen (HP3.out.c4.below hb4 l4) 0
        have hbl := HP3.out.bl.trans (hb4.mono hB3)
        have HB := Lib.hid hbl
        clear hb4 hbl
        go_wp2
        have kk3 : ((w4.setCell ⟨w.heap.size, 0, none⟩ (.int .i64 (s.size : Int))).setCell ⟨w.heap.size + 1, 0, none⟩ (.int .i64 0)).cell? ⟨w.heap.size, 0, none⟩ = some (.int .i64 (s.size : Int)) := by
          rw [World.cell?_setCell_other _ _ _ _ (by simp), World.cell?_setCell_same _ _ _ k3]
        have kk4 : ((w4.setCell ⟨w.heap.size, 0, none⟩ (.int .i64 (s.size : Int))).setCell ⟨w.heap.size + 1, 0, none⟩ (.int .i64 0)).cell? ⟨w.heap.size + 1, 0, none⟩ = some (.int .i64 0) := by
          rw [World.cell?_setCell_same _ _ _ (u := .int .i64 0) (by rw [World.cell?_setCell_other _ _ _ _ (by simp)]; exact k4)]
        have hbb : Below w.heap.size w ((w4.setCell ⟨w.heap.size, 0, none⟩ (.int .i64 (s.size : Int))).setCell ⟨w.heap.size + 1, 0, none⟩ (.int .i64 0)) := (HB.out.setCell (p := ⟨w.heap.size, 0, none⟩) (Nat.le_refl _) _).setCell (p := ⟨w.heap.size + 1, 0, none⟩) (by simp) _
        refine leaves_cons (f := 52) (args := #[.pointer (some ⟨w.heap.size, 0, none⟩), .pointer (some ⟨w.heap.size + 1, 0, none⟩)]) (by simp) (by simp [go_sem]) ?_
        refine (catch_idle w.heap.size (w.heap.size + 1) _).mono ?_
        rintro e u' w'' ⟨rfl, rfl, rfl⟩
        simp only [HE.out]
        simp [Leaves, settle, results, Tryd.results44, go_sem, kk3, kk4, hbb, addrOf]
      · have hend := scan_end_no HS2.out hok
        rw [HL.out] at hend
        have HE := Lib.hid hend
        have ht := end_no (w.heap.size + 1 + 1) st s.size _ (by have := HO.out.k3; have := HO.out.d0; omega) hP2.rd
        have HT := Lib.hid ht
        have HP2 := Lib.hid hP2
        clear hend ht hP2 HS HS2 HP hok
        go_wp2_with fail
        refine HT.out.mono ?_
        rintro e w3 ⟨rfl, hg⟩
        obtain ⟨hb3, hb4, hbl⟩ := HP2.out.lost hg (by simpa [World.setCell] using hBs)
        have k3 := Blk.cell hb3 0
        have z3 := Blk.frozen hb3 0
        have k4 := Blk.cell hb4 0
        have z4 := Blk.frozen hb4 0
        have HB := Lib.hid hbl
        clear hg hb3 hb4 hbl hnx0
        go_wp2
        have kk3 : ((w3.setCell ⟨w.heap.size, 0, none⟩ (.int .i64 (s.size : Int))).setCell ⟨w.heap.size + 1, 0, none⟩ (.int .i64 110)).cell? ⟨w.heap.size, 0, none⟩ = some (.int .i64 (s.size : Int)) := by
          rw [World.cell?_setCell_other _ _ _ _ (by simp), World.cell?_setCell_same _ _ _ k3]
        have kk4 : ((w3.setCell ⟨w.heap.size, 0, none⟩ (.int .i64 (s.size : Int))).setCell ⟨w.heap.size + 1, 0, none⟩ (.int .i64 110)).cell? ⟨w.heap.size + 1, 0, none⟩ = some (.int .i64 110) := by
          rw [World.cell?_setCell_same _ _ _ (u := .int .i64 0) (by rw [World.cell?_setCell_other _ _ _ _ (by simp)]; exact k4)]
        have hbb : Below w.heap.size w ((w3.setCell ⟨w.heap.size, 0, none⟩ (.int .i64 (s.size : Int))).setCell ⟨w.heap.size + 1, 0, none⟩ (.int .i64 110)) := (HB.out.setCell (p := ⟨w.heap.size, 0, none⟩) (Nat.le_refl _) _).setCell (p := ⟨w.heap.size + 1, 0, none⟩) (by simp) _
        refine leaves_cons (f := 52) (args := #[.pointer (some ⟨w.heap.size, 0, none⟩), .pointer (some ⟨w.heap.size + 1, 0, none⟩)]) (by simp) (by simp [go_sem]) ?_
        refine (catch_panicking w.heap.size (w.heap.size + 1) 0 0 (s.size : Int) w3 (by omega) k3 z3 k4 z4).mono ?_
        rintro e u' w'' ⟨rfl, rfl, rfl⟩
        simp only [HE.out]
        simp [Leaves, settle, results, Tryd.results44, go_sem, kk3, kk4, hbb]

end Go.Proofs.YtabpkdblcinhjaaDoor
