/- Layer 6's program: what goes over what tells; Above of none. -/
import Derived.Test.YtghkacciihocdaaI24
namespace Go.Proofs.Ytghkacciihocdaa
open Go Go.RowKit Go.Shelf Go.Sort
attribute [local go_sem] Oper.semAt_some
namespace T6

theorem room_wide' (k : Nat) : Fence.wide.room k := fun d h => by cases h
theorem yield_any {m : Nat} (m' : Nat) {P : Program} {l : Nat} {args : Array Value} {W : World} {R : Ending → World → Prop} (h : YieldAt Fence.wide m P l args W R) : YieldAt Fence.wide m' P l args W R := by
  obtain ⟨fn, tmps, assign, body, hy, hR⟩ := h
  exact ⟨fn, tmps, assign, body, hy, hR.1, fun c cs _ => hR.2 c cs (room_wide' _)⟩
def encS (s : Snap) : Array Value := #[pfx (kx s.k) (kn s.k), .int .i64 s.v]
set_option maxRecDepth 100000 in
theorem tell_in (n l : Nat) (hn : 1 ≤ n) (s : Snap) (W : World) (Jt Jf : World → Prop) (hY : ∀ W1, Below W.heap.size W W1 → YieldAt Fence.wide (n - 1) Try.prog l (encS s) W1 fun e W' => (e = .returned (.bool true) ∧ Jt W') ∨ (e = .returned (.bool false) ∧ Jf W')) :
    CallsIn Fence.wide n Try.prog 39 #[s.agg, .func (.yield l) #[] #[]] W fun e W' => (e = .returned (.bool true) ∧ Jt W') ∨ (e = .returned (.bool false) ∧ Jf W') := by
  obtain ⟨k, h, v, pl, pr⟩ := s
  have hb := box_below W (.cells #[.int .u32 (kx k), .int .i64 (kn k), .bool h, .int .i64 v, .pointer pl, .pointer pr] 81)
  have hnb := Blk.new W 81 #[.int .u32 (kx k), .int .i64 (kn k), .bool h, .int .i64 v, .pointer pl, .pointer pr]
  obtain ⟨fn, tmps, assign, body, hy, hR⟩ := hY _ hb
  simp only [encS] at hy
  have n0 := hnb.cell 0
  have n1 := hnb.cell 1
  have n3 := hnb.cell 3
  simp only [List.getElem?_toArray, List.getElem?_cons_zero, List.getElem?_cons_succ] at n0 n1 n3
  have HR := Lib.hid hR
  clear hb hnb hY hR
  refine callsIn_of_wp Try.func39 rfl trivial ?_ rfl
  simp only [Try.ntmps39, Snap.agg, List.size_toArray, List.length_cons, List.length_nil, Nat.reduceAdd, Nat.reduceSub, Array.replicate_succ, Array.replicate_zero, List.push_toArray, List.append_toArray, List.nil_append, List.cons_append]
  gi_wp2
  refine HR.out.mono ?_
  rintro e W2 (⟨rfl, hj⟩ | ⟨rfl, hj⟩)
  · have HJ := Lib.hid hj
    clear hj hy
    gi_wp2
    go_ret
    exact .inl ⟨rfl, HJ.out⟩
  · have HJ := Lib.hid hj
    clear hj hy
    gi_wp2
    go_ret
    exact .inr ⟨rfl, HJ.out⟩
/-- What is gone over: its box, its cells. -/
def TC (bs : Nat) (A : Option Addr) (c : Nat) (L : List Snap) (W : World) : Prop := Blk W bs 84 #[.slice A L.length c] ∧ LiesS W A (tells L)
theorem LiesS.keptC {B : Nat} {W W' : World} {A : Option Addr} {xs : List Value} (h : LiesS W A xs) (hk : KeptC B W W') : LiesS W' A xs := fun hn => by
  obtain ⟨b, o, e, hlt, hc⟩ := h hn
  exact ⟨b, o, e, by have := hk.size; omega, fun j hj => hk.cell (hc j hj)⟩
theorem TC.keptC {B bs c : Nat} {A : Option Addr} {L : List Snap} {W W' : World} (h : TC bs A c L W) (hk : KeptC B W W') : TC bs A c L W' := ⟨blkC h.1 hk, LiesS.keptC h.2 hk⟩
def encT (L : List Snap) (i : Nat) : Array Value := encS (L[i]?.getD ⟨[], false, 0, none, none⟩)
def StT (bs : Nat) (A : Option Addr) (c : Nat) (L : List Snap) (J : Nat → World → Prop) (Fin : World → Prop) (W : World) : Prop := TC bs A c L W ∧ (L.length = 0 → Fin W) ∧ (0 < L.length → J 0 W)
def StpT (bs : Nat) (A : Option Addr) (c : Nat) (L : List Snap) (J : Nat → World → Prop) (Fin : World → Prop) (i : Nat) (W : World) : Prop := i < L.length ∧ TC bs A c L W ∧ (i + 1 = L.length → Fin W) ∧ (i + 1 < L.length → J (i + 1) W)
theorem StT_mono {bs c : Nat} {A : Option Addr} {L : List Snap} (J K : Nat → World → Prop) (Fa Fb : World → Prop) (W : World) (h : ∀ s, J s W → K s W) (hA : Fa W → Fb W) (hs : StT bs A c L J Fa W) : StT bs A c L K Fb W := ⟨hs.1, fun e => hA (hs.2.1 e), fun e => h _ (hs.2.2 e)⟩
theorem StpT_mono {bs c : Nat} {A : Option Addr} {L : List Snap} (J K : Nat → World → Prop) (Fa Fb : World → Prop) (s : Nat) (W : World) (h : ∀ s, J s W → K s W) (hA : Fa W → Fb W) (hs : StpT bs A c L J Fa s W) : StpT bs A c L K Fb s W := ⟨hs.1, hs.2.1, fun e => hA (hs.2.2.1 e), fun e => h _ (hs.2.2.2 e)⟩
set_option maxRecDepth 100000 in
set_option maxHeartbeats 1600000 in
theorem told_iter (n : Nat) (hn : 2 ≤ n) (bs : Nat) (A : Option Addr) (c : Nat) (L : List Snap) (hlen : L.length ≤ 100000) (w0 : World) :
    IterC Fence.wide n Try.prog 65 #[.pointer (some ⟨bs, 0, none⟩)] (encT L) (StT bs A c L) (StpT bs A c L) w0 := by
  intro l J J' Jx Fin W _ hJ hF hY hS ⟨hB, hz, hp⟩
  have HY := Lib.hid hY
  have HS := Lib.hid hS
  have HJ := Lib.hid hJ
  have HB := Lib.hid hB
  have HZ := Lib.hid hz
  have HP := Lib.hid hp
  have c0 := hB.1.cell 0
  simp only [List.getElem?_toArray, List.getElem?_cons_zero] at c0
  clear hJ hF hY hS hB hz hp
  simp only [List.append_toArray, List.cons_append, List.nil_append]
  refine callsIn_of_wp Try.func65 rfl trivial ?_ rfl
  simp only [Try.ntmps65, List.size_toArray, List.length_cons, List.length_nil, Nat.reduceAdd, Nat.reduceSub, Array.replicate_succ, Array.replicate_zero, List.push_toArray, List.append_toArray, List.nil_append, List.cons_append]
  gi_wp2_with fail
  gi_loopw [7] (fun i wr => ∃ k : Nat, k ≤ L.length ∧ i = .int .i64 k ∧ Hid (TC bs A c L wr) ∧ Hid (k = L.length → Fin wr) ∧ Hid (k < L.length → J k wr)) (fun i _ => L.length - (intOf i).toNat)
  case atStart => exact ⟨0, by omega, rfl, HB, Lib.hid (fun e => HZ.out e.symm), HP⟩
  case round =>
    clear HB HZ HP c0
    obtain ⟨k, hk, rfl, HB, HZ, HP⟩ := hrel
    by_cases hlt : k < L.length
    · obtain ⟨b, o, rfl, hlb, hc⟩ := HB.out.2 (by simp [tells]; omega)
      have hck := hc k (by simpa [tells] using hlt)
      have e1 : (tells L)[k]'(by simpa [tells] using hlt) = tellV (L[k]'hlt) := by simp [tells]
      rw [e1] at hck
      have hlti : (k : Int) < (L.length : Int) := by omega
      have HT := Lib.hid (tell_in (n - 1) l (by omega) (L[k]'hlt) wr (J' k) Jx (fun W1 hb => by
        have := HY.out k W1 (HJ.out k wr W1 (HP.out hlt) (.calls hb))
        unfold encT at this
        rw [List.getElem?_eq_getElem hlt] at this
        exact yield_any _ this))
      unfold tellV at hck
      clear hc e1
      gi_wp2_with fail
      refine ⟨trivial, fun h => (by cases h), ?_⟩
      refine HT.out.mono ?_
      clear HT hck HZ HP HB
      rintro e W3 (⟨rfl, hJ3⟩ | ⟨rfl, hJx3⟩)
      · obtain ⟨_, h1, h2, h3⟩ := HS.out _ _ hJ3
        have H1 := Lib.hid h1
        have H2 := Lib.hid h2
        have H3 := Lib.hid h3
        clear h1 h2 h3 hJ3
        gi_wp2
        go_roundw
        case rel => exact ⟨k + 1, by omega, by go_num, H1, H2, H3⟩
        case measure => simp [intOf]; omega
      · have HX := Lib.hid hJx3
        clear hJx3
        gi_wp2
        refine bodyPost_ret (results_none rfl _ _ _) rfl ?_
        exact ⟨⟨_, rfl⟩, .inr HX.out⟩
    · have hk2 : k = L.length := by omega
      have HFI := Lib.hid (HZ.out hk2)
      have hnl : ¬ ((k : Int) < (L.length : Int)) := by omega
      gi_wp2
      go_end0
      exact ⟨⟨_, rfl⟩, .inl HFI.out⟩
theorem above6No_any (q : Option Addr) (x n : Int) (x0 : 0 ≤ x) (x1 : x < 4294967296) (w : World) (hno : NoWay q x n w) :
    Calls Try.prog 18 #[.pointer q, pfx x n] w fun e w' => ∃ v, e = .returned v ∧ SeqAt w' v [] ∧ Below w.heap.size w w' := by
  have hb0 := box_below w (.cells #[.int .u32 x, .int .i64 n] 34)
  have hpb := Blk.new w 34 #[.int .u32 x, .int .i64 n]
  have HT := Lib.hid (hno.below hb0)
  have HB0 := Lib.hid hb0
  have d0 := hpb.cell 0
  have d1 := hpb.cell 1
  simp only [List.getElem?_toArray, List.getElem?_cons_zero, List.getElem?_cons_succ] at d0 d1
  clear hb0 hpb hno
  go_enter Try.func18, Try.ntmps18
  go_wp2_with fail
  generalize (w.alloc (.cells #[.int .u32 x, .int .i64 n] 34)) = W0 at *
  refine (aboveNo_any q x n x0 x1 _ HT.out).mono ?_
  rintro e w1 ⟨rfl, hb1⟩
  have HB1 := Lib.hid (HB0.out.trans (hb1.mono HB0.out.size))
  have HTD := Lib.hid (told_any none 0 [] w1 (LiesS.nil _ _))
  clear hb1 HT HB0 d0 d1
  go_wp2_with fail
  refine wp_loop_rounds 1 ?_
  rw [rounds_succ]
  go_wp2_with fail
  refine HTD.out.mono ?_
  rintro e w3 ⟨v, rfl, hs, hb3⟩
  have HS := Lib.hid hs
  have HB3 := Lib.hid (HB1.out.trans (hb3.mono HB1.out.size))
  clear hs hb3
  go_wp2_with fail
  go_ret
  exact ⟨_, rfl, HS.out, HB3.out⟩
end T6
end Go.Proofs.Ytghkacciihocdaa
