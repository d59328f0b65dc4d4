/- The walk of OctetHolds, over what Put, works and the reader promise. -/
import Derived.Test.YthpmfeijnphdbaaDoorO8
namespace Go.Proofs.YthpmfeijnphdbaaDoor
open Go Go.RowKit
attribute [local go_sem] Oper.semAt_some

/-- What the reader promises; Rd: bytes and a place lie at a pointer. -/
structure RdC (Rd : World → Nat → List Int → Nat → Prop) : Prop where
  keep : ∀ w w' r xs a, Rd w r xs a → Below w.heap.size w w' → Rd w' r xs a
  lt : ∀ w r xs a, Rd w r xs a → r < w.heap.size
  new : ∀ (p : Option Addr) (c : Nat) (xs : List Int) (w : World), IsBytes xs → xs.length ≤ 1000000 → xs.length ≤ c → ByS w p xs →
    Calls Tryd.prog 14 #[.slice p xs.length c] w fun e w' => ∃ r, e = .returned (.pointer (some ⟨r, 0, none⟩)) ∧ Rd w' r xs 0 ∧ w.heap.size ≤ r ∧ Below w.heap.size w w'
  take : ∀ (w : World) (r : Nat) (xs : List Int) (a : Nat) (k : Int), Rd w r xs a → a ≤ xs.length → Fit3 w →
    Calls Tryd.prog 16 #[.pointer (some ⟨r, 0, none⟩), .int .i64 k] w fun e w' => e = .returned (.tuple #[.int .u32 (readN xs a k), .int .i64 (readNo xs a k)]) ∧ Rd w' r xs (if readNo xs a k = 0 then a + k.toNat else a) ∧ w.grownBy w' (some r)
  left : ∀ (w : World) (r : Nat) (xs : List Int) (a : Nat), Rd w r xs a → a ≤ xs.length →
    Calls Tryd.prog 21 #[.pointer (some ⟨r, 0, none⟩)] w fun e w' => e = .returned (.int .i64 ((xs.length : Int) - a)) ∧ Below w.heap.size w w'

/-- Numbers that came in. -/
def U32S (w : World) (p : Option Addr) (xs : List Int) : Prop := 0 < xs.length → ∃ b o, p = some ⟨b, o, none⟩ ∧ b < w.heap.size ∧ ∀ i (h : i < xs.length), w.cell? ⟨b, o + i, none⟩ = some (.int .u32 (xs[i]'h))
theorem U32S.below {w w' : World} {p : Option Addr} {xs : List Int} (h : U32S w p xs) (hb : Below w.heap.size w w') : U32S w' p xs := fun hn => by
  obtain ⟨b, o, e, hlt, hc⟩ := h hn
  exact ⟨b, o, e, by have := hb.size; omega, fun i hi => (hb.cell (p := ⟨b, o + i, none⟩) hlt).trans (hc i hi)⟩

/-- Numbers of four bytes, one behind the other. -/
def flat4 (xs : List Int) : List Int := xs.flatMap (be 4)
theorem flat4_snoc (xs : List Int) (x : Int) : flat4 (xs ++ [x]) = flat4 xs ++ be 4 x := by simp [flat4]
theorem flat4_app (xs ys : List Int) : flat4 (xs ++ ys) = flat4 xs ++ flat4 ys := by simp [flat4]
theorem flat4_length (xs : List Int) : (flat4 xs).length = 4 * xs.length := by
  induction xs with
  | nil => rfl
  | cons x xs ih => rw [show x :: xs = [x] ++ xs from rfl, flat4_app, List.length_append, ih]; simp [flat4]; omega
theorem isBytes_flat4 (xs : List Int) : IsBytes (flat4 xs) := fun y h => by
  obtain ⟨x, _, hx⟩ := List.mem_flatMap.1 h
  exact be_mem 4 x y hx

theorem putL4 {n : Int} (h0 : 0 ≤ n) (h1 : n < 4294967296) : putNo n 4 = 0 ∧ putL n 4 = be 4 n := by
  have hz : putNo n 4 = 0 := by
    unfold putNo
    rw [if_neg (by simp [W3]), if_neg]
    have : (256 : Int) ^ (4 : Int).toNat = 4294967296 := by decide
    rw [this, Int.ediv_eq_zero_of_lt h0 h1]
    decide
  exact ⟨hz, by unfold putL; rw [if_pos hz]; rfl⟩

theorem read_flat4 {xs : List Int} (hx : ∀ x ∈ xs, 0 ≤ x ∧ x < 4294967296) {i : Nat} (hi : i < xs.length) : readNo (flat4 xs) ((4 * i : Nat) : Int) 4 = 0 ∧ readN (flat4 xs) ((4 * i : Nat) : Int) 4 = xs[i]'hi := by
  have hs : xs = xs.take i ++ ([xs[i]'hi] ++ xs.drop (i + 1)) := by
    rw [List.singleton_append, ← List.drop_eq_getElem_cons hi, List.take_append_drop]
  have hr := hx _ (List.getElem_mem hi)
  obtain ⟨z1, z2⟩ := putL4 hr.1 hr.2
  have h := put_read hr.1 hr.2 z1 (flat4 (xs.take i)) (flat4 (xs.drop (i + 1)))
  rw [z2] at h
  have hl : (flat4 (xs.take i)).length = 4 * i := by rw [flat4_length]; simp; omega
  have he : flat4 (xs.take i) ++ be 4 (xs[i]'hi) ++ flat4 (xs.drop (i + 1)) = flat4 xs := by
    conv => rhs; rw [hs, flat4_app, flat4_app]
    simp [flat4]
  rw [he, hl] at h
  exact h

theorem puts_order {m n k : Int} (m0 : 0 ≤ m) (m1 : m < 4294967296) (n0 : 0 ≤ n) (n1 : n < 4294967296) (hm : putNo m k = 0) (hn : putNo n k = 0) : Op.bytesLess (strOfNums (putL m k)).toList (strOfNums (putL n k)).toList = decide (m < n) := by
  rw [strNums_lt _ _ (isBytes_putL _ _) (isBytes_putL _ _)]
  have hk : W3 k := Classical.byContradiction fun hw => by unfold putNo at hm; rw [if_pos hw] at hm; cases hm
  obtain ⟨j, rfl, hj⟩ := hk.nat
  have low : ∀ x : Int, 0 ≤ x → x < 4294967296 → putNo x j = 0 → x < 256 ^ j := fun x x0 x1 hx => by
    unfold putNo at hx
    rw [if_neg (by simpa using hk), Int.toNat_natCast] at hx
    by_cases hg : x / 256 ^ j > 0
    · rw [if_pos hg] at hx; cases hx
    · rcases hj with rfl | rfl | rfl
      · simp only [Int.pow_one] at *; omega
      · have : (256 : Int) ^ 2 = 65536 := by decide
        rw [this] at *; omega
      · have : (256 : Int) ^ 4 = 4294967296 := by decide
        rw [this] at *; omega
  unfold putL
  rw [if_pos hm, if_pos hn, Int.toNat_natCast]
  exact ltB_be hj m0 (low m m0 m1 hm) n0 (low n n0 n1 hn)
theorem putNo_nonneg (n k : Int) : 0 ≤ putNo n k ∧ putNo n k ≤ 4 := by
  unfold putNo; split
  · decide
  · split <;> decide

set_option maxRecDepth 100000 in
set_option maxHeartbeats 3200000 in
theorem law03_holds {Rd : World → Nat → List Int → Nat → Prop} (HD : RdC Rd) (HP : PutC 9) (HY : YesC 8) (m n k : Int) (m0 : 0 ≤ m) (m1 : m < 4294967296) (n0 : 0 ≤ n) (n1 : n < 4294967296)
    (p : Option Addr) (c : Nat) (xs : List Int) (hx : ∀ x ∈ xs, 0 ≤ x ∧ x < 4294967296) (w : World) (x1 : U32S w p xs) (hf : Fit3 w) :
    Calls Tryd.prog 7 #[.int .u32 m, .int .u32 n, .int .i64 k, .slice p xs.length c] w fun e w' => e = .returned (.bool true) ∧ Below w.heap.size w w' := by
  have HP := Lib.hid HP
  have HD := Lib.hid HD
  have HY := Lib.hid HY
  have X1 := Lib.hid x1
  have HX := Lib.hid hx
  have HF := Lib.hid hf
  clear x1 hx hf
  by_cases hbig : 20 < xs.length
  · go_enter Tryd.func7, Tryd.ntmps7
    go_wp2_with fail
    refine (HY.out _ HF.out).mono ?_
    rintro e w' ⟨rfl, hb⟩
    have HB := Lib.hid hb
    clear hb
    go_wp2_with fail
    go_ret
    exact ⟨rfl, HB.out⟩
  · go_enter Tryd.func7, Tryd.ntmps7
    go_wp2_with fail
    refine (HP.out m k _ m0 m1 HF.out).mono ?_
    rintro e w1 ⟨q1, d1, rfl, hc1, hq1, hb1⟩
    have HB1 := Lib.hid hb1
    have HQ1 := Lib.hid hq1
    clear hb1 hq1 hc1
    go_wp2_with fail
    refine (HP.out n k _ n0 n1 (HF.out.below HB1.out)).mono ?_
    rintro e w2 ⟨q2, d2, rfl, hc2, hq2, hb2⟩
    have e1 := conv_bytes (HQ1.out.below hb2) d1
    have e2 := conv_bytes hq2 d2
    have HB2 := Lib.hid (HB1.out.trans (hb2.mono HB1.out.size))
    have hnm1 := fun W => num3_any (putNo m k) W
    have hnm2 := fun W => num3_any (putNo n k) W
    have hord := puts_order (k := k) m0 m1 n0 n1
    have g1 := putNo_nonneg m k
    have g2 := putNo_nonneg n k
    clear hc2 hq2 hb2 HB1 HQ1
    generalize (putL m k) = l1 at *
    generalize (putL n k) = l2 at *
    generalize putNo m k = z1 at *
    generalize putNo n k = z2 at *
    generalize strOfNums l1 = s1 at *
    generalize strOfNums l2 = s2 at *
    have hsplit : (z1 + z2 = 0 ∧ Op.bytesLess s1.toList s2.toList = decide (m < n)) ∨ ¬ z1 + z2 = 0 := by
      by_cases h : z1 + z2 = 0
      · exact .inl ⟨h, hord (by omega) (by omega)⟩
      · exact .inr h
    clear hord
    have HG := Lib.hid (And.intro g1 g2)
    have lw2 := HB2.out.size
    rcases hsplit with ⟨hz, hlt⟩ | hz
    all_goals
      go_wp2_with (first | (refine (hnm1 _).mono ?_; rintro e w' ⟨rfl, rfl⟩) | (refine (hnm2 _).mono ?_; rintro e w' ⟨rfl, rfl⟩))
      clear e1 e2 hz hnm1 hnm2 g1 g2
      go_loopw [13, 14] (fun v i wr => ∃ j : Nat, j ≤ xs.length ∧ i = .int .i64 j ∧ Hid (OwnB w2.heap.size wr v (flat4 (xs.take j))) ∧ Hid (Below w2.heap.size w2 wr)) (fun _ i _ => xs.length - (intOf i).toNat)
      case atStart => exact ⟨0, by omega, rfl, World.ownsRow_nil _ _ _ _, Below.refl _ _⟩
      case round =>
        obtain ⟨j, hj, rfl, HO, HBR⟩ := hrel
        by_cases hjl : j < xs.length
        · have hbw : Below w.heap.size w wr := HB2.out.trans (HBR.out.mono lw2)
          obtain ⟨b, o, hpe, _, hc⟩ := X1.out.below hbw (by omega)
          have c0 := hc j hjl
          obtain ⟨r0, r1⟩ := HX.out _ (List.getElem_mem hjl)
          have hsn : flat4 (xs.take (j + 1)) = flat4 (xs.take j) ++ be 4 (xs[j]'hjl) := by
            rw [← flat4_snoc, List.take_add_one, List.getElem?_eq_getElem hjl]; rfl
          have hp4 := HP.out (xs[j]'hjl) 4 wr r0 r1 (HF.out.below hbw)
          rw [(putL4 r0 r1).1, (putL4 r0 r1).2] at hp4
          have hlen : (be 4 (xs[j]'hjl)).length = 4 := be_length _ _
          have hlf : (flat4 (xs.take j)).length = 4 * j := by rw [flat4_length]; simp; omega
          have hnm := fun W => num3_any 0 W
          generalize be 4 (xs[j]'hjl) = ys at *
          generalize hfl : flat4 (xs.take j) = fl at *
          generalize (xs[j]'hjl) = x at *
          subst hpe
          have HP4 := Lib.hid hp4
          have HSN := Lib.hid hsn
          have K3 : fl.length + ys.length ≤ 1000000 := by omega
          clear hc hp4 hsn hbw hlen hlf
          have jz : (j : Int) < (xs.length : Int) := by omega
          go_wp2_with fail
          refine HP4.out.mono ?_
          rintro e w3 ⟨p3, d3, rfl, _, hq3, hb3⟩
          have HO3 := Lib.hid (HO.out.kept (grown_below hb3 none) (Classical.em _))
          have HQ3 := Lib.hid hq3
          have HB3 := Lib.hid (HBR.out.trans (hb3.mono HBR.out.size))
          have l3 := HB3.out.size
          clear hq3 hb3 HP4 HO HBR c0
          go_wp2_with (first | (refine (hnm _).mono ?_; rintro e w' ⟨rfl, rfl⟩) | (at_builtin; refine wpList_app_bytes (v := u13) (xs := fl) (p := p3) (ys := ys) (c := d3) rfl _ _ rfl w2.heap.size rfl HO3.out rfl HQ3.out K3 l3 ?_))
          intro v4 w4 o4 g4 _
          have HB4 := Lib.hid (own_below l3 HB3.out HO3.out g4)
          have HO4 : Hid (OwnB w2.heap.size w4 v4 (flat4 (xs.take (j + 1)))) := by rw [HSN.out]; exact o4
          clear o4 g4 HO3 HB3 HQ3 K3 l3
          go_wp2_with fail
          exact ⟨⟨j + 1, by omega, by simp, HO4, HB4⟩, by simp only [intOf]; omega⟩
        · have hje : j = xs.length := by omega
          subst hje
          have jz : ¬ (xs.length : Int) < (xs.length : Int) := by omega
          have ho := HO.out
          rw [List.take_length] at ho
          obtain ⟨p5, c5, rfl, m5, y5, _⟩ := ho.byS
          have hfl := flat4_length xs
          have hnew := HD.out.new p5 c5 (flat4 xs) wr (isBytes_flat4 xs) (by omega) m5 y5
          have HN := Lib.hid hnew
          have HFL := Lib.hid hfl
          clear hfl hnew y5 m5 ho HO
          go_wp2_with fail
          refine HN.out.mono ?_
          rintro e w5 ⟨r, rfl, hrd, hrg, hb5⟩
          have HR5 := Lib.hid hrd
          have HB5 := Lib.hid (HBR.out.trans (hb5.mono HBR.out.size))
          have hr2 : w2.heap.size ≤ r := Nat.le_trans HBR.out.size hrg
          clear hrd hrg hb5 HN HBR
          go_wp2_with fail
          go_loopw [18] (fun i wq => ∃ j : Nat, j ≤ xs.length ∧ i = .int .i64 j ∧ Hid (Rd wq r (flat4 xs) (4 * j)) ∧ Hid (Below w2.heap.size w2 wq)) (fun i _ => xs.length - (intOf i).toNat)
          case atStart => exact ⟨0, by omega, rfl, HR5, HB5⟩
          case round =>
            clear HR5 HB5
            obtain ⟨j, hj, rfl, HRQ, HBQ⟩ := hrel
            by_cases hjl : j < xs.length
            · obtain ⟨rd1, rd2⟩ := read_flat4 HX.out hjl
              have htake := HD.out.take wr r (flat4 xs) (4 * j) 4 HRQ.out (by rw [HFL.out]; omega) (HF.out.below (HB2.out.trans (HBQ.out.mono lw2)))
              rw [rd1, rd2, if_pos rfl, show 4 * j + (4 : Int).toNat = 4 * (j + 1) from by simp; omega] at htake
              have hnm := fun W => num3_any 0 W
              have HT := Lib.hid htake
              clear htake rd1 rd2
              go_wp2_with fail
              refine HT.out.mono ?_
              rintro e w6 ⟨rfl, hrd, hg6⟩
              have hb6 := HBQ.out.grown hg6 HBQ.out.size (fun k hk => by cases hk; exact hr2)
              obtain ⟨b, o, hpe, _, hc⟩ := X1.out.below (HB2.out.trans (hb6.mono lw2)) (by omega)
              have c0 := hc j hjl
              generalize (xs[j]'hjl) = x at *
              subst hpe
              have HRD := Lib.hid hrd
              have HB6 := Lib.hid hb6
              have jz : (j : Int) < (xs.length : Int) := by omega
              clear hc hrd hb6 hg6 HT HRQ HBQ
              go_wp2_with (first | (refine (hnm _).mono ?_; rintro e w' ⟨rfl, rfl⟩))
              exact ⟨⟨j + 1, by omega, by simp, HRD, HB6⟩, by simp only [intOf]; omega⟩
            · have hje : j = xs.length := by omega
              subst hje
              have hleft := HD.out.left wr r (flat4 xs) (4 * xs.length) HRQ.out (by rw [HFL.out]; omega)
              rw [HFL.out, show ((4 * xs.length : Nat) : Int) - ((4 * xs.length : Nat) : Int) = 0 by omega] at hleft
              have HL := Lib.hid hleft
              clear hleft
              go_wp2_with fail
              refine HL.out.mono ?_
              rintro e w6 ⟨rfl, hb6⟩
              have HB6 := Lib.hid (HBQ.out.trans (hb6.mono HBQ.out.size))
              clear hb6
              go_wp2_with fail
              refine (HY.out _ (HF.out.below (HB2.out.trans (HB6.out.mono lw2)))).mono ?_
              rintro e w7 ⟨rfl, hb7⟩
              have HB7 := Lib.hid (HB2.out.trans ((HB6.out.trans (hb7.mono HB6.out.size)).mono lw2))
              clear hb7
              go_wp2_with fail
              go_ret
              exact ⟨rfl, HB7.out⟩
end Go.Proofs.YthpmfeijnphdbaaDoor
