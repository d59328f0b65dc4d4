/- Contract of layer 2's program: Parse. -/
import Derived.Test.YtabpkdblcinhjaaDoorK2
import Derived.Lib.PathFns
namespace Go.Proofs.YtabpkdblcinhjaaDoor
open Go Go.RowKit Go.Sort
attribute [local go_sem] Oper.semAt_some

/-- Ahead of the slash: all that came are low bytes and none a slash, or a high one came. -/
def NS (l : List UInt8) (pos : Nat) : Prop := (∀ c ∈ l.take pos, c.toNat < 128 ∧ c ≠ 47) ∨ (∃ c ∈ l.take pos, 128 ≤ c.toNat)
/-- What the Len's digits make of it. -/
def finP (A : Int) : Option (Int × Int) → Option (Int × Int)
  | none => none
  | some (n, d) => if d ≠ 0 ∧ right A n then some (A, n) else none

theorem take_mem_of_lt {l : List UInt8} {pos pos' : Nat} (h : pos < pos') (hp : pos < l.length) : l[pos]'hp ∈ l.take pos' := by
  rw [List.mem_take_iff_getElem]
  exact ⟨pos, by omega, rfl⟩
theorem take_mem_mono {l : List UInt8} {pos pos' : Nat} {c : UInt8} (h : pos ≤ pos') (hc : c ∈ l.take pos) : c ∈ l.take pos' := by
  rw [List.mem_take_iff_getElem] at hc ⊢
  obtain ⟨i, hi, e⟩ := hc
  exact ⟨i, by omega, e⟩
theorem take_next {l : List UInt8} {pos : Nat} (hp : pos < l.length) : l.take (pos + 1) = l.take pos ++ [l[pos]'hp] := by
  rw [List.take_succ_eq_append_getElem hp]
theorem split_at {l : List UInt8} {pos : Nat} (hp : pos < l.length) : l = l.take pos ++ l[pos]'hp :: l.drop (pos + 1) := by
  rw [← List.drop_eq_getElem_cons hp, List.take_append_drop]

theorem ns_low {l : List UInt8} {pos : Nat} (hp : pos < l.length) (h : NS l pos) (h1 : (l[pos]'hp).toNat < 128) (h2 : l[pos]'hp ≠ 47) : NS l (pos + 1) := by
  rcases h with h | ⟨c, hc, hh⟩
  · left
    intro c hc
    rw [take_next hp] at hc
    rcases List.mem_append.1 hc with h3 | h3
    · exact h c h3
    · obtain rfl : c = l[pos]'hp := by simpa using h3
      exact ⟨h1, h2⟩
  · exact .inr ⟨c, take_mem_mono (by omega) hc, hh⟩
theorem ns_high {l : List UInt8} {pos pos' : Nat} (hp : pos < l.length) (hlt : pos < pos') (h1 : 128 ≤ (l[pos]'hp).toNat) : NS l pos' := .inr ⟨_, take_mem_of_lt hlt hp, h1⟩
theorem high_all {l : List UInt8} {pos : Nat} (h : ∃ c ∈ l.take pos, 128 ≤ c.toNat) : pparse l = none := by
  obtain ⟨c, hc, hh⟩ := h
  exact pparse_high ⟨c, List.mem_of_mem_take hc, hh⟩
theorem ns_slash {l : List UInt8} {pos : Nat} (hp : pos < l.length) (h : NS l pos) (h47 : l[pos]'hp = 47) :
    pparse l = if (parsed (l.take pos)).2.2 = 0 then finP (parsed (l.take pos)).1 (readLen (l.drop (pos + 1)) 0 0) else none := by
  rcases h with h | h
  · have hc : cutSlash l = some (l.take pos, l.drop (pos + 1)) := by
      have := cutSlash_at (l := l.take pos) (r := l.drop (pos + 1)) (fun c hc => (h c hc).2)
      rw [← h47, ← split_at hp] at this
      exact this
    unfold pparse
    rw [hc]
    rfl
  · rw [high_all h]
    obtain ⟨c, hc, hh⟩ := h
    rw [parsed_high ⟨c, hc, by omega⟩]
    simp
theorem ns_end {l : List UInt8} {pos : Nat} (hp : l.length ≤ pos) (h : NS l pos) : pparse l = none := by
  rcases h with h | h
  · rw [List.take_of_length_le hp] at h
    unfold pparse
    rw [cutSlash_none (fun c hc => (h c hc).2)]
  · exact high_all h
theorem rl_step {l : List UInt8} {pos : Nat} (hp : pos < l.length) (n d : Int) : readLen (l.drop pos) n d = match stepD n d (l[pos]'hp).toNat with
    | none => none
    | some (n', d') => readLen (l.drop (pos + 1)) n' d' := by
  rw [List.drop_eq_getElem_cons hp]
  rfl

/-- What holds of Parse's world: its answer's cells, its reader, its iterator; what was there is as it was. -/
structure PQ (w : World) (s : ByteArray) (pos : Nat) (a n : Int) (sl : Bool) (d : Int) (wr : World) : Prop where
  c : Blk wr w.heap.size 25 #[.int .u32 0, .int .i64 0]
  rd : RP wr (w.heap.size + 1) a n sl d
  it : wr.heap[w.heap.size + 1 + 1]? = some (.stringIter s pos)
  bl : Below w.heap.size w wr
section
variable {w wr w' : World} {pos : Nat} {s : ByteArray} {a n d a' n' d' : Int} {sl sl' : Bool}
theorem PQ.next (h : PQ w s pos a n sl d wr) (pos' : Nat) : PQ w s pos' a n sl d (wr.iterAt (w.heap.size + 1 + 1) s pos') :=
  ⟨(Lib.iterAt_other _ _ _ _ _ (by omega)).trans h.c, (Lib.iterAt_other _ _ _ _ _ (by omega)).trans h.rd, Lib.iterAt_heap _ _ _ _ _ h.it, Lib.below_iterAt h.bl (by omega) _ _⟩
theorem PQ.took (h : PQ w s pos a n sl d wr) (hr : RP w' (w.heap.size + 1) a' n' sl' d') (hg : wr.grownBy w' (some (w.heap.size + 1))) : PQ w s pos a' n' sl' d' w' :=
  ⟨Blk.grown h.c hg (by simp), hr, (hg.block _ (Array.getElem?_eq_some_iff.1 h.it).1 (by simp)).trans h.it, h.bl.grown hg h.bl.size (fun k e => by cases e; omega)⟩
theorem PQ.lost (h : PQ w s pos a n sl d wr) (hg : wr.grownBy w' (some (w.heap.size + 1))) : Blk w' w.heap.size 25 #[.int .u32 0, .int .i64 0] ∧ Below w.heap.size w w' :=
  ⟨Blk.grown h.c hg (by simp), h.bl.grown hg h.bl.size (fun k e => by cases e; omega)⟩
end

/-- Behind a refusal. -/
theorem refused_end {w w' : World} (h : Blk w' w.heap.size 25 #[.int .u32 0, .int .i64 0] ∧ Below w.heap.size w w') :
    Blk ((w'.setCell ⟨w.heap.size, 0, none⟩ (.int .u32 0)).setCell ⟨w.heap.size, 1, none⟩ (.int .i64 0)) w.heap.size 25 #[.int .u32 0, .int .i64 0] ∧ Below w.heap.size w ((w'.setCell ⟨w.heap.size, 0, none⟩ (.int .u32 0)).setCell ⟨w.heap.size, 1, none⟩ (.int .i64 0)) :=
  ⟨by simpa using (h.1.set_ 0 (.int .u32 0)).set_ 1 (.int .i64 0), (h.2.setCell (p := ⟨w.heap.size, 0, none⟩) (Nat.le_refl _) _).setCell (p := ⟨w.heap.size, 1, none⟩) (Nat.le_refl _) _⟩

set_option maxRecDepth 100000 in
set_option maxHeartbeats 3200000 in
theorem pparse_any (s : ByteArray) (w : World) :
    Calls Tryd.prog 6 #[.string s] w fun e w' => e = pparseEnd s.data.toList ∧ Below w.heap.size w w' := by
  go_enter Tryd.func6, Tryd.ntmps6
  go_wp2_with fail
  refine wp_scope_fwd 0 rfl ?_
  go_wp2_with fail
  have h0 : PQ w s 0 0 0 false 0 (((w.alloc (.cells #[.int .u32 0, .int .i64 0] 25)).alloc (.cells #[.int .u32 0, .int .i64 0, .bool false, .int .i64 0] 53)).iter s 0) := by
    refine ⟨((Blk.new w _ _).alloc _).alloc _, ?_, ?_, ?_⟩
    · have := (Blk.new (w.alloc (.cells #[.int .u32 0, .int .i64 0] 25)) 53 #[.int .u32 0, .int .i64 0, .bool false, .int .i64 0]).alloc (.stringIter s 0)
      simpa [World.iter, RP, rdObj] using this
    · have := World.iter_heap ((w.alloc (.cells #[.int .u32 0, .int .i64 0] 25)).alloc (.cells #[.int .u32 0, .int .i64 0, .bool false, .int .i64 0] 53)) s 0
      simpa using this
    · exact (((Below.refl _ w).alloc (Nat.le_refl _) _).alloc (by simp) _).alloc (by simp; omega) _
  have H0 := Lib.hid h0
  clear h0
  have hend0 : pparse s.data.toList = none → pparseEnd s.data.toList = .returned (.tuple #[.agg #[.int .u32 0, .int .i64 0], .int .i64 120]) := fun h => by unfold pparseEnd; rw [h]
  have HEND0 := Lib.hid hend0
  clear hend0
  go_loopw [6] (fun _ wr => ∃ (pos : Nat) (a n d : Int) (sl : Bool), Hid (PQ w s pos a n sl d wr) ∧ Hid ((sl = false ∧ n = 0 ∧ d = 0 ∧ NS s.data.toList pos) ∨ (sl = true ∧ OkLen n d ∧ 0 ≤ a ∧ a < 4294967296 ∧ pparse s.data.toList = finP a (readLen (s.data.toList.drop pos) n d))))
    (fun _ wr => s.size - wr.iterPos (w.heap.size + 1 + 1))
  case atStart => exact ⟨0, 0, 0, 0, false, H0, .inl ⟨rfl, rfl, rfl, .inl (by simp)⟩⟩
  case round =>
    clear H0
    obtain ⟨pos, a, n, d, sl, HP, HI⟩ := hrel
    have hlen : s.data.toList.length = s.size := by simp
    have HL := Lib.hid hlen
    clear hlen
    by_cases hp : pos < s.size
    · have hpl : pos < s.data.toList.length := by rw [HL.out]; exact hp
      have hget : s.data.toList[pos]'hpl = s[pos]'hp := rfl
      have hnx0 := fun ty => Lib.run_next_any_at (P := Tryd.prog) wr (w.heap.size + 1 + 1) s pos ty HP.out.it hp
      have hcle := decode_le s pos
      have hcb : ((s[pos]'hp).toNat < 128 ∧ (Utf8.decode s pos).1 = (s[pos]'hp).toNat ∧ (Utf8.decode s pos).2 = 1) ∨ (128 ≤ (s[pos]'hp).toNat ∧ 128 ≤ (Utf8.decode s pos).1 ∧ 1 ≤ (Utf8.decode s pos).2) := by
        by_cases ha : (s[pos]'hp).toNat < 128
        · left; rw [decode_ascii s pos hp ha]; exact ⟨ha, rfl, rfl⟩
        · right; have := decode_high s pos hp (by omega); exact ⟨by omega, this.1, this.2⟩
      have hex : s.extract 0 pos = ⟨(s.data.toList.take pos).toArray⟩ := Go.Lib.Pa.extract_upto s pos
      have hP1 := HP.out.next (pos + (Utf8.decode s pos).2)
      have HGET := Lib.hid hget
      have HCB := Lib.hid hcb
      have HEX := Lib.hid hex
      have hit : wr.iterPos (w.heap.size + 1 + 1) = pos := by simp [World.iterPos, HP.out.it]
      have HIT := Lib.hid hit
      clear hget hcb hex hit
      generalize (Utf8.decode s pos).1 = c at *
      generalize (Utf8.decode s pos).2 = wd at *
      generalize wr.iterAt (w.heap.size + 1 + 1) s (pos + wd) = W1 at *
      have HP1 := Lib.hid hP1
      clear hP1
      rcases HI.out with ⟨rfl, rfl, rfl, hns⟩ | ⟨rfl, hok, ha0, ha1, hfin⟩
      · have HNS := Lib.hid hns
        clear hns HI
        by_cases h47 : c = 47
        · subst h47
          have hb : (s[pos]'hp).toNat = 47 ∧ wd = 1 := by rcases HCB.out with ⟨_, h1, h2⟩ | ⟨_, h1, _⟩ <;> omega
          have hpp := ns_slash hpl HNS.out (by rw [HGET.out]; exact UInt8.toNat_inj.1 (by rw [hb.1]; rfl))
          obtain rfl := hb.2
          have hrg := parsed_range (s.data.toList.take pos)
          have hts := take_slash (w.heap.size + 1) a 0 0 ⟨(s.data.toList.take pos).toArray⟩ W1 HP1.out.rd
          rw [← HEX.out] at hts
          have hby : (s.extract 0 pos).data.toList = s.data.toList.take pos := by rw [HEX.out]
          rw [hby] at hts
          have HTS := Lib.hid hts
          have HPP := Lib.hid hpp
          have HRG := Lib.hid hrg
          clear hts hpp hrg hby hb
          by_cases he : (parsed (s.data.toList.take pos)).2.2 = 0
          · have hts := HTS.out
            have hpp := HPP.out
            rw [if_pos he] at hpp
            rw [he] at hts
            have HTS2 := Lib.hid hts
            have HPP2 := Lib.hid hpp
            have HE := Lib.hid he
            clear he HTS HPP hts hpp
            generalize (parsed (s.data.toList.take pos)).1 = A at *
            go_wp2_with fail
            refine HTS2.out.mono ?_
            rintro e w3 ⟨rfl, hr, hg⟩
            have HP3 := Lib.hid (HP1.out.took hr hg)
            have hit3 : w3.iterPos (w.heap.size + 1 + 1) = pos + 1 := by simp [World.iterPos, HP3.out.it]
            have HIT3 := Lib.hid hit3
            clear hr hg hnx0 hit3
            go_wp2_with fail
            go_roundw
            case rel => exact ⟨pos + 1, A, 0, 0, true, HP3, .inr ⟨rfl, .inl ⟨rfl, rfl⟩, HRG.out.1, HRG.out.2, HPP2.out⟩⟩
            case measure => rw [HIT.out, HIT3.out]; omega
          · have hts := HTS.out
            have hpp := HPP.out
            rw [if_neg he] at hpp
            have hbe : ((parsed (s.data.toList.take pos)).2.2 == 0) = false := by simpa using he
            rw [hbe] at hts
            have HTS2 := Lib.hid hts
            have HE := Lib.hid (HEND0.out hpp)
            clear he HTS HPP hts hpp hbe
            go_wp2_with fail
            refine HTS2.out.mono ?_
            rintro e w3 ⟨rfl, hr, hg⟩
            have hR := HP1.out.lost hg
            have r0 := hR.1.cell 0
            have r1 := hR.1.cell 1
            have f0 := hR.1.frozen 0
            have f1 := hR.1.frozen 1
            simp only [List.getElem?_toArray, List.getElem?_cons_zero, List.getElem?_cons_succ] at r0 r1
            have HRE := Lib.hid (refused_end hR)
            clear hR hr hg hnx0
            go_wp2_with fail
            go_step3
            refine ⟨rfl, ?_⟩
            go_wp2_with fail
            rw [Exit.noGoto_ret]
            have c0 := HRE.out.1.cell 0
            have c1 := HRE.out.1.cell 1
            simp only [List.getElem?_toArray, List.getElem?_cons_zero, List.getElem?_cons_succ] at c0 c1
            exact bodyPost_ret (v := .tuple #[.agg #[.int .u32 0, .int .i64 0], .int .i64 120]) (by simp [results, Tryd.results6, go_sem, c0, c1]) rfl ⟨by rw [HE.out], HRE.out.2⟩
        · have htk := take_skip (w.heap.size + 1) a 0 0 c (s.extract 0 pos) (by omega) W1 HP1.out.rd
          have HTK := Lib.hid htk
          have hns2 : NS s.data.toList (pos + wd) := by
            rcases HCB.out with ⟨h0, h1, rfl⟩ | ⟨h0, _, h2⟩
            · refine ns_low hpl HNS.out (by rw [HGET.out]; exact h0) (fun e => h47 ?_)
              rw [HGET.out] at e
              rw [h1, e]; rfl
            · exact ns_high hpl (by omega) (by rw [HGET.out]; exact h0)
          have hwd : 1 ≤ wd := by rcases HCB.out with ⟨_, _, h2⟩ | ⟨_, _, h2⟩ <;> omega
          have HNS2 := Lib.hid hns2
          have hit3 : W1.iterPos (w.heap.size + 1 + 1) = pos + wd := by simp [World.iterPos, HP1.out.it]
          have HIT3 := Lib.hid hit3
          clear htk hns2 hit3 h47
          go_wp2_with fail
          refine HTK.out.mono ?_
          rintro e w3 ⟨rfl, rfl⟩
          clear hnx0
          go_wp2_with fail
          go_roundw
          case rel => exact ⟨pos + wd, a, 0, 0, false, HP1, .inl ⟨rfl, rfl, rfl, HNS2.out⟩⟩
          case measure => rw [HIT.out, HIT3.out]; omega
      · have HFI := Lib.hid hfin
        have HOK := Lib.hid hok
        have htd := take_dig (w.heap.size + 1) a n d c (s.extract 0 pos) (by omega) (by omega) hok W1 HP1.out.rd
        clear HI hfin
        cases hst : stepD n d c with
        | none =>
          have hpp : pparse s.data.toList = none := by
            rcases HCB.out with ⟨h0, h1, _⟩ | ⟨h0, _, _⟩
            · rw [HFI.out, rl_step hpl, HGET.out, ← h1, hst]; rfl
            · exact pparse_high ⟨_, List.getElem_mem hpl, by rw [HGET.out]; exact h0⟩
          rw [hst] at htd
          have HTD := Lib.hid htd
          have HE := Lib.hid (HEND0.out hpp)
          clear htd hpp hst hok
          go_wp2_with fail
          refine HTD.out.mono ?_
          rintro e w3 ⟨hg, rfl⟩
          have hR := HP1.out.lost hg
          have r0 := hR.1.cell 0
          have r1 := hR.1.cell 1
          have f0 := hR.1.frozen 0
          have f1 := hR.1.frozen 1
          simp only [List.getElem?_toArray, List.getElem?_cons_zero, List.getElem?_cons_succ] at r0 r1
          have HRE := Lib.hid (refused_end hR)
          clear hR hg hnx0
          go_wp2_with fail
          go_step3
          refine ⟨rfl, ?_⟩
          go_wp2_with fail
          rw [Exit.noGoto_ret]
          have c0 := HRE.out.1.cell 0
          have c1 := HRE.out.1.cell 1
          simp only [List.getElem?_toArray, List.getElem?_cons_zero, List.getElem?_cons_succ] at c0 c1
          exact bodyPost_ret (v := .tuple #[.agg #[.int .u32 0, .int .i64 0], .int .i64 120]) (by simp [results, Tryd.results6, go_sem, c0, c1]) rfl ⟨by rw [HE.out], HRE.out.2⟩
        | some q =>
          obtain ⟨n', d'⟩ := q
          have hlow : (s[pos]'hp).toNat < 128 ∧ c = (s[pos]'hp).toNat ∧ wd = 1 := by
            rcases HCB.out with h | ⟨_, h1, _⟩
            · exact h
            · rw [stepD_big (by omega)] at hst; cases hst
          obtain ⟨h0, h1, rfl⟩ := hlow
          have hfin2 : pparse s.data.toList = finP a (readLen (s.data.toList.drop (pos + 1)) n' d') := by
            rw [HFI.out, rl_step hpl, HGET.out, ← h1, hst]
          have hok2 := hok.step hst
          rw [hst] at htd
          have HTD := Lib.hid htd
          have HFI2 := Lib.hid hfin2
          have HOK2 := Lib.hid hok2
          clear htd hfin2 hok2 hst hok h0 h1
          go_wp2_with fail
          refine HTD.out.mono ?_
          rintro e w3 ⟨hg, rfl, hr⟩
          have HP3 := Lib.hid (HP1.out.took hr hg)
          have hit3 : w3.iterPos (w.heap.size + 1 + 1) = pos + 1 := by simp [World.iterPos, HP3.out.it]
          have HIT3 := Lib.hid hit3
          clear hr hg hnx0 hit3
          go_wp2_with fail
          go_roundw
          case rel => exact ⟨pos + 1, a, n', d', true, HP3, .inr ⟨rfl, HOK2.out, ha0, ha1, HFI2.out⟩⟩
          case measure => rw [HIT.out, HIT3.out]; omega
    · have hnx0 := fun ty => Lib.run_next_end_at (P := Tryd.prog) wr (w.heap.size + 1 + 1) s pos ty HP.out.it hp
      have b3 := Blk.cell HP.out.rd 3
      simp only [rdObj, List.getElem?_toArray, List.getElem?_cons_zero, List.getElem?_cons_succ] at b3
      have hdrop : s.data.toList.drop pos = [] := List.drop_of_length_le (by rw [HL.out]; omega)
      have HDR := Lib.hid hdrop
      clear hdrop
      have hcases : (d = 0 ∧ pparse s.data.toList = none) ∨ ((d == 0) = false ∧ 0 ≤ a ∧ a < 4294967296 ∧ pparse s.data.toList = if right a n then some (a, n) else none) := by
        rcases HI.out with ⟨_, _, h3, hns⟩ | ⟨_, hok, ha0, ha1, hfin⟩
        · exact .inl ⟨h3, ns_end (by rw [HL.out]; omega) hns⟩
        · rw [HDR.out] at hfin
          by_cases hd : d = 0
          · exact .inl ⟨hd, by rw [hfin]; simp [readLen, finP, hd]⟩
          · exact .inr ⟨by simpa using hd, ha0, ha1, by rw [hfin]; simp [readLen, finP, hd]⟩
      clear HI
      rcases hcases with ⟨rfl, hpp⟩ | ⟨hd, ha0, ha1, hpp⟩
      · have HE := Lib.hid (HEND0.out hpp)
        have hR : Blk wr w.heap.size 25 #[.int .u32 0, .int .i64 0] ∧ Below w.heap.size w wr := ⟨HP.out.c, HP.out.bl⟩
        clear hpp
        have HRE := Lib.hid (refused_end hR)
        have r0 := hR.1.cell 0
        have r1 := hR.1.cell 1
        have f0 := hR.1.frozen 0
        have f1 := hR.1.frozen 1
        simp only [List.getElem?_toArray, List.getElem?_cons_zero, List.getElem?_cons_succ] at r0 r1
        clear hR
        go_wp2_with fail
        go_step3
        refine ⟨rfl, ?_⟩
        go_wp2_with fail
        rw [Exit.noGoto_ret]
        have c0 := HRE.out.1.cell 0
        have c1 := HRE.out.1.cell 1
        simp only [List.getElem?_toArray, List.getElem?_cons_zero, List.getElem?_cons_succ] at c0 c1
        exact bodyPost_ret (v := .tuple #[.agg #[.int .u32 0, .int .i64 0], .int .i64 120]) (by simp [results, Tryd.results6, go_sem, c0, c1]) rfl ⟨by rw [HE.out], HRE.out.2⟩
      · have b0 := Blk.cell HP.out.rd 0
        have b1 := Blk.cell HP.out.rd 1
        simp only [rdObj, List.getElem?_toArray, List.getElem?_cons_zero, List.getElem?_cons_succ] at b0 b1
        by_cases hr : right a n
        · have hc : chk a n = 0 := if_pos hr
          have HC := Lib.hid hc
          rw [if_pos hr] at hpp
          have hE : pparseEnd s.data.toList = .returned (.tuple #[.agg #[.int .u32 a, .int .i64 n], .int .i64 0]) := by unfold pparseEnd; rw [hpp]
          have HE := Lib.hid hE
          clear hc hpp hE hr
          go_wp2_with fail
          refine (check_any a n ha0 ha1 _).mono ?_
          rw [HC.out]
          rintro e w2 ⟨rfl, hb⟩
          have hR := HP.out.c.below hb HP.out.c.lt
          have hrd := Blk.below HP.out.rd hb (Blk.lt HP.out.rd)
          have hbl := HP.out.bl.trans (hb.mono HP.out.bl.size)
          have r0 := hR.cell 0
          have r1 := hR.cell 1
          have f0 := hR.frozen 0
          have f1 := hR.frozen 1
          have b0 := Blk.cell hrd 0
          have b1 := Blk.cell hrd 1
          simp only [rdObj, List.getElem?_toArray, List.getElem?_cons_zero, List.getElem?_cons_succ] at r0 r1 b0 b1
          have hset : Blk ((w2.setCell ⟨w.heap.size, 0, none⟩ (.int .u32 a)).setCell ⟨w.heap.size, 1, none⟩ (.int .i64 n)) w.heap.size 25 #[.int .u32 a, .int .i64 n] := by
            simpa using (hR.set_ 0 (.int .u32 a)).set_ 1 (.int .i64 n)
          have hbs : Below w.heap.size w ((w2.setCell ⟨w.heap.size, 0, none⟩ (.int .u32 a)).setCell ⟨w.heap.size, 1, none⟩ (.int .i64 n)) := (hbl.setCell (p := ⟨w.heap.size, 0, none⟩) (Nat.le_refl _) _).setCell (p := ⟨w.heap.size, 1, none⟩) (Nat.le_refl _) _
          have HS := Lib.hid hset
          have HBS := Lib.hid hbs
          clear hb hR hrd hbl hset hbs hnx0
          go_wp2_with fail
          simp only [Exit.jump_ret]
          have c0 := HS.out.cell 0
          have c1 := HS.out.cell 1
          simp only [List.getElem?_toArray, List.getElem?_cons_zero, List.getElem?_cons_succ] at c0 c1
          exact bodyPost_ret (v := .tuple #[.agg #[.int .u32 a, .int .i64 n], .int .i64 0]) (by simp [results, Tryd.results6, go_sem, c0, c1]) rfl ⟨by rw [HE.out], HBS.out⟩
        · have hc : chk a n = 2 := if_neg hr
          have HC := Lib.hid hc
          rw [if_neg hr] at hpp
          have HE := Lib.hid (HEND0.out hpp)
          clear hc hpp hr
          go_wp2_with fail
          refine (check_any a n ha0 ha1 _).mono ?_
          rw [HC.out]
          rintro e w2 ⟨rfl, hb⟩
          have hR : Blk w2 w.heap.size 25 #[.int .u32 0, .int .i64 0] ∧ Below w.heap.size w w2 := ⟨HP.out.c.below hb HP.out.c.lt, HP.out.bl.trans (hb.mono HP.out.bl.size)⟩
          have HRE := Lib.hid (refused_end hR)
          have r0 := hR.1.cell 0
          have r1 := hR.1.cell 1
          have f0 := hR.1.frozen 0
          have f1 := hR.1.frozen 1
          simp only [List.getElem?_toArray, List.getElem?_cons_zero, List.getElem?_cons_succ] at r0 r1
          clear hR hb hnx0
          go_wp2_with fail
          go_step3
          refine ⟨rfl, ?_⟩
          go_wp2_with fail
          rw [Exit.noGoto_ret]
          have c0 := HRE.out.1.cell 0
          have c1 := HRE.out.1.cell 1
          simp only [List.getElem?_toArray, List.getElem?_cons_zero, List.getElem?_cons_succ] at c0 c1
          exact bodyPost_ret (v := .tuple #[.agg #[.int .u32 0, .int .i64 0], .int .i64 120]) (by simp [results, Tryd.results6, go_sem, c0, c1]) rfl ⟨by rw [HE.out], HRE.out.2⟩
end Go.Proofs.YtabpkdblcinhjaaDoor
