/- The walk of OctetPlays. -/
import Derived.Test.YthpmfeijnphdbaaDoorN5
import Derived.Test.YthpmfeijnphdbaaDoorN6
import Derived.Test.YthpmfeijnphdbaaDoorN7
import Derived.Test.YthpmfeijnphdbaaDoorN8
namespace Go.Proofs.YthpmfeijnphdbaaDoor
open Go Go.RowKit Go.Sort
attribute [local go_sem] Oper.semAt_some
attribute [local irreducible] wpQuiet

theorem then_block {n : Nat} {K : Act → World → Prop} {Q : Exit → Act → World → Prop} : ∀ (e : Exit) (a : Act) (w : World), Exit.then K (fun _ _ _ => False) e a w → Exit.inBlock n (Exit.then K Q) e a w := fun e a w h => by
  cases e <;> first | exact h | exact h.elim

set_option maxRecDepth 1000000 in
set_option maxHeartbeats 6400000 in
theorem law03_plays (p1 : Option Addr) (c1 : Nat) (xs : List Int) (b1 : IsBytes xs) (hcap : xs.length ≤ c1) (p2 : Option Addr) (c2 : Nat) (l : List (Int × Int)) (w : World) (x1 : ByS w p1 xs) (x2 : ActS w p2 l) (hf : Fit3 w) :
    Calls Tryd.prog 5 #[.slice p1 xs.length c1, .slice p2 l.length c2] w fun e w' => e = .returned (.bool true) ∧ Below w.heap.size w w' := by
  have B1 := Lib.hid b1
  have X1 := Lib.hid x1
  have X2 := Lib.hid x2
  have HF := Lib.hid hf
  clear b1 x1 x2 hf
  by_cases hbig : 100 < xs.length ∨ 40 < l.length
  · go_enter Tryd.func5, Tryd.ntmps5
    by_cases h2 : 100 < xs.length
    · go_wp2_with fail
      refine (works3_any _ HF.out).mono ?_
      rintro e w' ⟨rfl, hb⟩
      have HB := Lib.hid hb
      clear hb
      go_wp2_with fail
      go_ret
      exact ⟨rfl, HB.out⟩
    · have h3 : 40 < l.length := by omega
      go_wp2_with fail
      refine (works3_any _ HF.out).mono ?_
      rintro e w' ⟨rfl, hb⟩
      have HB := Lib.hid hb
      clear hb
      go_wp2_with fail
      go_ret
      exact ⟨rfl, HB.out⟩
  · have s1 : ¬ 100 < xs.length := by omega
    have s2 : ¬ 40 < l.length := by omega
    clear hbig
    have HE : OwnB w.heap.size (w.alloc (.cells #[] 5)) (.slice (some ⟨w.heap.size, 0, none⟩) 0 0) [] := World.ownsRow_made w #[] 0 (Nat.le_refl _) (Nat.zero_le _) (by simp)
    have HW0 : Below w.heap.size w (w.alloc (.cells #[] 5)) := (Below.refl _ _).alloc (Nat.le_refl _) _
    have K1 : ([] : List Int).length + xs.length ≤ 1000000 := by simp; omega
    have HY1 := Lib.hid (X1.out.below HW0)
    have HHE := Lib.hid HE
    have HHW := Lib.hid HW0
    clear HE HW0
    go_enter Tryd.func5, Tryd.ntmps5
    go_wp2_with (first | (at_builtin; refine wpList_app_bytes (v := .slice (some ⟨w.heap.size, 0, none⟩) 0 0) (xs := []) (p := p1) (ys := xs) (c := c1) rfl _ _ rfl w.heap.size rfl HHE.out rfl HY1.out K1 (by simp) ?_))
    intro v2 w2 o2 g2 n2
    have hb2 := own_below (by simp) HHW.out HHE.out g2
    have HO2 := Lib.hid o2
    have HB2 := Lib.hid hb2
    obtain ⟨p, c, rfl, hc, hy, hbp⟩ := o2.byS
    have hnew := new3_any p c xs w2 B1.out (by omega) hy
    have HN := Lib.hid hnew
    clear o2 g2 n2 hb2 hy hnew HHE HHW HY1 K1
    go_wp2_with fail
    refine HN.out.mono ?_
    rintro e w3 ⟨r, rfl, hrd, hrl, hb3⟩
    have HR3 := Lib.hid hrd
    have HB3 := Lib.hid (HB2.out.trans (hb3.mono HB2.out.size))
    have hsp : SpB w3 p xs.length := (SpB.ofOwn HO2.out).below hb3
    have l3 := hb3.size
    have hpl : ∀ x, p = some x → w.heap.size ≤ x.block ∧ x.block < w2.heap.size := fun x e => by
      subst e
      exact HO2.out.lt _ rfl
    have HSP := Lib.hid hsp
    have HPL := Lib.hid hpl
    clear hsp hpl hrd hb3 hbp HN HO2
    go_wp2_with fail
    have hq0 : SpB (w3.alloc (.cells #[.slice p1 xs.length c1, .int .i64 0] 41)) p xs.length := HSP.out.below ((Below.refl _ _).alloc (Nat.le_refl _) _)
    have hr0 : Rd3 w2.heap.size (w3.alloc (.cells #[.slice p1 xs.length c1, .int .i64 0] 41)) r xs 0 := HR3.out.keep ((Below.refl _ _).alloc (Nat.le_refl _) _)
    have hbl0 : Below w.heap.size w (w3.alloc (.cells #[.slice p1 xs.length c1, .int .i64 0] 41)) := HB3.out.alloc HB3.out.size _
    have hw0 := Blk.new w3 41 #[.slice p1 xs.length c1, .int .i64 0]
    have hr3 := HR3.out.lt
    have hsz : (w3.alloc (.cells #[.slice p1 xs.length c1, .int .i64 0] 41)).heap.size = w3.heap.size + 1 := by simp
    generalize w3.alloc (.cells #[.slice p1 xs.length c1, .int .i64 0] 41) = w4 at *
    have HC4 : Hid (PCtx w w2.heap.size w3.heap.size r p1 c1 xs 0 w4) := ⟨hw0, hr0, hbl0, Nat.zero_le _, HB2.out.size, l3, by omega⟩
    have HQ4 := Lib.hid hq0
    clear hq0 hr0 hbl0 hw0 HSP HR3 HB3
    go_loopw [8] (fun i wr => ∃ j : Nat, j ≤ xs.length ∧ i = .int .i64 j ∧ Hid (SpB wr p xs.length) ∧ Hid (w4.grownBy wr (rowOf p))) (fun i _ => xs.length - (intOf i).toNat)
    case atStart => exact ⟨0, by omega, rfl, HQ4, grown_refl _ _⟩
    case round =>
      clear HQ4
      obtain ⟨j, hj, rfl, HQ, HG⟩ := hrel
      by_cases hjl : j < xs.length
      · obtain ⟨g, cur, hpe, hg, hcz⟩ := HQ.out (by omega)
        obtain ⟨z, hz⟩ := hcz j hjl
        have c0 := hg.cell j
        rw [hz] at c0
        have f0 := hg.frozen j
        have jz : (j : Int) < (xs.length : Int) := by omega
        subst hpe
        clear hcz hz hg
        go_wp2_with fail
        refine ⟨⟨j + 1, by omega, by simp, HQ.out.set j _, grown_trans HG.out (grown_set _ _ _ _)⟩, by simp only [intOf]; omega⟩
      · have hje : j = xs.length := by omega
        subst hje
        have jz : ¬ (xs.length : Int) < (xs.length : Int) := by omega
        have HC : Hid (PCtx w w2.heap.size w3.heap.size r p1 c1 xs 0 wr) := by
          have h := HC4.out
          have hg := HG.out
          have hpl := HPL.out
          cases p with
          | none => exact ⟨h.want.grown hg (by simp), h.rd.row hg (fun x e => by cases e), h.bel.grown hg h.bel.size (fun k e => by cases e), h.ha, h.hb, h.hw, h.ne⟩
          | some x =>
            have := hpl x rfl
            exact ⟨h.want.grown hg (by simp; omega), h.rd.row hg (fun y e => by cases e; exact this.2), h.bel.grown hg h.bel.size (fun k e => by cases e; exact this.1), h.ha, h.hb, h.hw, h.ne⟩
        clear HC4 HQ HG HPL
        go_wp2_with fail
        generalize hbase : w2.heap.size = base at *
        generalize hwb : w3.heap.size = wb at *
        clear HB2 hbase hwb hc hrl l3 hr3 hsz
        go_loopw [9] (fun i wm => ∃ (j a : Nat), j ≤ l.length ∧ i = .int .i64 j ∧ Hid (PCtx w base wb r p1 c1 xs a wm)) (fun i _ => l.length - (intOf i).toNat)
        case atStart => exact ⟨0, 0, by omega, rfl, HC⟩
        case round =>
          clear HC
          obtain ⟨j, a, hj, rfl, HC⟩ := hrel
          by_cases hjl : j < l.length
          · have jz : (j : Int) < (l.length : Int) := by omega
            obtain ⟨b, o, hp2, hb0, hac⟩ := X2.out (by omega)
            have a0 := (HC.out.bel.cell (p := ⟨b, o + j * 2, none⟩) hb0).trans (hac j hjl).1
            have a1 := (HC.out.bel.cell (p := ⟨b, o + j * 2 + 1, none⟩) hb0).trans (hac j hjl).2
            have hbl : b < wr.heap.size := Nat.lt_of_lt_of_le hb0 HC.out.bel.size
            subst hp2
            have w0 := HC.out.want.cell 0
            have w1 := HC.out.want.cell 1
            simp only [List.getElem?_toArray, List.getElem?_cons_zero, List.getElem?_cons_succ] at w0 w1
            clear hac
            generalize (l[j]'hjl).1 = what at *
            generalize (l[j]'hjl).2 = k at *
            have hwh : (what = 0 ∨ what = 1 ∨ what = 2) ∨ what = 3 ∨ (¬ what = 0 ∧ ¬ what = 1 ∧ ¬ what = 2 ∧ ¬ what = 3) := by omega
            go_upto_block 4 with fail
            go_cut [10, 11, 12, 13, 14, 15, 16, 17, 18] from 50 to 158 (fun _ _ _ _ _ _ _ _ _ wx => ∃ a' : Nat, Hid (PCtx w base wb r p1 c1 xs a' wx))
            case first =>
              go_upto_if 75 with fail
              go_cut [60, 75] from 50 to 158 (fun v60 v75 wx => v60 = .int .i64 what ∧ v75 = .bool (decide (what = 0 ∨ what = 1 ∨ what = 2)) ∧ wr = wx)
              case first =>
                rcases hwh with (rfl | rfl | rfl) | rfl | ⟨n0, n1, n2, n3⟩
                · go_wp2_with fail
                  go_meet
                  exact ⟨rfl, by simp, rfl⟩
                · go_wp2_with fail
                  go_meet
                  exact ⟨rfl, by simp, rfl⟩
                · go_wp2_with fail
                  go_meet
                  exact ⟨rfl, by simp, rfl⟩
                · go_wp2_with fail
                  go_meet
                  exact ⟨rfl, by simp, rfl⟩
                · go_wp2_with fail
                  go_meet
                  exact ⟨rfl, by simp [n0, n1, n2], rfl⟩
              case rest =>
                obtain ⟨rfl, rfl, rfl⟩ := hcut
                apply_assumption
                by_cases h012 : what = 0 ∨ what = 1 ∨ what = 2
                · rw [decide_eq_true h012]
                  refine Code.wp_mono then_block (plays_take s1 HC B1 X1 HF jz hbl a1 _ _ _ _ _ _ _ _ _ _ _ _ _ _ _ _ _ _ _ _ _ _ _ _ _ _ _ _ _ _ _ _ _ _ _ _ _ _ _ _ _ _ _ _ _ _ _ _ _ _ _ _ _ _ _ _ _ _ _ _ _ _ _ _ _ _ _ _ _ _ _ _ _ _ _ _ _ _ _ _ _ _ _ _ _ _ _ _ _ _ _ _ _ _ _ _ _ _ _ _ _ _ _ _ _ _ _ _ _ _ _ _ _ _ _ _ _ _ _ _ _ _ _ _ _ _ _ _ _ _ _ _ _ _ _ _ _ _ _ _ _ _ _ _ _ _ _ _ _ _ _ _ _ _ _ _ _ _ _ _ _ _ _ _ _ _ _ _ _ _ _ _ _ _ _ _ _ _ _ _ _ _ _ ?_)
                  intro v10 v11 v12 v13 v14 v15 v16 v17 v18 v50 v51 v52 v53 v54 v55 v56 v57 v58 v59 v60 v61 v62 v63 v64 v65 v66 v67 v68 v69 v70 v71 v72 v73 v74 v75 v76 v77 v78 v79 v80 v81 v82 v83 v84 v85 v86 v87 v88 v89 v90 v91 v92 v93 v94 v95 v96 v97 v98 v99 v100 v101 v102 v103 v104 v105 v106 v107 v108 v109 v110 v111 v112 v113 v114 v115 v116 v117 v118 v119 v120 v121 v122 v123 v124 v125 v126 v127 v128 v129 v130 v131 v132 v133 v134 v135 v136 v137 v138 v139 v140 v141 v142 v143 v144 v145 v146 v147 v148 v149 v150 v151 v152 v153 v154 v155 v156 v157 v158 wx h
                  go_wp2_with fail
                  go_meet
                  exact h
                · rw [decide_eq_false h012]
                  by_cases h3 : 3 = what
                  · refine Code.wp_mono then_block (plays_skip s1 HC h3 hb0 jz hbl a1 _ _ _ _ _ _ _ _ _ _ _ _ _ _ _ _ _ _ _ _ _ _ _ _ _ _ _ _ _ _ _ _ _ _ _ _ _ _ _ _ _ _ _ _ _ _ _ _ _ _ _ _ _ _ _ _ _ _ _ _ _ _ _ _ _ _ _ _ _ _ _ _ _ _ _ _ _ _ _ _ _ _ _ _ _ _ _ _ _ _ _ _ _ _ _ _ _ _ _ _ _ _ _ _ _ _ _ _ _ _ _ _ _ _ _ _ _ _ _ _ _ _ _ _ _ _ _ _ _ _ _ _ _ _ _ _ _ _ _ _ _ _ _ _ _ _ _ _ _ _ _ _ _ _ _ _ _ _ _ _ _ _ _ _ _ _ _ _ _ _ _ _ _ _ _ _ _ _ _ _ _ _ _ ?_)
                    intro v10 v11 v12 v13 v14 v15 v16 v17 v18 v50 v51 v52 v53 v54 v55 v56 v57 v58 v59 v60 v61 v62 v63 v64 v65 v66 v67 v68 v69 v70 v71 v72 v73 v74 v75 v76 v77 v78 v79 v80 v81 v82 v83 v84 v85 v86 v87 v88 v89 v90 v91 v92 v93 v94 v95 v96 v97 v98 v99 v100 v101 v102 v103 v104 v105 v106 v107 v108 v109 v110 v111 v112 v113 v114 v115 v116 v117 v118 v119 v120 v121 v122 v123 v124 v125 v126 v127 v128 v129 v130 v131 v132 v133 v134 v135 v136 v137 v138 v139 v140 v141 v142 v143 v144 v145 v146 v147 v148 v149 v150 v151 v152 v153 v154 v155 v156 v157 v158 wx h
                    go_wp2_with fail
                    go_meet
                    exact h
                  · refine Code.wp_mono then_block (plays_spoil s1 HC (fun e => h3 e.symm) _ _ _ _ _ _ _ _ _ _ _ _ _ _ _ _ _ _ _ _ _ _ _ _ _ _ _ _ _ _ _ _ _ _ _ _ _ _ _ _ _ _ _ _ _ _ _ _ _ _ _ _ _ _ _ _ _ _ _ _ _ _ _ _ _ _ _ _ _ _ _ _ _ _ _ _ _ _ _ _ _ _ _ _ _ _ _ _ _ _ _ _ _ _ _ _ _ _ _ _ _ _ _ _ _ _ _ _ _ _ _ _ _ _ _ _ _ _ _ _ _ _ _ _ _ _ _ _ _ _ _ _ _ _ _ _ _ _ _ _ _ _ _ _ _ _ _ _ _ _ _ _ _ _ _ _ _ _ _ _ _ _ _ _ _ _ _ _ _ _ _ _ _ _ _ _ _ _ _ _ _ _ _ ?_)
                    intro v10 v11 v12 v13 v14 v15 v16 v17 v18 v50 v51 v52 v53 v54 v55 v56 v57 v58 v59 v60 v61 v62 v63 v64 v65 v66 v67 v68 v69 v70 v71 v72 v73 v74 v75 v76 v77 v78 v79 v80 v81 v82 v83 v84 v85 v86 v87 v88 v89 v90 v91 v92 v93 v94 v95 v96 v97 v98 v99 v100 v101 v102 v103 v104 v105 v106 v107 v108 v109 v110 v111 v112 v113 v114 v115 v116 v117 v118 v119 v120 v121 v122 v123 v124 v125 v126 v127 v128 v129 v130 v131 v132 v133 v134 v135 v136 v137 v138 v139 v140 v141 v142 v143 v144 v145 v146 v147 v148 v149 v150 v151 v152 v153 v154 v155 v156 v157 v158 wx h
                    go_wp2_with fail
                    go_meet
                    exact h
            case rest =>
              obtain ⟨a', HC'⟩ := hcut
              apply_assumption
              refine Code.wp_mono then_block (plays_check s1 HC' X1 hcap _ _ _ _ _ _ _ _ _ _ _ _ _ _ _ _ _ _ _ _ _ _ _ _ _ _ _ _ _ _ _ _ _ _ _ _ _ _ _ _ _ _ _ _ _ _ _ _ _ _ _ _ _ _ _ _ _ _ _ _ _ _ _ _ _ _ _ _ _ _ _ _ _ _ _ _ _ _ _ _ _ _ _ _ _ _ _ _ _ _ _ _ _ _ _ _ _ _ _ _ _ _ _ _ _ _ _ _ _ _ _ _ _ _ _ _ _ _ _ _ _ _ _ _ _ _ _ _ _ _ _ _ _ _ _ _ _ _ _ _ _ _ _ _ _ _ _ _ _ _ _ _ _ _ _ _ _ _ _ _ _ _ _ _ _ _ _ _ _ _ _ _ _ _ _ _ _ _ _ _ _ _ _ _ _ ?_)
              intro v10 v11 v12 v13 v14 v15 v16 v17 v18 v50 v51 v52 v53 v54 v55 v56 v57 v58 v59 v60 v61 v62 v63 v64 v65 v66 v67 v68 v69 v70 v71 v72 v73 v74 v75 v76 v77 v78 v79 v80 v81 v82 v83 v84 v85 v86 v87 v88 v89 v90 v91 v92 v93 v94 v95 v96 v97 v98 v99 v100 v101 v102 v103 v104 v105 v106 v107 v108 v109 v110 v111 v112 v113 v114 v115 v116 v117 v118 v119 v120 v121 v122 v123 v124 v125 v126 v127 v128 v129 v130 v131 v132 v133 v134 v135 v136 v137 v138 v139 v140 v141 v142 v143 v144 v145 v146 v147 v148 v149 v150 v151 v152 v153 v154 v155 v156 v157 v158 wx HC2
              clear HC HC' w0 w1 a0 a1
              go_wp2_with fail
              go_roundw
              all_goals first | exact ⟨j + 1, a', by omega, by simp, HC2⟩ | (simp only [intOf]; omega)
          · have hje : j = l.length := by omega
            subst hje
            have jz : ¬ (l.length : Int) < (l.length : Int) := by omega
            have HBM := Lib.hid HC.out.bel
            clear HC
            have HT := Lib.hid (nil3_take 1)
            have HK := Lib.hid (nil3_skip 0)
            have HA := Lib.hid nil3_at
            have HL := Lib.hid nil3_left
            have HE := Lib.hid nil3_rest
            have hnum := num3_any
            go_wp2_with (first | (refine (hnum _ _).mono ?_; rintro e w' ⟨rfl, rfl⟩) | (refine (HT.out _).mono ?_; rintro e w' ⟨rfl, rfl⟩) | (refine (HK.out _).mono ?_; rintro e w' ⟨rfl, rfl⟩) | (refine (HA.out _).mono ?_; rintro e w' ⟨rfl, rfl⟩) | (refine (HL.out _).mono ?_; rintro e w' ⟨rfl, rfl⟩) | (refine (HE.out _).mono ?_; rintro e w' ⟨rfl, rfl⟩))
            refine (works3_any _ (HF.out.below HBM.out)).mono ?_
            rintro e w' ⟨rfl, hb⟩
            have HB := Lib.hid (HBM.out.trans (hb.mono HBM.out.size))
            clear hb
            go_wp2_with fail
            go_ret
            exact ⟨rfl, HB.out⟩
end Go.Proofs.YthpmfeijnphdbaaDoor
