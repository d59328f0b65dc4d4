/- OctetPlays: a number is taken. -/
import Derived.Test.YthpmfeijnphdbaaDoorN4
namespace Go.Proofs.YthpmfeijnphdbaaDoor
open Go Go.RowKit Go.Sort
attribute [local go_sem] Oper.semAt_some
attribute [local irreducible] wpQuiet

set_option maxRecDepth 1000000 in
set_option maxHeartbeats 6400000 in
theorem plays_take {w : World} {base wb r : Nat} {p1 : Option Addr} {c1 : Nat} {xs : List Int} {a : Nat} {wr : World} {l : List (Int × Int)} {c2 j b o : Nat} {what : Int} (s1 : ¬ 100 < xs.length) (HC : Hid (PCtx w base wb r p1 c1 xs a wr)) (B1 : Hid (IsBytes xs)) (X1 : Hid (ByS w p1 xs)) (HF : Hid (Fit3 w)) {k : Int} (jz : (j : Int) < (l.length : Int)) (hbl : b < wr.heap.size) (a1 : wr.cell? ⟨b, o + j * 2 + 1, none⟩ = some (.int .i64 k)) (u2 u3 u4 u5 u8 u10 u11 u12 u13 u14 u15 u16 u17 u18 u19 u20 u21 u22 u23 u24 u25 u26 u27 u28 u29 u30 u31 u32 u33 u34 u35 u36 u37 u38 u39 u40 u41 u42 u43 u44 u45 u46 u47 u48 u49 u50 u51 u52 u53 u54 u55 u56 u57 u58 u59 u61 u62 u63 u64 u65 u66 u67 u68 u69 u70 u71 u72 u73 u74 u76 u77 u78 u79 u80 u81 u82 u83 u84 u85 u86 u87 u88 u89 u90 u91 u92 u93 u94 u95 u96 u97 u98 u99 u100 u101 u102 u103 u104 u105 u106 u107 u108 u109 u110 u111 u112 u113 u114 u115 u116 u117 u118 u119 u120 u121 u122 u123 u124 u125 u126 u127 u128 u129 u130 u131 u132 u133 u134 u135 u136 u137 u138 u139 u140 u141 u142 u143 u144 u145 u146 u147 u148 u149 u150 u151 u152 u153 u154 u155 u156 u157 u158 u159 u160 u161 u162 u163 u164 u165 u166 u167 u168 u169 u170 u171 u172 u173 u174 u175 u176 u177 u178 u179 u180 u181 u182 u183 u184 u185 u186 u187 : Value) (K : Act → World → Prop) (Q : Exit → Act → World → Prop)
    (hK : ∀ (v10 v11 v12 v13 v14 v15 v16 v17 v18 v50 v51 v52 v53 v54 v55 v56 v57 v58 v59 v60 v61 v62 v63 v64 v65 v66 v67 v68 v69 v70 v71 v72 v73 v74 v75 v76 v77 v78 v79 v80 v81 v82 v83 v84 v85 v86 v87 v88 v89 v90 v91 v92 v93 v94 v95 v96 v97 v98 v99 v100 v101 v102 v103 v104 v105 v106 v107 v108 v109 v110 v111 v112 v113 v114 v115 v116 v117 v118 v119 v120 v121 v122 v123 v124 v125 v126 v127 v128 v129 v130 v131 v132 v133 v134 v135 v136 v137 v138 v139 v140 v141 v142 v143 v144 v145 v146 v147 v148 v149 v150 v151 v152 v153 v154 v155 v156 v157 v158 : Value) (wx : World), (∃ a' : Nat, Hid (PCtx w base wb r p1 c1 xs a' wx)) → K ⟨#[.slice p1 xs.length c1, .slice (some ⟨b, o, none⟩) l.length c2, u2, u3, u4, u5, .pointer (some ⟨r, 0, none⟩), .pointer (some ⟨wb, 0, none⟩), u8, .int .i64 j, v10, v11, v12, v13, v14, v15, v16, v17, v18, u19, u20, u21, u22, u23, u24, u25, u26, u27, u28, u29, u30, u31, u32, u33, u34, u35, u36, u37, u38, u39, u40, u41, u42, u43, u44, u45, u46, u47, u48, u49, v50, v51, v52, v53, v54, v55, v56, v57, v58, v59, v60, v61, v62, v63, v64, v65, v66, v67, v68, v69, v70, v71, v72, v73, v74, v75, v76, v77, v78, v79, v80, v81, v82, v83, v84, v85, v86, v87, v88, v89, v90, v91, v92, v93, v94, v95, v96, v97, v98, v99, v100, v101, v102, v103, v104, v105, v106, v107, v108, v109, v110, v111, v112, v113, v114, v115, v116, v117, v118, v119, v120, v121, v122, v123, v124, v125, v126, v127, v128, v129, v130, v131, v132, v133, v134, v135, v136, v137, v138, v139, v140, v141, v142, v143, v144, v145, v146, v147, v148, v149, v150, v151, v152, v153, v154, v155, v156, v157, v158, u159, u160, u161, u162, u163, u164, u165, u166, u167, u168, u169, u170, u171, u172, u173, u174, u175, u176, u177, u178, u179, u180, u181, u182, u183, u184, u185, u186, u187], []⟩ wx) :
    Code.wp Tryd.prog (codeIn Tryd.f5 [1,1,1,1,1,1,0,1,0,0,1,0,0,0,1,0,1]) (Exit.then K Q) ⟨#[.slice p1 xs.length c1, .slice (some ⟨b, o, none⟩) l.length c2, u2, u3, u4, u5, .pointer (some ⟨r, 0, none⟩), .pointer (some ⟨wb, 0, none⟩), u8, .int .i64 j, u10, u11, u12, u13, u14, u15, u16, u17, u18, u19, u20, u21, u22, u23, u24, u25, u26, u27, u28, u29, u30, u31, u32, u33, u34, u35, u36, u37, u38, u39, u40, u41, u42, u43, u44, u45, u46, u47, u48, u49, u50, u51, u52, u53, u54, u55, u56, u57, u58, u59, .int .i64 what, u61, u62, u63, u64, u65, u66, u67, u68, u69, u70, u71, u72, u73, u74, .bool true, u76, u77, u78, u79, u80, u81, u82, u83, u84, u85, u86, u87, u88, u89, u90, u91, u92, u93, u94, u95, u96, u97, u98, u99, u100, u101, u102, u103, u104, u105, u106, u107, u108, u109, u110, u111, u112, u113, u114, u115, u116, u117, u118, u119, u120, u121, u122, u123, u124, u125, u126, u127, u128, u129, u130, u131, u132, u133, u134, u135, u136, u137, u138, u139, u140, u141, u142, u143, u144, u145, u146, u147, u148, u149, u150, u151, u152, u153, u154, u155, u156, u157, u158, u159, u160, u161, u162, u163, u164, u165, u166, u167, u168, u169, u170, u171, u172, u173, u174, u175, u176, u177, u178, u179, u180, u181, u182, u183, u184, u185, u186, u187], []⟩ wr := by
  conv => arg 2; whnf
  dsimp only
  have w0 := HC.out.want.cell 0
  have w1 := HC.out.want.cell 1
  simp only [List.getElem?_toArray, List.getElem?_cons_zero, List.getElem?_cons_succ] at w0 w1
  go_upto_region 22 with fail
  obtain ⟨v, no, a', ha', hT, hR⟩ := take_both B1.out (by omega) X1.out HC.out k
  have hS : ∀ V, Below wr.heap.size wr V → V.cell? ⟨wb, 0, none⟩ = some (.slice p1 xs.length c1) ∧ V.cell? ⟨wb, 1, none⟩ = some (.int .i64 a) ∧ V.cell? ⟨b, o + j * 2 + 1, none⟩ = some (.int .i64 k) := fun V hV =>
    ⟨(hV.cell (p := ⟨wb, 0, none⟩) HC.out.want.lt).trans w0, (hV.cell (p := ⟨wb, 1, none⟩) HC.out.want.lt).trans w1, (hV.cell (p := ⟨b, o + j * 2 + 1, none⟩) hbl).trans a1⟩
  have HT := Lib.hid hT
  have HR := Lib.hid hR
  have HS := Lib.hid hS
  clear hT hR hS
  go_cut [10, 11, 12] from 50 to 158 (fun v10 v11 v12 wx => ∃ ob, v10 = .pointer (some ⟨ob, 0, none⟩) ∧ v11 = .int .u32 v ∧ v12 = .int .i64 no ∧ wr.heap.size ≤ ob ∧ Hid (Blk wx ob 41 #[.slice p1 xs.length c1, .int .i64 a']) ∧ Hid (Below wr.heap.size wr wx))
  case first =>
    go_region_held3 (fun w' => w'.cell? ⟨wb, 0, none⟩ = some (.slice p1 xs.length c1) ∧ w'.cell? ⟨wb, 1, none⟩ = some (.int .i64 a) ∧ w'.cell? ⟨b, o + j * 2 + 1, none⟩ = some (.int .i64 k))
      (first
        | exact HS.out _ (below_drew _)
        | exact HS.out _ ((below_drew _).alloc (Nat.le_refl _) _)
        | exact HS.out _ (below_call (below_drew _) hbk)
        | exact HS.out _ (below_call ((below_drew _).alloc (Nat.le_refl _) _) hbk)
        | exact HS.out _ ((below_call (below_drew _) hbk).alloc (below_call (below_drew _) hbk).size _)
        | exact HS.out _ (((below_call ((below_drew _).alloc (Nat.le_refl _) _) hbk).setCell (Nat.le_refl _) _).setCell (Nat.le_refl _) _)
        | fail)
      (first | (go_at_call 15; refine (HT.out _ (by first | exact below_drew _ | exact (below_drew _).alloc (Nat.le_refl _) _)).mono ?_; rintro e w' ⟨rfl, hbk⟩; try (have hz := (Blk.new wr.drew 41 #[.slice none 0 0, .int .i64 0]).below hbk (by simp); have z0 : w'.cell? ⟨wr.heap.size, 0, none⟩ = some (.slice none 0 0) := (by simpa using hz.cell 0); have z1 : w'.cell? ⟨wr.heap.size, 1, none⟩ = some (.int .i64 0) := (by simpa using hz.cell 1); have y0 : w'.frozen? ⟨wr.heap.size, 0, none⟩ = false := hz.frozen 0; have y1 : w'.frozen? ⟨wr.heap.size, 1, none⟩ = false := hz.frozen 1; clear hz)))
    · go_wp2_with fail
      go_meet
      exact ⟨w'.heap.size, rfl, rfl, rfl, hbk.size, Blk.new _ _ _, (below_call (below_drew _) hbk).alloc (below_call (below_drew _) hbk).size _⟩
    · go_wp2_with fail
      go_meet
      have hbb := below_call ((below_drew wr).alloc (Nat.le_refl _) _) hbk
      have hz := (Blk.new wr.drew 41 #[.slice none 0 0, .int .i64 0]).below hbk (by simp)
      exact ⟨wr.heap.size, rfl, rfl, rfl, Nat.le_refl _, Lib.hid (by simpa using (hz.set_ 0 (.slice p1 xs.length c1)).set_ 1 (.int .i64 a')), (hbb.setCell (Nat.le_refl _) _).setCell (Nat.le_refl _) _⟩
  case rest =>
    obtain ⟨ob, rfl, rfl, rfl, hob, HOB, HBL⟩ := hcut
    have HC2 := Lib.hid (HC.out.keep HBL.out)
    obtain ⟨_, _, a2⟩ := HS.out _ HBL.out
    have HR2 := Lib.hid (HR.out _ HC2.out.rd (HF.out.below HC2.out.bel))
    have hnum := num3_any
    have hrl := HC.out.rd.lt
    clear HT HR HS w0 w1 a1 HC
    go_wp2_with fail
    refine HR2.out.mono ?_
    rintro e w7 ⟨rfl, hr7, hg7⟩
    have hwne := HC2.out.ne
    have hone : ob ≠ r := by omega
    have hob7 := HOB.out.grown hg7 (by simpa using hone)
    have hwb7 := HC2.out.want.grown hg7 (by simp; omega)
    have o0 := hob7.cell 0
    have o1 := hob7.cell 1
    have w0 := hwb7.cell 0
    have w1 := hwb7.cell 1
    have f0 := hwb7.frozen 0
    have f1 := hwb7.frozen 1
    simp only [List.getElem?_toArray, List.getElem?_cons_zero, List.getElem?_cons_succ] at o0 o1 w0 w1
    have HC7 : Hid (PCtx w base wb r p1 c1 xs a' ((w7.setCell ⟨wb, 0, none⟩ (.slice p1 xs.length c1)).setCell ⟨wb, 1, none⟩ (.int .i64 a'))) := HC2.out.moved hr7 hg7 ha'
    clear a2 HR2 HOB HBL HC2 hr7 hg7 hob7 hwb7
    go_wp2_with (first | (refine (hnum _ _).mono ?_; rintro e w' ⟨rfl, rfl⟩))
    exact ⟨a', HC7⟩

end Go.Proofs.YthpmfeijnphdbaaDoor
