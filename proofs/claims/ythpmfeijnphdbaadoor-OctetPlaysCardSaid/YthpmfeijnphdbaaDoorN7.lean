/- OctetPlays: what is left is spoilt. -/
import Derived.Test.YthpmfeijnphdbaaDoorN4
namespace Go.Proofs.YthpmfeijnphdbaaDoor
open Go Go.RowKit Go.Sort
attribute [local go_sem] Oper.semAt_some
attribute [local irreducible] wpQuiet

set_option maxRecDepth 1000000 in
set_option maxHeartbeats 6400000 in
theorem plays_spoil {w : World} {base wb r : Nat} {p1 : Option Addr} {c1 : Nat} {xs : List Int} {a : Nat} {wr : World} {l : List (Int × Int)} {c2 j b o : Nat} {what : Int} (s1 : ¬ 100 < xs.length) (HC : Hid (PCtx w base wb r p1 c1 xs a wr)) (n3 : ¬ what = 3) (u2 u3 u4 u5 u8 u10 u11 u12 u13 u14 u15 u16 u17 u18 u19 u20 u21 u22 u23 u24 u25 u26 u27 u28 u29 u30 u31 u32 u33 u34 u35 u36 u37 u38 u39 u40 u41 u42 u43 u44 u45 u46 u47 u48 u49 u50 u51 u52 u53 u54 u55 u56 u57 u58 u59 u61 u62 u63 u64 u65 u66 u67 u68 u69 u70 u71 u72 u73 u74 u76 u77 u78 u79 u80 u81 u82 u83 u84 u85 u86 u87 u88 u89 u90 u91 u92 u93 u94 u95 u96 u97 u98 u99 u100 u101 u102 u103 u104 u105 u106 u107 u108 u109 u110 u111 u112 u113 u114 u115 u116 u117 u118 u119 u120 u121 u122 u123 u124 u125 u126 u127 u128 u129 u130 u131 u132 u133 u134 u135 u136 u137 u138 u139 u140 u141 u142 u143 u144 u145 u146 u147 u148 u149 u150 u151 u152 u153 u154 u155 u156 u157 u158 u159 u160 u161 u162 u163 u164 u165 u166 u167 u168 u169 u170 u171 u172 u173 u174 u175 u176 u177 u178 u179 u180 u181 u182 u183 u184 u185 u186 u187 : Value) (K : Act → World → Prop) (Q : Exit → Act → World → Prop)
    (hK : ∀ (v10 v11 v12 v13 v14 v15 v16 v17 v18 v50 v51 v52 v53 v54 v55 v56 v57 v58 v59 v60 v61 v62 v63 v64 v65 v66 v67 v68 v69 v70 v71 v72 v73 v74 v75 v76 v77 v78 v79 v80 v81 v82 v83 v84 v85 v86 v87 v88 v89 v90 v91 v92 v93 v94 v95 v96 v97 v98 v99 v100 v101 v102 v103 v104 v105 v106 v107 v108 v109 v110 v111 v112 v113 v114 v115 v116 v117 v118 v119 v120 v121 v122 v123 v124 v125 v126 v127 v128 v129 v130 v131 v132 v133 v134 v135 v136 v137 v138 v139 v140 v141 v142 v143 v144 v145 v146 v147 v148 v149 v150 v151 v152 v153 v154 v155 v156 v157 v158 : Value) (wx : World), (∃ a' : Nat, Hid (PCtx w base wb r p1 c1 xs a' wx)) → K ⟨#[.slice p1 xs.length c1, .slice (some ⟨b, o, none⟩) l.length c2, u2, u3, u4, u5, .pointer (some ⟨r, 0, none⟩), .pointer (some ⟨wb, 0, none⟩), u8, .int .i64 j, v10, v11, v12, v13, v14, v15, v16, v17, v18, u19, u20, u21, u22, u23, u24, u25, u26, u27, u28, u29, u30, u31, u32, u33, u34, u35, u36, u37, u38, u39, u40, u41, u42, u43, u44, u45, u46, u47, u48, u49, v50, v51, v52, v53, v54, v55, v56, v57, v58, v59, v60, v61, v62, v63, v64, v65, v66, v67, v68, v69, v70, v71, v72, v73, v74, v75, v76, v77, v78, v79, v80, v81, v82, v83, v84, v85, v86, v87, v88, v89, v90, v91, v92, v93, v94, v95, v96, v97, v98, v99, v100, v101, v102, v103, v104, v105, v106, v107, v108, v109, v110, v111, v112, v113, v114, v115, v116, v117, v118, v119, v120, v121, v122, v123, v124, v125, v126, v127, v128, v129, v130, v131, v132, v133, v134, v135, v136, v137, v138, v139, v140, v141, v142, v143, v144, v145, v146, v147, v148, v149, v150, v151, v152, v153, v154, v155, v156, v157, v158, u159, u160, u161, u162, u163, u164, u165, u166, u167, u168, u169, u170, u171, u172, u173, u174, u175, u176, u177, u178, u179, u180, u181, u182, u183, u184, u185, u186, u187], []⟩ wx) :
    Code.wp Tryd.prog (codeIn Tryd.f5 [1,1,1,1,1,1,0,1,0,0,1,0,0,0,1,0,1]) (Exit.then K Q) ⟨#[.slice p1 xs.length c1, .slice (some ⟨b, o, none⟩) l.length c2, u2, u3, u4, u5, .pointer (some ⟨r, 0, none⟩), .pointer (some ⟨wb, 0, none⟩), u8, .int .i64 j, u10, u11, u12, u13, u14, u15, u16, u17, u18, u19, u20, u21, u22, u23, u24, u25, u26, u27, u28, u29, u30, u31, u32, u33, u34, u35, u36, u37, u38, u39, u40, u41, u42, u43, u44, u45, u46, u47, u48, u49, u50, u51, u52, u53, u54, u55, u56, u57, u58, u59, .int .i64 what, u61, u62, u63, u64, u65, u66, u67, u68, u69, u70, u71, u72, u73, u74, .bool false, u76, u77, u78, u79, u80, u81, u82, u83, u84, u85, u86, u87, u88, u89, u90, u91, u92, u93, u94, u95, u96, u97, u98, u99, u100, u101, u102, u103, u104, u105, u106, u107, u108, u109, u110, u111, u112, u113, u114, u115, u116, u117, u118, u119, u120, u121, u122, u123, u124, u125, u126, u127, u128, u129, u130, u131, u132, u133, u134, u135, u136, u137, u138, u139, u140, u141, u142, u143, u144, u145, u146, u147, u148, u149, u150, u151, u152, u153, u154, u155, u156, u157, u158, u159, u160, u161, u162, u163, u164, u165, u166, u167, u168, u169, u170, u171, u172, u173, u174, u175, u176, u177, u178, u179, u180, u181, u182, u183, u184, u185, u186, u187], []⟩ wr := by
  conv => arg 2; whnf
  dsimp only
  have w0 := HC.out.want.cell 0
  have w1 := HC.out.want.cell 1
  simp only [List.getElem?_toArray, List.getElem?_cons_zero, List.getElem?_cons_succ] at w0 w1
  have hrest := rest3_any wr r xs a HC.out.rd HC.out.ha
  have HRS := Lib.hid hrest
  clear hrest
  go_wp2_with fail
  refine HRS.out.mono ?_
  rintro e w7 ⟨v, rfl, ho, hb7⟩
  obtain ⟨p7, c7, rfl, _, _, hp7⟩ := ho.byS
  have hsp := SpB.ofOwn ho
  have HSP := Lib.hid hsp
  have HP7 := Lib.hid hp7
  have HB7 := Lib.hid hb7
  have HCK : Hid (∀ V, Below wr.heap.size wr V → Hid (PCtx w base wb r p1 c1 xs a V)) := fun V hV => HC.out.keep hV
  have hnl : (xs.drop a).length ≤ 100 := by simp; omega
  generalize (xs.drop a).length = n at *
  clear ho hsp hp7 hb7 HRS w0 w1 HC
  go_wp2_with fail
  go_loopw [18] (fun i wq => ∃ q : Nat, q ≤ n ∧ i = .int .i64 q ∧ Hid (SpB wq p7 n) ∧ Hid (w7.grownBy wq (rowOf p7))) (fun i _ => n - (intOf i).toNat)
  case atStart => exact ⟨0, by omega, rfl, HSP, grown_refl _ _⟩
  case round =>
    clear HSP
    obtain ⟨q, hq, rfl, HQ, HG⟩ := hrel
    by_cases hql : q < n
    · obtain ⟨g, cur, hpe, hg, hcz⟩ := HQ.out (by omega)
      obtain ⟨z, hz⟩ := hcz q hql
      have c0 := hg.cell q
      rw [hz] at c0
      have f0 := hg.frozen q
      have qz : (q : Int) < (n : Int) := by omega
      subst hpe
      clear hcz hz hg
      go_wp2_with fail
      refine ⟨⟨q + 1, by omega, by simp, HQ.out.set q _, grown_trans HG.out (grown_set _ _ _ _)⟩, by simp only [intOf]; omega⟩
    · have hqe : q = n := by omega
      subst hqe
      have qz : ¬ (q : Int) < (q : Int) := by omega
      have HC7 := HCK.out _ (below_row HB7.out HG.out HB7.out.size (fun x e => HP7.out x e))
      clear HQ HG HP7 HB7 HCK
      go_wp2_with fail
      exact ⟨a, HC7⟩

end Go.Proofs.YthpmfeijnphdbaaDoor
