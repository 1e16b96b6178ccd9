/- The law: under PlAll all are due, under PlLatest at most one (region 21). -/
import Derived.Test.YtkhajpefnkialaaOnceC
import Derived.Deep.QuietTactic
namespace Go.Proofs.Ytkhajpefnkialaa.Job
open Go.RowKit

set_option maxRecDepth 1000000 in
set_option maxHeartbeats 16000000 in
theorem pol_wp (v0 v2 v5 v7 v8 v9 v10 v11 v12 v13 v14 v15 v16 v17 v18 v19 v20 v21 v22 v23 v24 v25 v26 v27 v28 v29 v30 v31 v32 v33 v34 v35 v36 v37 v38 v39 v40 v41 v42 v43 v44 v45 v46 v47 v48 v49 v50 v51 v52 v53 v54 v55 v56 v57 v58 v59 v60 v61 v62 v63 v64 v65 v66 v67 v68 v69 v70 v71 v72 v73 v74 v75 v76 v77 v78 v79 v80 v81 v82 v83 v84 v85 v86 v87 v88 v89 v90 v91 v92 v93 v94 v95 v96 v97 v98 v99 v100 v101 v102 v103 v104 v105 v106 v107 v108 v109 v110 v111 v112 v113 v114 v115 v116 v117 v118 v119 v120 v121 v122 v123 v124 v125 v126 v127 v128 v129 v130 v131 v132 v133 v134 v135 v136 v137 v138 v139 v140 v141 v142 v143 v144 v145 v146 v147 v148 v149 v150 v151 v152 v153 v154 v155 v156 v157 v158 v159 v160 v161 v162 v163 v164 v165 v166 v167 v168 v169 v170 v171 v172 v173 v174 v175 v176 v177 v178 v179 v180 v181 v182 v183 v184 v185 v186 v187 v188 v189 v190 v191 v192 v193 v194 v195 v196 v197 v198 v199 v200 v201 : Value) (Q : Exit → Act → World → Prop) (w wx : World) (B : Nat) (l : Lt) (a b g : Option Addr) (ca cb n : Nat) (hn : n = l.ds.length + l.cs.length) (hm : l.May) (hw : OnceW w wx B l a ca b cb g)
    (hq : ∀ (y157 y158 y159 y160 y161 y162 y163 y164 y165 y166 y167 y168 y169 y170 y171 y172 y173 y174 y175 y176 y177 y178 y179 : Value), Q .normal ⟨#[v0, .pointer (some ⟨B, 0, none⟩), v2, .slice a l.dues.length ca, .slice b l.skips.length cb, v5, .int .i64 (n : Int), v7, v8, v9, v10, v11, v12, v13, v14, v15, v16, v17, v18, v19, v20, v21, v22, v23, v24, v25, v26, v27, v28, v29, v30, v31, v32, v33, v34, v35, v36, v37, v38, v39, v40, v41, v42, v43, v44, v45, v46, v47, v48, v49, v50, v51, v52, v53, v54, v55, v56, v57, v58, v59, v60, v61, v62, v63, v64, v65, v66, v67, v68, v69, v70, v71, v72, v73, v74, v75, v76, v77, v78, v79, v80, v81, v82, v83, v84, v85, v86, v87, v88, v89, v90, v91, v92, v93, v94, v95, v96, v97, v98, v99, v100, v101, v102, v103, v104, v105, v106, v107, v108, v109, v110, v111, v112, v113, v114, v115, v116, v117, v118, v119, v120, v121, v122, v123, v124, v125, v126, v127, v128, v129, v130, v131, v132, v133, v134, v135, v136, v137, v138, v139, v140, v141, v142, v143, v144, v145, v146, v147, v148, v149, v150, v151, v152, v153, v154, v155, v156, y157, y158, y159, y160, y161, y162, y163, y164, y165, y166, y167, y168, y169, y170, y171, y172, y173, y174, y175, y176, y177, y178, y179, .bool false, v181, v182, v183, v184, v185, v186, v187, v188, v189, v190, v191, v192, v193, v194, v195, v196, v197, v198, v199, v200, v201], []⟩ wx) :
    Code.wp Try.prog (rgn 21) Q ⟨#[v0, .pointer (some ⟨B, 0, none⟩), v2, .slice a l.dues.length ca, .slice b l.skips.length cb, v5, .int .i64 (n : Int), v7, v8, v9, v10, v11, v12, v13, v14, v15, v16, v17, v18, v19, v20, v21, v22, v23, v24, v25, v26, v27, v28, v29, v30, v31, v32, v33, v34, v35, v36, v37, v38, v39, v40, v41, v42, v43, v44, v45, v46, v47, v48, v49, v50, v51, v52, v53, v54, v55, v56, v57, v58, v59, v60, v61, v62, v63, v64, v65, v66, v67, v68, v69, v70, v71, v72, v73, v74, v75, v76, v77, v78, v79, v80, v81, v82, v83, v84, v85, v86, v87, v88, v89, v90, v91, v92, v93, v94, v95, v96, v97, v98, v99, v100, v101, v102, v103, v104, v105, v106, v107, v108, v109, v110, v111, v112, v113, v114, v115, v116, v117, v118, v119, v120, v121, v122, v123, v124, v125, v126, v127, v128, v129, v130, v131, v132, v133, v134, v135, v136, v137, v138, v139, v140, v141, v142, v143, v144, v145, v146, v147, v148, v149, v150, v151, v152, v153, v154, v155, v156, v157, v158, v159, v160, v161, v162, v163, v164, v165, v166, v167, v168, v169, v170, v171, v172, v173, v174, v175, v176, v177, v178, v179, v180, v181, v182, v183, v184, v185, v186, v187, v188, v189, v190, v191, v192, v193, v194, v195, v196, v197, v198, v199, v200, v201], []⟩ wx := by
  conv => arg 2; whnf
  have HQ := Lib.hid hq
  clear hq
  obtain ⟨⟨c0, c1, c2⟩, c3, c4, c5⟩ := lobj_cells hw.row
  have HALL := Lib.hid (@Lt.all_due l hm)
  have HONE := Lib.hid (@Lt.one_due l hm)
  generalize l.dues.length = L at *
  generalize l.skips.length = S at *
  rw [← hn] at HALL
  by_cases p2 : l.pol = 2
  · have e2 : (l.pol == 2) = true := by simp [p2]
    have e3 : (l.pol == 3) = false := by simp [p2]
    by_cases hr : (n : Int) ≤ l.room
    · have d1 : decide ((n : Int) ≤ l.room) = true := decide_eq_true hr
      obtain rfl := HALL.out p2 hr
      clear p2 hm hw HALL HONE hn
      go_wp2_with fail
      exact HQ.out _ _ _ _ _ _ _ _ _ _ _ _ _ _ _ _ _ _ _ _ _ _ _
    · have d1 : decide ((n : Int) ≤ l.room) = false := decide_eq_false hr
      clear p2 hm hw HALL HONE hn
      go_wp2_with fail
      exact HQ.out _ _ _ _ _ _ _ _ _ _ _ _ _ _ _ _ _ _ _ _ _ _ _
  · have e2 : (l.pol == 2) = false := by simpa using p2
    by_cases p3 : l.pol = 3
    · have e3 : (l.pol == 3) = true := by simp [p3]
      have d1 : decide ((1 : Int) < (L : Int)) = false := by have := HONE.out p3; simp; omega
      clear p2 p3 hm hw HALL HONE hn
      go_wp2_with fail
      exact HQ.out _ _ _ _ _ _ _ _ _ _ _ _ _ _ _ _ _ _ _ _ _ _ _
    · have e3 : (l.pol == 3) = false := by simpa using p3
      clear p2 p3 hm hw HALL HONE hn
      go_wp2_with fail
      exact HQ.out _ _ _ _ _ _ _ _ _ _ _ _ _ _ _ _ _ _ _ _ _ _ _
end Go.Proofs.Ytkhajpefnkialaa.Job
