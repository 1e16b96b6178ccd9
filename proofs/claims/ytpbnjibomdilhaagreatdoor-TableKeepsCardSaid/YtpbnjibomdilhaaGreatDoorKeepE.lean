/- The law: Seen never falls, a Version rises by one (region 33). -/
import Derived.Test.YtpbnjibomdilhaaGreatDoorMaz
import Derived.Deep.QuietTactic
namespace Go.Proofs.YtpbnjibomdilhaaGreatDoor.Job
open Go.RowKit Go.Maps

set_option maxRecDepth 1000000 in
set_option maxHeartbeats 16000000 in
theorem seen_wp (v0 v1 v2 v3 v4 v6 v7 v11 v12 v13 v16 v17 v18 v19 v20 v21 v22 v23 v24 v25 v26 v27 v28 v29 v30 v31 v32 v33 v34 v35 v36 v37 v38 v39 v40 v41 v42 v43 v44 v45 v46 v47 v48 v49 v50 v51 v52 v53 v54 v55 v56 v57 v58 v59 v60 v61 v62 v63 v64 v65 v66 v67 v68 v69 v70 v71 v72 v73 v74 v75 v76 v77 v78 v79 v80 v81 v82 v83 v84 v85 v86 v87 v88 v89 v90 v91 v92 v93 v94 v95 v96 v97 v98 v99 v100 v101 v102 v103 v104 v105 v106 v107 v108 v109 v110 v111 v112 v113 v114 v115 v116 v117 v118 v119 v120 v121 v122 v123 v124 v125 v126 v127 v128 v129 v130 v131 v132 v133 v134 v135 v136 v137 v138 v139 v140 v141 v142 v143 v144 v145 v146 v147 v148 v149 v150 v151 v152 v153 v154 v155 v156 v157 v158 v159 v160 v161 v162 v163 v164 v165 v166 v167 v168 v169 v170 v171 v172 v173 v174 v175 v176 v177 v178 v179 v180 v181 v182 v183 v184 v185 v186 v187 v188 v189 v190 v191 v192 v193 v194 v195 v196 v197 v198 v199 v200 v201 v202 v203 v204 v205 v206 v207 v208 v209 v210 v211 v212 v213 v214 v215 v216 v217 v218 v219 v220 v221 v222 v223 v224 v225 v226 v227 v228 v229 v230 v231 v232 v233 v234 v235 v236 v237 v238 v239 v240 v241 v242 v243 v244 v245 v246 v247 v248 v249 v250 v251 v252 v253 v254 v255 v256 v257 v258 v259 : Value) (Q : Exit → Act → World → Prop) (wx : World) (O F G : Nat) (o : OpV) (old now : J) (had has : Bool) (L L' : List J) (last last' e0 : Int) (i : Nat) (hO : wx.heap[O]? = some (opobj o)) (hF : wx.heap[F]? = some (jobj old)) (hG : wx.heap[G]? = some (jobj now))
    (hhad : had = (findJ L o.id).isSome) (hhas : has = (findJ L' o.id).isSome) (hold : ∀ m, findJ L o.id = some m → old.seen = m.seen ∧ old.ver = m.ver) (hnow : ∀ m, findJ L' o.id = some m → now.seen = m.seen ∧ now.ver = m.ver) (hver : 0 ≤ old.ver ∧ old.ver ≤ 100)
    (hok : StepOk i o.kind o.id L last e0 L' last') (hq : ∀ (y144 y145 y146 y147 y148 y149 y150 y151 y152 y153 y154 y155 y156 y157 y158 y159 y160 y161 y162 y163 y164 y165 y166 y167 y168 y169 y170 y171 y172 y173 y174 y175 y176 y177 y178 y179 y180 y181 y182 y183 y184 y185 y186 y187 y188 y189 y190 y191 : Value), Q .normal ⟨#[v0, v1, v2, v3, v4, .pointer (some ⟨O, 0, none⟩), v6, v7, .pointer (some ⟨F, 0, none⟩), .bool had, .int .i64 e0, v11, v12, v13, .pointer (some ⟨G, 0, none⟩), .bool has, v16, v17, v18, v19, v20, v21, v22, v23, v24, v25, v26, v27, v28, v29, v30, v31, v32, v33, v34, v35, v36, v37, v38, v39, v40, v41, v42, v43, v44, v45, v46, v47, v48, v49, v50, v51, v52, v53, v54, v55, v56, v57, v58, v59, v60, v61, v62, v63, v64, v65, v66, v67, v68, v69, v70, v71, v72, v73, v74, v75, v76, v77, v78, v79, v80, v81, v82, v83, v84, v85, v86, v87, v88, v89, v90, v91, v92, v93, v94, v95, v96, v97, v98, v99, v100, v101, v102, v103, v104, v105, v106, v107, v108, v109, v110, v111, v112, v113, v114, v115, v116, v117, v118, v119, v120, v121, v122, v123, v124, v125, v126, v127, v128, v129, v130, v131, v132, v133, v134, v135, v136, v137, v138, v139, v140, v141, v142, v143, y144, y145, y146, y147, y148, y149, y150, y151, y152, y153, y154, y155, y156, y157, y158, y159, y160, y161, y162, y163, y164, y165, y166, y167, y168, y169, y170, y171, y172, y173, y174, y175, y176, y177, y178, y179, y180, y181, y182, y183, y184, y185, y186, y187, y188, y189, y190, y191, .bool false, v193, v194, v195, v196, v197, v198, v199, v200, v201, v202, v203, v204, v205, v206, v207, v208, v209, v210, v211, v212, v213, v214, v215, v216, v217, v218, v219, v220, v221, v222, v223, v224, v225, v226, v227, v228, v229, v230, v231, v232, v233, v234, v235, v236, v237, v238, v239, v240, v241, v242, v243, v244, v245, v246, v247, v248, v249, v250, v251, v252, v253, v254, v255, v256, v257, v258, v259], []⟩ wx) :
    Code.wp Tryz.prog (rgn 33) Q ⟨#[v0, v1, v2, v3, v4, .pointer (some ⟨O, 0, none⟩), v6, v7, .pointer (some ⟨F, 0, none⟩), .bool had, .int .i64 e0, v11, v12, v13, .pointer (some ⟨G, 0, none⟩), .bool has, v16, v17, v18, v19, v20, v21, v22, v23, v24, v25, v26, v27, v28, v29, v30, v31, v32, v33, v34, v35, v36, v37, v38, v39, v40, v41, v42, v43, v44, v45, v46, v47, v48, v49, v50, v51, v52, v53, v54, v55, v56, v57, v58, v59, v60, v61, v62, v63, v64, v65, v66, v67, v68, v69, v70, v71, v72, v73, v74, v75, v76, v77, v78, v79, v80, v81, v82, v83, v84, v85, v86, v87, v88, v89, v90, v91, v92, v93, v94, v95, v96, v97, v98, v99, v100, v101, v102, v103, v104, v105, v106, v107, v108, v109, v110, v111, v112, v113, v114, v115, v116, v117, v118, v119, v120, v121, v122, v123, v124, v125, v126, v127, v128, v129, v130, v131, v132, v133, v134, v135, v136, v137, v138, v139, v140, v141, v142, v143, v144, v145, v146, v147, v148, v149, v150, v151, v152, v153, v154, v155, v156, v157, v158, v159, v160, v161, v162, v163, v164, v165, v166, v167, v168, v169, v170, v171, v172, v173, v174, v175, v176, v177, v178, v179, v180, v181, v182, v183, v184, v185, v186, v187, v188, v189, v190, v191, v192, v193, v194, v195, v196, v197, v198, v199, v200, v201, v202, v203, v204, v205, v206, v207, v208, v209, v210, v211, v212, v213, v214, v215, v216, v217, v218, v219, v220, v221, v222, v223, v224, v225, v226, v227, v228, v229, v230, v231, v232, v233, v234, v235, v236, v237, v238, v239, v240, v241, v242, v243, v244, v245, v246, v247, v248, v249, v250, v251, v252, v253, v254, v255, v256, v257, v258, v259], []⟩ wx := by
  conv => arg 2; whnf
  have HQ := Lib.hid hq
  obtain ⟨⟨⟨o0, -, -, -⟩, -⟩, -⟩ := op_cells hO
  have f11 := (jobj_cells hF).2.2.2.2.2.2
  have f10 := (jobj_cells hF).2.2.2.2.2.1
  have g11 := (jobj_cells hG).2.2.2.2.2.2
  have g10 := (jobj_cells hG).2.2.2.2.2.1
  have hv0 := hver.1
  have hv1 := hver.2
  have HHAD := Lib.hid hhad
  have HOK := Lib.hid hok
  have HV := Lib.hid (show had = true → has = true → now.seen ≥ old.seen ∧ (now.ver = old.ver ∨ (o.kind = 1 ∧ now.ver = old.ver + 1)) from fun h1 h2 => by
    rw [hhad] at h1
    rw [hhas] at h2
    obtain ⟨a, ha⟩ := Option.isSome_iff_exists.1 h1
    obtain ⟨c, hc⟩ := Option.isSome_iff_exists.1 h2
    obtain ⟨s1, s2⟩ := hok.seen a c ha hc
    obtain ⟨p1, p2⟩ := hold a ha
    obtain ⟨q1, q2⟩ := hnow c hc
    rw [p1, p2, q1, q2]
    exact ⟨s1, s2⟩)
  clear hq hO hF hG hver hhad hhas hold hnow hok
  cases had with
  | false =>
    by_cases he : e0 = 0
    · have he1 : (e0 == 0) = true := by simp [he]
      by_cases p0 : 0 < o.kind
      · have pd0 : decide (0 < o.kind) = true := decide_eq_true p0
        by_cases p5 : o.kind < 5
        · have pd5 : decide (o.kind < 5) = true := decide_eq_true p5
          have := HOK.out.had he p0 p5
          rw [← HHAD.out] at this
          cases this
        · have pd5 : decide (o.kind < 5) = false := decide_eq_false p5
          clear he
          go_wp2_with fail
          exact HQ.out _ _ _ _ _ _ _ _ _ _ _ _ _ _ _ _ _ _ _ _ _ _ _ _ _ _ _ _ _ _ _ _ _ _ _ _ _ _ _ _ _ _ _ _ _ _ _ _
      · have pd0 : decide (0 < o.kind) = false := decide_eq_false p0
        clear he
        go_wp2_with fail
        exact HQ.out _ _ _ _ _ _ _ _ _ _ _ _ _ _ _ _ _ _ _ _ _ _ _ _ _ _ _ _ _ _ _ _ _ _ _ _ _ _ _ _ _ _ _ _ _ _ _ _
    · have he1 : (e0 == 0) = false := by simpa using he
      clear he
      go_wp2_with fail
      exact HQ.out _ _ _ _ _ _ _ _ _ _ _ _ _ _ _ _ _ _ _ _ _ _ _ _ _ _ _ _ _ _ _ _ _ _ _ _ _ _ _ _ _ _ _ _ _ _ _ _
  | true =>
    cases has with
    | false =>
      by_cases he : e0 = 0
      · have he1 : (e0 == 0) = true := by simp [he]
        by_cases p0 : 0 < o.kind
        · have pd0 : decide (0 < o.kind) = true := decide_eq_true p0
          by_cases p5 : o.kind < 5
          · have pd5 : decide (o.kind < 5) = true := decide_eq_true p5
            clear he
            go_wp2_with fail
            exact HQ.out _ _ _ _ _ _ _ _ _ _ _ _ _ _ _ _ _ _ _ _ _ _ _ _ _ _ _ _ _ _ _ _ _ _ _ _ _ _ _ _ _ _ _ _ _ _ _ _
          · have pd5 : decide (o.kind < 5) = false := decide_eq_false p5
            clear he
            go_wp2_with fail
            exact HQ.out _ _ _ _ _ _ _ _ _ _ _ _ _ _ _ _ _ _ _ _ _ _ _ _ _ _ _ _ _ _ _ _ _ _ _ _ _ _ _ _ _ _ _ _ _ _ _ _
        · have pd0 : decide (0 < o.kind) = false := decide_eq_false p0
          clear he
          go_wp2_with fail
          exact HQ.out _ _ _ _ _ _ _ _ _ _ _ _ _ _ _ _ _ _ _ _ _ _ _ _ _ _ _ _ _ _ _ _ _ _ _ _ _ _ _ _ _ _ _ _ _ _ _ _
      · have he1 : (e0 == 0) = false := by simpa using he
        clear he
        go_wp2_with fail
        exact HQ.out _ _ _ _ _ _ _ _ _ _ _ _ _ _ _ _ _ _ _ _ _ _ _ _ _ _ _ _ _ _ _ _ _ _ _ _ _ _ _ _ _ _ _ _ _ _ _ _
    | true =>
      obtain ⟨h1, h2⟩ := HV.out rfl rfl
      have hs1 : ¬ now.seen < old.seen := by omega
      have hs2 : decide (now.seen < old.seen) = false := decide_eq_false hs1
      clear hs1 h1
      rcases h2 with h2 | ⟨hk1, h2⟩
      · have hb1 : (now.ver != old.ver) = false := by simp [h2]
        have hb2 : (now.ver == old.ver) = true := by simp [h2]
        clear h2
        by_cases he : e0 = 0
        · have he1 : (e0 == 0) = true := by simp [he]
          by_cases p0 : 0 < o.kind
          · have pd0 : decide (0 < o.kind) = true := decide_eq_true p0
            by_cases p5 : o.kind < 5
            · have pd5 : decide (o.kind < 5) = true := decide_eq_true p5
              clear he
              go_wp2_with fail
              exact HQ.out _ _ _ _ _ _ _ _ _ _ _ _ _ _ _ _ _ _ _ _ _ _ _ _ _ _ _ _ _ _ _ _ _ _ _ _ _ _ _ _ _ _ _ _ _ _ _ _
            · have pd5 : decide (o.kind < 5) = false := decide_eq_false p5
              clear he
              go_wp2_with fail
              exact HQ.out _ _ _ _ _ _ _ _ _ _ _ _ _ _ _ _ _ _ _ _ _ _ _ _ _ _ _ _ _ _ _ _ _ _ _ _ _ _ _ _ _ _ _ _ _ _ _ _
          · have pd0 : decide (0 < o.kind) = false := decide_eq_false p0
            clear he
            go_wp2_with fail
            exact HQ.out _ _ _ _ _ _ _ _ _ _ _ _ _ _ _ _ _ _ _ _ _ _ _ _ _ _ _ _ _ _ _ _ _ _ _ _ _ _ _ _ _ _ _ _ _ _ _ _
        · have he1 : (e0 == 0) = false := by simpa using he
          clear he
          go_wp2_with fail
          exact HQ.out _ _ _ _ _ _ _ _ _ _ _ _ _ _ _ _ _ _ _ _ _ _ _ _ _ _ _ _ _ _ _ _ _ _ _ _ _ _ _ _ _ _ _ _ _ _ _ _
      · have hb1 : (now.ver != old.ver) = true := by simp; omega
        have hb2 : (now.ver == old.ver) = false := by simp; omega
        have hb3 : (now.ver != old.ver + 1) = false := by simp [h2]
        have hb4 : (now.ver == old.ver + 1) = true := by simp [h2]
        have hb5 : (o.kind != 1) = false := by simp [hk1]
        have hb6 : (o.kind == 1) = true := by simp [hk1]
        have p0 : 0 < o.kind := by omega
        have pd0 : decide (0 < o.kind) = true := decide_eq_true p0
        have p5 : o.kind < 5 := by omega
        have pd5 : decide (o.kind < 5) = true := decide_eq_true p5
        clear h2 hk1
        by_cases he : e0 = 0
        · have he1 : (e0 == 0) = true := by simp [he]
          clear he
          go_wp2_with fail
          exact HQ.out _ _ _ _ _ _ _ _ _ _ _ _ _ _ _ _ _ _ _ _ _ _ _ _ _ _ _ _ _ _ _ _ _ _ _ _ _ _ _ _ _ _ _ _ _ _ _ _
        · have he1 : (e0 == 0) = false := by simpa using he
          clear he
          go_wp2_with fail
          exact HQ.out _ _ _ _ _ _ _ _ _ _ _ _ _ _ _ _ _ _ _ _ _ _ _ _ _ _ _ _ _ _ _ _ _ _ _ _ _ _ _ _ _ _ _ _ _ _ _ _
end Go.Proofs.YtpbnjibomdilhaaGreatDoor.Job
