/- The law: the switch. The law: who refuses changes nothing; the row may be (region 31). -/
import Derived.Test.YtpbnjibomdilhaaGreatDoorMaz
import Derived.Deep.QuietTactic
namespace Go.Proofs.YtpbnjibomdilhaaGreatDoor.Job
open Go.RowKit Go.Maps

set_option maxRecDepth 1000000 in
set_option maxHeartbeats 16000000 in
theorem switch_wp (v0 v1 v2 v4 v6 v8 v9 v11 v12 v13 v14 v15 v16 v17 v18 v19 v20 v21 v22 v23 v24 v25 v26 v27 v28 v29 v30 v31 v32 v33 v34 v35 v36 v37 v38 v39 v40 v41 v42 v43 v44 v45 v46 v47 v48 v49 v50 v52 v53 v54 v55 v56 v57 v58 v59 v60 v61 v62 v63 v64 v65 v66 v67 v68 v69 v70 v71 v72 v73 v74 v75 v76 v77 v78 v79 v80 v81 v82 v83 v84 v85 v86 v87 v88 v89 v90 v91 v92 v93 v94 v95 v96 v97 v98 v99 v100 v101 v102 v103 v104 v105 v106 v107 v108 v109 v110 v111 v112 v113 v114 v115 v116 v117 v118 v119 v120 v121 v122 v123 v124 v125 v126 v127 v128 v129 v130 v131 v132 v133 v134 v135 v136 v137 v138 v139 v140 v141 v142 v143 v144 v145 v146 v147 v148 v149 v150 v151 v152 v153 v154 v155 v156 v157 v158 v159 v160 v161 v162 v163 v164 v165 v166 v167 v168 v169 v170 v171 v172 v173 v174 v175 v176 v177 v178 v179 v180 v181 v182 v183 v184 v185 v186 v187 v188 v189 v190 v191 v192 v193 v194 v195 v196 v197 v198 v199 v200 v201 v202 v203 v204 v205 v206 v207 v208 v209 v210 v211 v212 v213 v214 v215 v216 v217 v218 v219 v220 v221 v222 v223 v224 v225 v226 v227 v228 v229 v230 v231 v232 v233 v234 v235 v236 v237 v238 v239 v240 v241 v242 v243 v244 v245 v246 v247 v248 v249 v250 v251 v252 v253 v254 v255 v256 v257 v258 v259 : Value) (Q : Exit → Act → World → Prop) (w w7 : World) (k b O : Nat) (L : List J) (last : Int) (i : Nat) (o : OpV) (hk : Kit w) (hs : St w w7 k b L last i) (ho : w7.heap[O]? = some (opobj o))
    (hfo : JF w o.j ∧ U64 o.id) (hd : o.j.deps.length ≤ 12) (hi : i ≤ 60) (hq : ∀ (y10 y11 y12 y52 y53 y54 y55 y56 y57 y58 y59 y60 y61 y62 y63 y64 y65 y66 y67 y68 y69 y70 y71 y72 y73 y74 y75 y76 y77 y78 y79 y80 y81 y82 y83 y84 y85 y86 y87 y88 y89 y90 y91 y92 y93 y94 y95 y96 y97 y98 y99 y100 y101 y102 y103 y104 y105 y106 y107 y108 y109 : Value) (wc : World), SwRel w w7 k b L last i o y10 wc → Q .normal ⟨#[v0, v1, v2, .pointer (some ⟨k, 0, none⟩), v4, .pointer (some ⟨O, 0, none⟩), v6, .int .u64 last, v8, v9, y10, y11, y12, v13, v14, v15, v16, v17, v18, v19, v20, v21, v22, v23, v24, v25, v26, v27, v28, v29, v30, v31, v32, v33, v34, v35, v36, v37, v38, v39, v40, v41, v42, v43, v44, v45, v46, v47, v48, v49, v50, .int .i64 o.kind, y52, y53, y54, y55, y56, y57, y58, y59, y60, y61, y62, y63, y64, y65, y66, y67, y68, y69, y70, y71, y72, y73, y74, y75, y76, y77, y78, y79, y80, y81, y82, y83, y84, y85, y86, y87, y88, y89, y90, y91, y92, y93, y94, y95, y96, y97, y98, y99, y100, y101, y102, y103, y104, y105, y106, y107, y108, y109, v110, v111, v112, v113, v114, v115, v116, v117, v118, v119, v120, v121, v122, v123, v124, v125, v126, v127, v128, v129, v130, v131, v132, v133, v134, v135, v136, v137, v138, v139, v140, v141, v142, v143, v144, v145, v146, v147, v148, v149, v150, v151, v152, v153, v154, v155, v156, v157, v158, v159, v160, v161, v162, v163, v164, v165, v166, v167, v168, v169, v170, v171, v172, v173, v174, v175, v176, v177, v178, v179, v180, v181, v182, v183, v184, v185, v186, v187, v188, v189, v190, v191, v192, v193, v194, v195, v196, v197, v198, v199, v200, v201, v202, v203, v204, v205, v206, v207, v208, v209, v210, v211, v212, v213, v214, v215, v216, v217, v218, v219, v220, v221, v222, v223, v224, v225, v226, v227, v228, v229, v230, v231, v232, v233, v234, v235, v236, v237, v238, v239, v240, v241, v242, v243, v244, v245, v246, v247, v248, v249, v250, v251, v252, v253, v254, v255, v256, v257, v258, v259], []⟩ wc) :
    Code.wp Tryz.prog (blk 2) Q ⟨#[v0, v1, v2, .pointer (some ⟨k, 0, none⟩), v4, .pointer (some ⟨O, 0, none⟩), v6, .int .u64 last, v8, v9, .int .i64 0, v11, v12, v13, v14, v15, v16, v17, v18, v19, v20, v21, v22, v23, v24, v25, v26, v27, v28, v29, v30, v31, v32, v33, v34, v35, v36, v37, v38, v39, v40, v41, v42, v43, v44, v45, v46, v47, v48, v49, v50, .int .i64 o.kind, v52, v53, v54, v55, v56, v57, v58, v59, v60, v61, v62, v63, v64, v65, v66, v67, v68, v69, v70, v71, v72, v73, v74, v75, v76, v77, v78, v79, v80, v81, v82, v83, v84, v85, v86, v87, v88, v89, v90, v91, v92, v93, v94, v95, v96, v97, v98, v99, v100, v101, v102, v103, v104, v105, v106, v107, v108, v109, v110, v111, v112, v113, v114, v115, v116, v117, v118, v119, v120, v121, v122, v123, v124, v125, v126, v127, v128, v129, v130, v131, v132, v133, v134, v135, v136, v137, v138, v139, v140, v141, v142, v143, v144, v145, v146, v147, v148, v149, v150, v151, v152, v153, v154, v155, v156, v157, v158, v159, v160, v161, v162, v163, v164, v165, v166, v167, v168, v169, v170, v171, v172, v173, v174, v175, v176, v177, v178, v179, v180, v181, v182, v183, v184, v185, v186, v187, v188, v189, v190, v191, v192, v193, v194, v195, v196, v197, v198, v199, v200, v201, v202, v203, v204, v205, v206, v207, v208, v209, v210, v211, v212, v213, v214, v215, v216, v217, v218, v219, v220, v221, v222, v223, v224, v225, v226, v227, v228, v229, v230, v231, v232, v233, v234, v235, v236, v237, v238, v239, v240, v241, v242, v243, v244, v245, v246, v247, v248, v249, v250, v251, v252, v253, v254, v255, v256, v257, v258, v259], []⟩ w7 := by
  conv => arg 2; whnf
  have HQ := Lib.hid hq
  have HK := Lib.hid hk
  have HS7 := Lib.hid hs
  have HO7 := Lib.hid ho
  have HFO := Lib.hid hfo
  have HD12 := Lib.hid hd
  have hl0 : 0 ≤ last := hs.ok.last0
  have hl1 : last ≤ 1000 := by have := hs.ok.lastn; omega
  obtain ⟨⟨⟨o0, o1, o2, o3⟩, ⟨o4, o5, o6, o7⟩⟩, ⟨⟨o8, o9, o10, o11⟩, ⟨o12, o13, o14, o15⟩⟩⟩ := op_cells ho
  clear hq hk hs ho hfo hd
  by_cases k0 : o.kind = 0
  · have kb0 : (o.kind == 0) = true := by simp [k0]
    have HKN := Lib.hid k0
    have HC := Lib.hid (add_any HS7.out.tab (HK.out.next HS7.out.bel) HS7.out.ok (by omega) (HFO.out.1.below HS7.out.bel) HD12.out)
    clear k0
    unfold J.val J.cells jcells at HC
    go_wp2_with fail
    refine HC.out.mono ?_
    rintro e w8 hp
    obtain ⟨e0, L', last', rfl, hs8, hok, hf8⟩ := step_add HS7.out hp o.id
    have HS8 := Lib.hid hs8
    have HOK8 := Lib.hid hok
    have HF8 := Lib.hid hf8
    clear hp hs8 hok hf8 HC o0 o1 o2 o3 o4 o5 o6 o7 o8 o9 o10 o11 o12 o13 o14 o15
    by_cases he : e0 = 0
    · subst he
      rw [if_pos rfl]
      go_wp2_with fail
      exact HQ.out _ _ _ _ _ _ _ _ _ _ _ _ _ _ _ _ _ _ _ _ _ _ _ _ _ _ _ _ _ _ _ _ _ _ _ _ _ _ _ _ _ _ _ _ _ _ _ _ _ _ _ _ _ _ _ _ _ _ _ _ _ _ ⟨0, L', last', rfl, HS8.out, by rw [HKN.out]; exact HOK8.out, HF8.out⟩
    · rw [if_neg he]
      have he1 : (e0 == 0) = false := by simpa using he
      have he2 : (e0 != 0) = true := by simpa using he
      clear he
      go_wp2_with fail
      exact HQ.out _ _ _ _ _ _ _ _ _ _ _ _ _ _ _ _ _ _ _ _ _ _ _ _ _ _ _ _ _ _ _ _ _ _ _ _ _ _ _ _ _ _ _ _ _ _ _ _ _ _ _ _ _ _ _ _ _ _ _ _ _ _ ⟨e0, L', last', rfl, HS8.out, by rw [HKN.out]; exact HOK8.out, HF8.out⟩
  have kb0 : (o.kind == 0) = false := by simpa using k0
  by_cases k1 : o.kind = 1
  · have kb1 : (o.kind == 1) = true := by simp [k1]
    have HKN := Lib.hid k1
    have HC := Lib.hid (change_all HS7.out.tab (HK.out.next HS7.out.bel) HS7.out.ok (by omega) HFO.out.2 (HFO.out.1.below HS7.out.bel) HD12.out)
    clear k1 k0
    unfold J.val J.cells jcells at HC
    go_wp2_with fail
    refine HC.out.mono ?_
    rintro e w8 hp
    obtain ⟨e0, L', rfl, hs8, hok, hf8⟩ := step_change HS7.out hp
    have HS8 := Lib.hid hs8
    have HOK8 := Lib.hid hok
    have HF8 := Lib.hid hf8
    clear hp hs8 hok hf8 HC o0 o1 o2 o3 o4 o5 o6 o7 o8 o9 o10 o11 o12 o13 o14 o15
    go_wp2_with fail
    exact HQ.out _ _ _ _ _ _ _ _ _ _ _ _ _ _ _ _ _ _ _ _ _ _ _ _ _ _ _ _ _ _ _ _ _ _ _ _ _ _ _ _ _ _ _ _ _ _ _ _ _ _ _ _ _ _ _ _ _ _ _ _ _ _ ⟨e0, L', last, rfl, HS8.out, by rw [HKN.out]; exact HOK8.out, HF8.out⟩
  have kb1 : (o.kind == 1) = false := by simpa using k1
  by_cases k2 : o.kind = 2
  · have kb2 : (o.kind == 2) = true := by simp [k2]
    have HKN := Lib.hid k2
    have HC := Lib.hid (rem_all HS7.out.tab HS7.out.ok HFO.out.2)
    clear k2 k1 k0
    go_wp2_with fail
    refine HC.out.mono ?_
    rintro e w8 hp
    obtain ⟨e0, L', rfl, hs8, hok, hf8⟩ := step_rem HS7.out hp
    have HS8 := Lib.hid hs8
    have HOK8 := Lib.hid hok
    have HF8 := Lib.hid hf8
    clear hp hs8 hok hf8 HC o0 o1 o2 o3 o4 o5 o6 o7 o8 o9 o10 o11 o12 o13 o14 o15
    go_wp2_with fail
    exact HQ.out _ _ _ _ _ _ _ _ _ _ _ _ _ _ _ _ _ _ _ _ _ _ _ _ _ _ _ _ _ _ _ _ _ _ _ _ _ _ _ _ _ _ _ _ _ _ _ _ _ _ _ _ _ _ _ _ _ _ _ _ _ _ ⟨e0, L', last, rfl, HS8.out, by rw [HKN.out]; exact HOK8.out, HF8.out⟩
  have kb2 : (o.kind == 2) = false := by simpa using k2
  by_cases k3 : o.kind = 3
  · have kb3 : (o.kind == 3) = true := by simp [k3]
    have HKN := Lib.hid k3
    have HC := Lib.hid (pause_all HS7.out.tab HS7.out.ok HFO.out.2 o.pau o.seen)
    clear k3 k2 k1 k0
    go_wp2_with fail
    refine HC.out.mono ?_
    rintro e w8 hp
    obtain ⟨e0, L', rfl, hs8, hok, hf8⟩ := step_note (kd := 3) HS7.out hp (pau_f o.pau o.seen)
    have HS8 := Lib.hid hs8
    have HOK8 := Lib.hid hok
    have HF8 := Lib.hid hf8
    clear hp hs8 hok hf8 HC o0 o1 o2 o3 o4 o5 o6 o7 o8 o9 o10 o11 o12 o13 o14 o15
    go_wp2_with fail
    exact HQ.out _ _ _ _ _ _ _ _ _ _ _ _ _ _ _ _ _ _ _ _ _ _ _ _ _ _ _ _ _ _ _ _ _ _ _ _ _ _ _ _ _ _ _ _ _ _ _ _ _ _ _ _ _ _ _ _ _ _ _ _ _ _ ⟨e0, L', last, rfl, HS8.out, by rw [HKN.out]; exact HOK8.out, HF8.out⟩
  have kb3 : (o.kind == 3) = false := by simpa using k3
  by_cases k4 : o.kind = 4
  · have kb4 : (o.kind == 4) = true := by simp [k4]
    have HKN := Lib.hid k4
    have HC := Lib.hid (see_all HS7.out.tab HS7.out.ok HFO.out.2 o.seen)
    clear k4 k3 k2 k1 k0
    go_wp2_with fail
    refine HC.out.mono ?_
    rintro e w8 hp
    obtain ⟨e0, L', rfl, hs8, hok, hf8⟩ := step_note (kd := 4) HS7.out hp (see_f o.seen)
    have HS8 := Lib.hid hs8
    have HOK8 := Lib.hid hok
    have HF8 := Lib.hid hf8
    clear hp hs8 hok hf8 HC o0 o1 o2 o3 o4 o5 o6 o7 o8 o9 o10 o11 o12 o13 o14 o15
    go_wp2_with fail
    exact HQ.out _ _ _ _ _ _ _ _ _ _ _ _ _ _ _ _ _ _ _ _ _ _ _ _ _ _ _ _ _ _ _ _ _ _ _ _ _ _ _ _ _ _ _ _ _ _ _ _ _ _ _ _ _ _ _ _ _ _ _ _ _ _ ⟨e0, L', last, rfl, HS8.out, by rw [HKN.out]; exact HOK8.out, HF8.out⟩
  have kb4 : (o.kind == 4) = false := by simpa using k4
  have HNK := Lib.hid (show o.kind ≤ 0 ∨ 5 ≤ o.kind by omega)
  clear k4 k3 k2 k1 k0
  go_wp2_with fail
  exact HQ.out _ _ _ _ _ _ _ _ _ _ _ _ _ _ _ _ _ _ _ _ _ _ _ _ _ _ _ _ _ _ _ _ _ _ _ _ _ _ _ _ _ _ _ _ _ _ _ _ _ _ _ _ _ _ _ _ _ _ _ _ _ _ ⟨0, L, last, rfl, HS7.out.step HS7.out.tab (HS7.out.ok.more (by omega)) (Eff.refl _ _ _), StepOk.none HS7.out.ok (.inr HNK.out), Eff.refl _ _ _⟩
end Go.Proofs.YtpbnjibomdilhaaGreatDoor.Job

namespace Go.Proofs.YtpbnjibomdilhaaGreatDoor.Job
open Go.RowKit Go.Maps

set_option maxRecDepth 1000000 in
set_option maxHeartbeats 16000000 in
theorem ask_wp (v0 v1 v2 v4 v5 v8 v9 v11 v12 v14 v15 v16 v17 v18 v19 v20 v21 v22 v23 v24 v25 v26 v27 v28 v29 v30 v31 v32 v33 v34 v35 v36 v37 v38 v39 v40 v41 v42 v43 v44 v45 v46 v47 v48 v49 v50 v51 v52 v53 v54 v55 v56 v57 v58 v59 v60 v61 v62 v63 v64 v65 v66 v67 v68 v69 v70 v71 v72 v73 v74 v75 v76 v77 v78 v79 v80 v81 v82 v83 v84 v85 v86 v87 v88 v89 v90 v91 v92 v93 v94 v95 v96 v97 v98 v99 v100 v101 v102 v103 v104 v105 v106 v107 v108 v109 v110 v111 v112 v113 v114 v115 v116 v117 v118 v119 v120 v121 v122 v123 v124 v125 v126 v127 v128 v129 v130 v131 v132 v133 v134 v135 v136 v137 v138 v139 v140 v141 v142 v143 v144 v145 v146 v147 v148 v149 v150 v151 v152 v153 v154 v155 v156 v157 v158 v159 v160 v161 v162 v163 v164 v165 v166 v167 v168 v169 v170 v171 v172 v173 v174 v175 v176 v177 v178 v179 v180 v181 v182 v183 v184 v185 v186 v187 v188 v189 v190 v191 v192 v193 v194 v195 v196 v197 v198 v199 v200 v201 v202 v203 v204 v205 v206 v207 v208 v209 v210 v211 v212 v213 v214 v215 v216 v217 v218 v219 v220 v221 v222 v223 v224 v225 v226 v227 v228 v229 v230 v231 v232 v233 v234 v235 v236 v237 v238 v239 v240 v241 v242 v243 v244 v245 v246 v247 v248 v249 v250 v251 v252 v253 v254 v255 v256 v257 v258 v259 : Value) (Q : Exit → Act → World → Prop) (w wx : World) (k b : Nat) (L L' lw li : List J) (last last' e0 kind id : Int) (n i : Nat) (va vi : Option Addr) (vc vj : Nat) (hs : St w wx k b L' last' n) (hok : StepOk i kind id L last e0 L' last') (hL : Ok L last i)
    (hjw : JobsF wx va lw) (hlw : lw.map J.bare = L.map J.bare) (hji : JobsF wx vi li) (hli : li.map J.bare = L'.map J.bare) (hq : ∀ (y119 y120 y121 y122 y123 y124 y125 y126 y127 y128 y129 y130 y131 y132 y133 y134 y135 y136 y137 y138 y139 y140 y141 y142 : Value) (wz : World), Below wx.heap.size wx wz → Q .normal ⟨#[v0, v1, v2, .pointer (some ⟨k, 0, none⟩), v4, v5, .slice va lw.length vc, .int .u64 last, v8, v9, .int .i64 e0, v11, v12, .slice vi li.length vj, v14, v15, v16, v17, v18, v19, v20, v21, v22, v23, v24, v25, v26, v27, v28, v29, v30, v31, v32, v33, v34, v35, v36, v37, v38, v39, v40, v41, v42, v43, v44, v45, v46, v47, v48, v49, v50, v51, v52, v53, v54, v55, v56, v57, v58, v59, v60, v61, v62, v63, v64, v65, v66, v67, v68, v69, v70, v71, v72, v73, v74, v75, v76, v77, v78, v79, v80, v81, v82, v83, v84, v85, v86, v87, v88, v89, v90, v91, v92, v93, v94, v95, v96, v97, v98, v99, v100, v101, v102, v103, v104, v105, v106, v107, v108, v109, v110, v111, v112, v113, v114, v115, v116, v117, v118, y119, y120, y121, y122, y123, y124, y125, y126, y127, y128, y129, y130, y131, y132, y133, y134, y135, y136, y137, y138, y139, y140, y141, y142, .bool false, v144, v145, v146, v147, v148, v149, v150, v151, v152, v153, v154, v155, v156, v157, v158, v159, v160, v161, v162, v163, v164, v165, v166, v167, v168, v169, v170, v171, v172, v173, v174, v175, v176, v177, v178, v179, v180, v181, v182, v183, v184, v185, v186, v187, v188, v189, v190, v191, v192, v193, v194, v195, v196, v197, v198, v199, v200, v201, v202, v203, v204, v205, v206, v207, v208, v209, v210, v211, v212, v213, v214, v215, v216, v217, v218, v219, v220, v221, v222, v223, v224, v225, v226, v227, v228, v229, v230, v231, v232, v233, v234, v235, v236, v237, v238, v239, v240, v241, v242, v243, v244, v245, v246, v247, v248, v249, v250, v251, v252, v253, v254, v255, v256, v257, v258, v259], []⟩ wz) :
    Code.wp Tryz.prog (rgn 31) Q ⟨#[v0, v1, v2, .pointer (some ⟨k, 0, none⟩), v4, v5, .slice va lw.length vc, .int .u64 last, v8, v9, .int .i64 e0, v11, v12, .slice vi li.length vj, v14, v15, v16, v17, v18, v19, v20, v21, v22, v23, v24, v25, v26, v27, v28, v29, v30, v31, v32, v33, v34, v35, v36, v37, v38, v39, v40, v41, v42, v43, v44, v45, v46, v47, v48, v49, v50, v51, v52, v53, v54, v55, v56, v57, v58, v59, v60, v61, v62, v63, v64, v65, v66, v67, v68, v69, v70, v71, v72, v73, v74, v75, v76, v77, v78, v79, v80, v81, v82, v83, v84, v85, v86, v87, v88, v89, v90, v91, v92, v93, v94, v95, v96, v97, v98, v99, v100, v101, v102, v103, v104, v105, v106, v107, v108, v109, v110, v111, v112, v113, v114, v115, v116, v117, v118, v119, v120, v121, v122, v123, v124, v125, v126, v127, v128, v129, v130, v131, v132, v133, v134, v135, v136, v137, v138, v139, v140, v141, v142, v143, v144, v145, v146, v147, v148, v149, v150, v151, v152, v153, v154, v155, v156, v157, v158, v159, v160, v161, v162, v163, v164, v165, v166, v167, v168, v169, v170, v171, v172, v173, v174, v175, v176, v177, v178, v179, v180, v181, v182, v183, v184, v185, v186, v187, v188, v189, v190, v191, v192, v193, v194, v195, v196, v197, v198, v199, v200, v201, v202, v203, v204, v205, v206, v207, v208, v209, v210, v211, v212, v213, v214, v215, v216, v217, v218, v219, v220, v221, v222, v223, v224, v225, v226, v227, v228, v229, v230, v231, v232, v233, v234, v235, v236, v237, v238, v239, v240, v241, v242, v243, v244, v245, v246, v247, v248, v249, v250, v251, v252, v253, v254, v255, v256, v257, v258, v259], []⟩ wx := by
  conv => arg 2; whnf
  have HQ := Lib.hid hq
  have HS := Lib.hid hs
  have HOK := Lib.hid hok
  have hlt : decide (last' < last) = false := by have := hok.mono; simp; omega
  have hlen : li.length ≤ 32 := by rw [len_bare hli]; exact hs.ok.len
  have hlw32 : lw.length ≤ 32 := by rw [len_bare hlw]; exact hL.len
  have hg : ¬ (32 : Int) < (li.length : Int) := by omega
  have hgd : decide ((32 : Int) < (li.length : Int)) = false := decide_eq_false hg
  have HJ := Lib.hid (show e0 ≠ 0 → Calls Tryz.prog 15 #[.slice va lw.length vc, .slice vi li.length vj] wx fun e w' => e = .returned (.bool true) ∧ Below wx.heap.size wx w' from fun he => jobs_any hjw hji (by rw [hlw, hli, (hok.same he).1]) (by omega) (deps_bare hlw (hL.deps (by omega))))
  clear hq hs hok hL hjw hji hli hlw hlen hlw32
  by_cases he : e0 = 0
  · have he1 : (e0 != 0) = false := by simp [he]
    have HNO := Lib.hid (nodes_any HS.out.tab (HS.out.ok.deps (by omega)) (by have := HS.out.ok.len; omega))
    clear he HJ
    go_wp2_with fail
    refine HNO.out.mono ?_
    rintro e w3 ⟨v, l, B, rfl, hrow, hB, hof, hnf, hb3⟩
    obtain ⟨xa, xc, rfl, -⟩ := ownRow_shape hrow.own
    have HMAY := Lib.hid (mayRow_any hrow hnf HS.out.ok hof)
    have HB3 := Lib.hid hb3
    clear hrow hB hof hnf hb3 HNO
    go_wp2_with fail
    refine HMAY.out.mono ?_
    rintro e w4 ⟨rfl, hb4⟩
    have HB4 := Lib.hid (HB3.out.trans (hb4.mono HB3.out.size))
    clear hb4 HMAY
    go_wp2_with fail
    refine (last_any (HS.out.tab.below HB4.out)).mono ?_
    rintro e w5 ⟨rfl, rfl⟩
    go_wp2_with fail
    exact HQ.out _ _ _ _ _ _ _ _ _ _ _ _ _ _ _ _ _ _ _ _ _ _ _ _ _ HB4.out
  · have he1 : (e0 != 0) = true := by simpa using he
    have HJ2 := Lib.hid (HJ.out he)
    clear he HJ
    go_wp2_with fail
    refine HJ2.out.mono ?_
    rintro e w2 ⟨rfl, hb2⟩
    have HB2 := Lib.hid hb2
    have HS2 := Lib.hid (HS.out.below hb2)
    have HNO := Lib.hid (nodes_any HS2.out.tab (HS2.out.ok.deps (by omega)) (by have := HS2.out.ok.len; omega))
    clear hb2 HJ2
    go_wp2_with fail
    refine HNO.out.mono ?_
    rintro e w3 ⟨v, l, B, rfl, hrow, hB, hof, hnf, hb3⟩
    obtain ⟨xa, xc, rfl, -⟩ := ownRow_shape hrow.own
    have HMAY := Lib.hid (mayRow_any hrow hnf HS2.out.ok hof)
    have HB3 := Lib.hid (HB2.out.trans (hb3.mono HB2.out.size))
    clear hrow hB hof hnf hb3 HNO
    go_wp2_with fail
    refine HMAY.out.mono ?_
    rintro e w4 ⟨rfl, hb4⟩
    have HB4 := Lib.hid (HB3.out.trans (hb4.mono HB3.out.size))
    clear hb4 HMAY
    go_wp2_with fail
    refine (last_any (HS.out.tab.below HB4.out)).mono ?_
    rintro e w5 ⟨rfl, rfl⟩
    go_wp2_with fail
    exact HQ.out _ _ _ _ _ _ _ _ _ _ _ _ _ _ _ _ _ _ _ _ _ _ _ _ _ HB4.out
end Go.Proofs.YtpbnjibomdilhaaGreatDoor.Job
