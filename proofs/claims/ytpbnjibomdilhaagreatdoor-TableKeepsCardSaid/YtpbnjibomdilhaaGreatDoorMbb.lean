/- The law: numbers rise, no two jobs have one name (block 3). The law: the table of its jobs is the same (region 46). -/
import Derived.Test.YtpbnjibomdilhaaGreatDoorMaz
import Derived.Deep.QuietTactic
namespace Go.Proofs.YtpbnjibomdilhaaGreatDoor.Job
open Go.RowKit Go.Maps

set_option maxRecDepth 1000000 in
set_option maxHeartbeats 16000000 in
theorem rise_wp (v0 v1 v2 v4 v5 v6 v7 v8 v9 v10 v11 v12 v14 v15 v17 v18 v19 v20 v21 v22 v23 v24 v25 v26 v27 v28 v29 v30 v31 v32 v33 v34 v35 v36 v37 v38 v39 v40 v41 v42 v43 v44 v45 v46 v47 v48 v49 v50 v51 v52 v53 v54 v55 v56 v57 v58 v59 v60 v61 v62 v63 v64 v65 v66 v67 v68 v69 v70 v71 v72 v73 v74 v75 v76 v77 v78 v79 v80 v81 v82 v83 v84 v85 v86 v87 v88 v89 v90 v91 v92 v93 v94 v95 v96 v97 v98 v99 v100 v101 v102 v103 v104 v105 v106 v107 v108 v109 v110 v111 v112 v113 v114 v115 v116 v117 v118 v119 v120 v121 v122 v123 v124 v125 v126 v127 v128 v129 v130 v131 v132 v133 v134 v135 v136 v137 v138 v139 v140 v141 v142 v143 v144 v145 v146 v147 v148 v149 v150 v151 v152 v153 v154 v155 v156 v157 v158 v159 v160 v161 v162 v163 v164 v165 v166 v167 v168 v169 v170 v171 v172 v173 v174 v175 v176 v177 v178 v179 v180 v181 v182 v183 v184 v185 v186 v187 v188 v189 v190 v191 v192 v193 v194 v195 v196 v197 v198 v199 v200 v201 v202 v203 v204 v205 v206 v207 v208 v209 v210 v211 v212 v213 v214 v215 v216 v217 v218 v219 v220 v221 v222 v223 v224 v225 v226 v227 v228 v229 v230 v231 v232 v233 v234 v235 v236 v237 v238 v239 v240 v241 v242 v243 v244 v245 v246 v247 v248 v249 v250 v251 v252 v253 v254 v255 v256 v257 v258 v259 : Value) (Q : Exit → Act → World → Prop) (w wx : World) (k b : Nat) (L li : List J) (last : Int) (n : Nat) (vi : Option Addr) (vj : Nat) (hs : St w wx k b L last n) (hji : JobsF wx vi li) (hli : li.map J.bare = L.map J.bare)
    (hq : ∀ (y2 y16 y17 y193 y194 y195 y196 y197 y198 y199 y200 y201 y202 y203 y204 y205 y206 y207 y208 y209 y210 y211 y212 y213 y214 y215 y216 y217 y218 y219 y220 y221 y222 y223 y224 y225 y226 y227 y228 y229 y230 y231 y232 y233 y234 y235 y236 : Value) (wz : World), Drew wx wz → Q .normal ⟨#[v0, v1, y2, .pointer (some ⟨k, 0, none⟩), v4, v5, v6, v7, v8, v9, v10, v11, v12, .slice vi li.length vj, v14, v15, y16, y17, v18, v19, v20, v21, v22, v23, v24, v25, v26, v27, v28, v29, v30, v31, v32, v33, v34, v35, v36, v37, v38, v39, v40, v41, v42, v43, v44, v45, v46, v47, v48, v49, v50, v51, v52, v53, v54, v55, v56, v57, v58, v59, v60, v61, v62, v63, v64, v65, v66, v67, v68, v69, v70, v71, v72, v73, v74, v75, v76, v77, v78, v79, v80, v81, v82, v83, v84, v85, v86, v87, v88, v89, v90, v91, v92, v93, v94, v95, v96, v97, v98, v99, v100, v101, v102, v103, v104, v105, v106, v107, v108, v109, v110, v111, v112, v113, v114, v115, v116, v117, v118, v119, v120, v121, v122, v123, v124, v125, v126, v127, v128, v129, v130, v131, v132, v133, v134, v135, v136, v137, v138, v139, v140, v141, v142, v143, v144, v145, v146, v147, v148, v149, v150, v151, v152, v153, v154, v155, v156, v157, v158, v159, v160, v161, v162, v163, v164, v165, v166, v167, v168, v169, v170, v171, v172, v173, v174, v175, v176, v177, v178, v179, v180, v181, v182, v183, v184, v185, v186, v187, v188, v189, v190, v191, v192, y193, y194, y195, y196, y197, y198, y199, y200, y201, y202, y203, y204, y205, y206, y207, y208, y209, y210, y211, y212, y213, y214, y215, y216, y217, y218, y219, y220, y221, y222, y223, y224, y225, y226, y227, y228, y229, y230, y231, y232, y233, y234, y235, y236, v237, v238, v239, v240, v241, v242, v243, v244, v245, v246, v247, v248, v249, v250, v251, v252, v253, v254, v255, v256, v257, v258, v259], []⟩ wz) :
    Code.wp Tryz.prog (blk 3) Q ⟨#[v0, v1, v2, .pointer (some ⟨k, 0, none⟩), v4, v5, v6, v7, v8, v9, v10, v11, v12, .slice vi li.length vj, v14, v15, .int .i64 1, v17, v18, v19, v20, v21, v22, v23, v24, v25, v26, v27, v28, v29, v30, v31, v32, v33, v34, v35, v36, v37, v38, v39, v40, v41, v42, v43, v44, v45, v46, v47, v48, v49, v50, v51, v52, v53, v54, v55, v56, v57, v58, v59, v60, v61, v62, v63, v64, v65, v66, v67, v68, v69, v70, v71, v72, v73, v74, v75, v76, v77, v78, v79, v80, v81, v82, v83, v84, v85, v86, v87, v88, v89, v90, v91, v92, v93, v94, v95, v96, v97, v98, v99, v100, v101, v102, v103, v104, v105, v106, v107, v108, v109, v110, v111, v112, v113, v114, v115, v116, v117, v118, v119, v120, v121, v122, v123, v124, v125, v126, v127, v128, v129, v130, v131, v132, v133, v134, v135, v136, v137, v138, v139, v140, v141, v142, v143, v144, v145, v146, v147, v148, v149, v150, v151, v152, v153, v154, v155, v156, v157, v158, v159, v160, v161, v162, v163, v164, v165, v166, v167, v168, v169, v170, v171, v172, v173, v174, v175, v176, v177, v178, v179, v180, v181, v182, v183, v184, v185, v186, v187, v188, v189, v190, v191, v192, v193, v194, v195, v196, v197, v198, v199, v200, v201, v202, v203, v204, v205, v206, v207, v208, v209, v210, v211, v212, v213, v214, v215, v216, v217, v218, v219, v220, v221, v222, v223, v224, v225, v226, v227, v228, v229, v230, v231, v232, v233, v234, v235, v236, v237, v238, v239, v240, v241, v242, v243, v244, v245, v246, v247, v248, v249, v250, v251, v252, v253, v254, v255, v256, v257, v258, v259], []⟩ wx := by
  conv => arg 2; whnf
  have HQ := Lib.hid hq
  have HS := Lib.hid hs
  have HJI := Lib.hid hji
  have HLEN := Lib.hid (show li.length ≤ 32 by rw [len_bare hli]; exact hs.ok.len)
  have HRI := Lib.hid (show ∀ (x y : Nat) (hx : x < li.length) (hy : y < li.length), x < y → li[x].id < li[y].id ∧ li[x].name ≠ li[y].name ∧ li[y].id ≤ last from fun x y hx hy hxy => by
    have hx' : x < L.length := by rw [← len_bare hli]; exact hx
    have hy' : y < L.length := by rw [← len_bare hli]; exact hy
    have ex := bares_at hli hx hx'
    have ey := bares_at hli hy hy'
    have i1 : li[x].id = L[x].id := show li[x].bare.id = L[x].bare.id from congrArg J.id ex
    have i2 : li[y].id = L[y].id := show li[y].bare.id = L[y].bare.id from congrArg J.id ey
    have m1 : li[x].name = L[x].name := show li[x].bare.name = L[x].bare.name from congrArg J.name ex
    have m2 : li[y].name = L[y].name := show li[y].bare.name = L[y].bare.name from congrArg J.name ey
    rw [i1, i2, m1, m2]
    have hr := List.pairwise_iff_getElem.1 hs.ok.rise x y (by simpa using hx') (by simpa using hy') hxy
    simp only [List.getElem_map] at hr
    exact ⟨hr, List.pairwise_iff_getElem.1 hs.ok.names x y hx' hy' hxy, (hs.ok.ids _ (List.getElem_mem hy')).2⟩)
  clear hq hs hji hli
  go_wp2_with fail
  go_loopw [16] (fun v wr => ∃ kk : Nat, v = .int .i64 (kk : Int) ∧ 1 ≤ kk ∧ kk ≤ li.length + 1 ∧ Drew wx wr) (fun v _ => li.length + 1 - (intOf v).toNat)
  case atStart => exact ⟨1, rfl, Nat.le_refl _, by omega, Drew.refl _⟩
  case round =>
    obtain ⟨kk, rfl, hk1, hk2, hdr⟩ := hrel
    by_cases hlt : kk < li.length
    · obtain ⟨m, hm⟩ : ∃ m, kk = m + 1 := ⟨kk - 1, by omega⟩
      have hmlt : m < li.length := by omega
      obtain ⟨⟨g, q, h1, h2⟩, -⟩ := HJI.out
      have ea := h1 (by intro e; rw [e] at hlt; simp at hlt)
      cases ea
      obtain ⟨hg, hc⟩ := h2 kk hlt
      obtain ⟨-, hcm⟩ := h2 m hmlt
      obtain ⟨r1, r2, r3⟩ := HRI.out m kk hmlt hlt (by omega)
      obtain ⟨x, hx⟩ : ∃ x, li[kk] = x := ⟨_, rfl⟩
      obtain ⟨y, hy⟩ : ∃ y, li[m] = y := ⟨_, rfl⟩
      rw [hx] at hc r1 r2 r3
      rw [hy] at hcm r1 r2
      have cc : ∀ W, Drew wx W → ∀ c, c < 12 → W.cell? ⟨g, q + (kk * 12 + c), none⟩ = (encJ x)[c]? := fun W hW c h12 => (hW.bel.cell (p := ⟨g, q + (kk * 12 + c), none⟩) hg).trans (hc c h12)
      have cm : ∀ W, Drew wx W → ∀ c, c < 12 → W.cell? ⟨g, q + (m * 12 + c), none⟩ = (encJ y)[c]? := fun W hW c h12 => (hW.bel.cell (p := ⟨g, q + (m * 12 + c), none⟩) hg).trans (hcm c h12)
      obtain ⟨⟨c0, c1, -, -, -, -⟩, -⟩ := JobsF.cells (cc wr hdr)
      obtain ⟨⟨d0, -, -, -, -, -⟩, -⟩ := JobsF.cells (cm wr hdr)
      have HCC := Lib.hid cc
      have hle : decide (x.id ≤ y.id) = false := by simp; omega
      have hle2 : ¬ x.id ≤ y.id := by omega
      have hgt : decide (last < x.id) = false := by simp; omega
      have hgt2 : ¬ last < x.id := by omega
      have hd : decide ((kk : Int) < (li.length : Int)) = true := by simp; omega
      have hw1 : IntKind.i64.wrap ((kk : Int) - 1) = (m : Int) := by rw [IntKind.wrap_i64]; have := HLEN.out; omega
      have hw2 : (kk : Int) - 1 = (m : Int) := by omega
      have hb0 : (0 : Int) ≤ kk := by omega
      have hb1 : (kk : Int) ≤ 40 := by have := HLEN.out; omega
      have hb2 : (0 : Int) ≤ m := by omega
      have HLAST := Lib.hid (fun nn => (last_any ((HS.out.tab.below hdr.bel).below (Below.refl wr.heap.size wr |> fun h => bel_drewN h nn))).mono fun _ _ h => And.imp_right Eq.symm h)
      have HDR := Lib.hid hdr
      have HM := Lib.hid hm
      have HX := Lib.hid hx
      clear h1 h2 hc hcm cc cm hx hy r1 r2 r3 hdr hm hg
      go_wp2_with fail
      go_quiet ((go_at_call 8; exact Calls.quiet_of_same (HLAST.out _)))
      obtain ⟨w4, hw4⟩ : ∃ W, W = wr.drewN nq := ⟨_, rfl⟩
      have hdr4 : Drew wx w4 := by rw [hw4]; exact HDR.out.trans ⟨_, rfl⟩
      rw [← hw4]
      have HDR4 := Lib.hid hdr4
      clear hw4 hdr4 c0 c1 d0 hle hle2 hgt hgt2 HLAST hw1 hw2 hb2
      go_wp2_with fail
      go_loopw [17] (fun v wq => ∃ jj : Nat, v = .int .i64 (jj : Int) ∧ jj ≤ kk ∧ Drew wx wq) (fun v _ => kk - (intOf v).toNat)
      case atStart => exact ⟨0, rfl, Nat.zero_le _, HDR4.out⟩
      case round =>
        obtain ⟨jj, rfl, hj, hdq⟩ := hrel
        by_cases hjk : jj < kk
        · have hjl : jj < li.length := by omega
          obtain ⟨⟨g', q', h1, h2⟩, -⟩ := HJI.out
          have eg := h1 (by intro e; rw [e] at hlt; simp at hlt)
          have eg2 : g' = g ∧ q' = q := by have := Option.some.inj eg; simp at this; exact ⟨this.1.symm, this.2.symm⟩
          obtain ⟨rfl, rfl⟩ := eg2
          obtain ⟨hg, hc⟩ := h2 jj hjl
          obtain ⟨-, r2, -⟩ := HRI.out jj kk hjl hlt hjk
          obtain ⟨z, hz⟩ : ∃ z, li[jj] = z := ⟨_, rfl⟩
          rw [hz] at hc r2
          rw [HX.out] at r2
          obtain ⟨⟨-, c1, -, -, -, -⟩, -⟩ := JobsF.cells (HCC.out wr hdq)
          obtain ⟨⟨-, d1, -, -, -, -⟩, -⟩ := JobsF.cells (w := wr) fun c h12 => (hdq.bel.cell (p := ⟨g', q' + (jj * 12 + c), none⟩) hg).trans (hc c h12)
          have hne := name_eq z.name x.name
          rw [show decide (z.name = x.name) = false from decide_eq_false r2] at hne
          have hd3 : decide ((jj : Int) < (kk : Int)) = true := by simp; omega
          have hj0 : (0 : Int) ≤ jj := by omega
          have hj1 : (jj : Int) ≤ 40 := by have := HLEN.out; omega
          have HDQ := Lib.hid hdq
          clear h1 h2 hc hz r2 hdq eg hg
          go_wp2_with fail
          go_quiet (fail)
          go_wp2
          go_roundw
          case rel => exact ⟨jj + 1, by go_num, hjk, HDQ.out.trans ⟨_, rfl⟩⟩
          case measure => simp [intOf]; omega
        · have hd3 : decide ((jj : Int) < (kk : Int)) = false := by simp; omega
          have HDQ := Lib.hid hdq
          clear hdq
          go_wp2_with fail
          go_roundw
          case rel => exact ⟨kk + 1, by go_num, by omega, by omega, HDQ.out⟩
          case measure => simp [intOf]; omega
    · have hd : decide ((kk : Int) < (li.length : Int)) = false := by simp; omega
      have HDR := Lib.hid hdr
      clear hdr
      go_wp2_with fail
      exact HQ.out _ _ _ _ _ _ _ _ _ _ _ _ _ _ _ _ _ _ _ _ _ _ _ _ _ _ _ _ _ _ _ _ _ _ _ _ _ _ _ _ _ _ _ _ _ _ _ _ HDR.out
end Go.Proofs.YtpbnjibomdilhaaGreatDoor.Job

namespace Go.Proofs.YtpbnjibomdilhaaGreatDoor.Job
open Go.RowKit Go.Maps

set_option maxRecDepth 1000000 in
set_option maxHeartbeats 16000000 in
theorem again_wp (v0 v1 v2 v4 v5 v6 v7 v8 v9 v10 v11 v12 v14 v15 v16 v17 v20 v21 v22 v23 v24 v25 v26 v27 v28 v29 v30 v31 v32 v33 v34 v35 v36 v37 v38 v39 v40 v41 v42 v43 v44 v45 v46 v47 v48 v49 v50 v51 v52 v53 v54 v55 v56 v57 v58 v59 v60 v61 v62 v63 v64 v65 v66 v67 v68 v69 v70 v71 v72 v73 v74 v75 v76 v77 v78 v79 v80 v81 v82 v83 v84 v85 v86 v87 v88 v89 v90 v91 v92 v93 v94 v95 v96 v97 v98 v99 v100 v101 v102 v103 v104 v105 v106 v107 v108 v109 v110 v111 v112 v113 v114 v115 v116 v117 v118 v119 v120 v121 v122 v123 v124 v125 v126 v127 v128 v129 v130 v131 v132 v133 v134 v135 v136 v137 v138 v139 v140 v141 v142 v143 v144 v145 v146 v147 v148 v149 v150 v151 v152 v153 v154 v155 v156 v157 v158 v159 v160 v161 v162 v163 v164 v165 v166 v167 v168 v169 v170 v171 v172 v173 v174 v175 v176 v177 v178 v179 v180 v181 v182 v183 v184 v185 v186 v187 v188 v189 v190 v191 v192 v193 v194 v195 v196 v197 v198 v199 v200 v201 v202 v203 v204 v205 v206 v207 v208 v209 v210 v211 v212 v213 v214 v215 v216 v217 v218 v219 v220 v221 v222 v223 v224 v225 v226 v227 v228 v229 v230 v231 v232 v233 v234 v235 v236 v237 v238 v239 v240 v241 v242 v243 v244 v245 v246 v247 v248 v249 v250 v251 v252 v253 v254 v255 v256 v257 v258 v259 : Value) (Q : Exit → Act → World → Prop) (w wx : World) (k b k2 b2 : Nat) (L T li : List J) (last : Int) (n : Nat) (vi : Option Addr) (vj : Nat) (hs : St w wx k b L last n) (ht : TabAt wx k2 b2 T last) (hT : T.map J.bare = L.map J.bare)
    (hji : JobsF wx vi li) (hli : li.map J.bare = L.map J.bare) (hq : ∀ (y244 y245 y246 y247 y248 y249 y250 y251 y252 y253 y254 y255 y256 y257 y258 : Value) (wz : World), Below wx.heap.size wx wz → Q .normal ⟨#[v0, v1, v2, .pointer (some ⟨k, 0, none⟩), v4, v5, v6, v7, v8, v9, v10, v11, v12, .slice vi li.length vj, v14, v15, v16, v17, .pointer (some ⟨k2, 0, none⟩), .int .i64 0, v20, v21, v22, v23, v24, v25, v26, v27, v28, v29, v30, v31, v32, v33, v34, v35, v36, v37, v38, v39, v40, v41, v42, v43, v44, v45, v46, v47, v48, v49, v50, v51, v52, v53, v54, v55, v56, v57, v58, v59, v60, v61, v62, v63, v64, v65, v66, v67, v68, v69, v70, v71, v72, v73, v74, v75, v76, v77, v78, v79, v80, v81, v82, v83, v84, v85, v86, v87, v88, v89, v90, v91, v92, v93, v94, v95, v96, v97, v98, v99, v100, v101, v102, v103, v104, v105, v106, v107, v108, v109, v110, v111, v112, v113, v114, v115, v116, v117, v118, v119, v120, v121, v122, v123, v124, v125, v126, v127, v128, v129, v130, v131, v132, v133, v134, v135, v136, v137, v138, v139, v140, v141, v142, v143, v144, v145, v146, v147, v148, v149, v150, v151, v152, v153, v154, v155, v156, v157, v158, v159, v160, v161, v162, v163, v164, v165, v166, v167, v168, v169, v170, v171, v172, v173, v174, v175, v176, v177, v178, v179, v180, v181, v182, v183, v184, v185, v186, v187, v188, v189, v190, v191, v192, v193, v194, v195, v196, v197, v198, v199, v200, v201, v202, v203, v204, v205, v206, v207, v208, v209, v210, v211, v212, v213, v214, v215, v216, v217, v218, v219, v220, v221, v222, v223, v224, v225, v226, v227, v228, v229, v230, v231, v232, v233, v234, v235, v236, v237, v238, v239, v240, v241, v242, v243, y244, y245, y246, y247, y248, y249, y250, y251, y252, y253, y254, y255, y256, y257, y258, .bool false], []⟩ wz) :
    Code.wp Tryz.prog (rgn 46) Q ⟨#[v0, v1, v2, .pointer (some ⟨k, 0, none⟩), v4, v5, v6, v7, v8, v9, v10, v11, v12, .slice vi li.length vj, v14, v15, v16, v17, .pointer (some ⟨k2, 0, none⟩), .int .i64 0, v20, v21, v22, v23, v24, v25, v26, v27, v28, v29, v30, v31, v32, v33, v34, v35, v36, v37, v38, v39, v40, v41, v42, v43, v44, v45, v46, v47, v48, v49, v50, v51, v52, v53, v54, v55, v56, v57, v58, v59, v60, v61, v62, v63, v64, v65, v66, v67, v68, v69, v70, v71, v72, v73, v74, v75, v76, v77, v78, v79, v80, v81, v82, v83, v84, v85, v86, v87, v88, v89, v90, v91, v92, v93, v94, v95, v96, v97, v98, v99, v100, v101, v102, v103, v104, v105, v106, v107, v108, v109, v110, v111, v112, v113, v114, v115, v116, v117, v118, v119, v120, v121, v122, v123, v124, v125, v126, v127, v128, v129, v130, v131, v132, v133, v134, v135, v136, v137, v138, v139, v140, v141, v142, v143, v144, v145, v146, v147, v148, v149, v150, v151, v152, v153, v154, v155, v156, v157, v158, v159, v160, v161, v162, v163, v164, v165, v166, v167, v168, v169, v170, v171, v172, v173, v174, v175, v176, v177, v178, v179, v180, v181, v182, v183, v184, v185, v186, v187, v188, v189, v190, v191, v192, v193, v194, v195, v196, v197, v198, v199, v200, v201, v202, v203, v204, v205, v206, v207, v208, v209, v210, v211, v212, v213, v214, v215, v216, v217, v218, v219, v220, v221, v222, v223, v224, v225, v226, v227, v228, v229, v230, v231, v232, v233, v234, v235, v236, v237, v238, v239, v240, v241, v242, v243, v244, v245, v246, v247, v248, v249, v250, v251, v252, v253, v254, v255, v256, v257, v258, v259], []⟩ wx := by
  conv => arg 2; whnf
  have HQ := Lib.hid hq
  have HS := Lib.hid hs
  have HT := Lib.hid ht
  have HTB := Lib.hid hT
  have HJI := Lib.hid hji
  have HLI := Lib.hid hli
  have HLT := Lib.hid (show T.length ≤ 32 by rw [len_bare hT]; exact hs.ok.len)
  clear hq hs ht hT hji hli
  go_wp2_with fail
  refine (list_any HT.out (deps_bare HTB.out (HS.out.ok.deps (by omega))) (by have := HLT.out; omega)).mono ?_
  rintro e w2 ⟨v, l2, rfl, hrow, hlike, hasd, hb2⟩
  obtain ⟨xa, xc, rfl, -⟩ := ownRow_shape hrow
  have HJ := Lib.hid (jobs_any (n1 := xc) (n2 := vj) (hrow.read fun j hj => (hlike.each j hj).1).1 (HJI.out.below hb2) (by rw [hlike.bare, HTB.out, HLI.out]) (by rw [hlike.len]; have := HLT.out; omega) (deps_bare (hlike.bare.trans HTB.out) (HS.out.ok.deps (by omega))))
  have HB2 := Lib.hid hb2
  clear hrow hlike hasd hb2
  go_wp2_with fail
  refine HJ.out.mono ?_
  rintro e w3 ⟨rfl, hb3⟩
  have HB3 := Lib.hid (HB2.out.trans (hb3.mono HB2.out.size))
  clear hb3 HJ
  go_wp2_with fail
  refine (last_any (HT.out.below HB3.out)).mono ?_
  rintro e w4 ⟨rfl, rfl⟩
  go_wp2_with fail
  refine (last_any (HS.out.tab.below HB3.out)).mono ?_
  rintro e w4 ⟨rfl, rfl⟩
  go_wp2_with fail
  exact HQ.out _ _ _ _ _ _ _ _ _ _ _ _ _ _ _ _ HB3.out
end Go.Proofs.YtpbnjibomdilhaaGreatDoor.Job
