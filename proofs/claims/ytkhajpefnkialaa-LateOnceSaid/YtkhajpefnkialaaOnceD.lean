/- The law: the last one that comes in time is due (region 19). -/
import Derived.Test.YtkhajpefnkialaaOnceC
import Derived.Deep.QuietTactic
namespace Go.Proofs.Ytkhajpefnkialaa.Job
open Go.RowKit

theorem lastI_eq : ∀ (a : Int) (xs : List Int) {m : Nat} (h : m + 1 = xs.length), lastI a xs = xs[m]'(by omega)
  | _, [], _, h => absurd h (by simp)
  | _, [x], m, h => by
    obtain rfl : m = 0 := by simpa using h
    rfl
  | _, x :: y :: r, m, h => by
    obtain ⟨k, rfl⟩ : ∃ k, m = k + 1 := ⟨m - 1, by simp at h; omega⟩
    rw [lastI, lastI_eq x (y :: r) (m := k) (by simpa using h)]
    rfl
set_option maxRecDepth 1000000 in
set_option maxHeartbeats 16000000 in
theorem last_wp (v0 v2 v4 v5 v8 v9 v10 v11 v12 v13 v14 v15 v16 v17 v18 v19 v20 v21 v22 v23 v24 v25 v26 v27 v28 v29 v30 v31 v32 v33 v34 v35 v36 v37 v38 v39 v40 v41 v42 v43 v44 v45 v46 v47 v48 v49 v50 v51 v52 v53 v54 v55 v56 v57 v58 v59 v60 v61 v62 v63 v64 v65 v66 v67 v68 v69 v70 v71 v72 v73 v74 v75 v76 v77 v78 v79 v80 v81 v82 v83 v84 v85 v86 v87 v88 v89 v90 v91 v92 v93 v94 v95 v96 v97 v98 v99 v100 v101 v102 v103 v104 v105 v106 v107 v108 v109 v110 v111 v112 v113 v114 v115 v116 v117 v118 v119 v120 v121 v122 v123 v124 v125 v126 v127 v128 v129 v130 v131 v132 v133 v134 v135 v136 v137 v138 v139 v140 v141 v142 v143 v144 v145 v146 v147 v148 v149 v150 v151 v152 v153 v154 v155 v156 v157 v158 v159 v160 v161 v162 v163 v164 v165 v166 v167 v168 v169 v170 v171 v172 v173 v174 v175 v176 v177 v178 v179 v180 v181 v182 v183 v184 v185 v186 v187 v188 v189 v190 v191 v192 v193 v194 v195 v196 v197 v198 v199 v200 v201 : Value) (Q : Exit → Act → World → Prop) (w wx : World) (B : Nat) (l : Lt) (a b g : Option Addr) (ca cb cg n : Nat) (hn : n = l.ds.length + l.cs.length) (hm : l.May) (hw : OnceW w wx B l a ca b cb g)
    (hq : ∀ (y109 y110 y111 y112 y113 y114 y115 y116 y117 y118 y119 y120 y121 y122 y123 y124 y125 y126 y127 y128 y129 y130 y131 y132 y133 y134 y135 y136 y137 y138 y139 y140 y141 y142 y143 y144 y145 y146 y147 y148 y149 y150 y151 y152 y153 y154 y155 : Value) (wz : World), Drew wx wz → Q .normal ⟨#[v0, .pointer (some ⟨B, 0, none⟩), v2, .slice a l.dues.length ca, v4, v5, .int .i64 (n : Int), .slice g n cg, v8, v9, v10, v11, v12, v13, v14, v15, v16, v17, v18, v19, v20, v21, v22, v23, v24, v25, v26, v27, v28, v29, v30, v31, v32, v33, v34, v35, v36, v37, v38, v39, v40, v41, v42, v43, v44, v45, v46, v47, v48, v49, v50, v51, v52, v53, v54, v55, v56, v57, v58, v59, v60, v61, v62, v63, v64, v65, v66, v67, v68, v69, v70, v71, v72, v73, v74, v75, v76, v77, v78, v79, v80, v81, v82, v83, v84, v85, v86, v87, v88, v89, v90, v91, v92, v93, v94, v95, v96, v97, v98, v99, v100, v101, v102, v103, v104, v105, v106, v107, v108, y109, y110, y111, y112, y113, y114, y115, y116, y117, y118, y119, y120, y121, y122, y123, y124, y125, y126, y127, y128, y129, y130, y131, y132, y133, y134, y135, y136, y137, y138, y139, y140, y141, y142, y143, y144, y145, y146, y147, y148, y149, y150, y151, y152, y153, y154, y155, .bool false, v157, v158, v159, v160, v161, v162, v163, v164, v165, v166, v167, v168, v169, v170, v171, v172, v173, v174, v175, v176, v177, v178, v179, v180, v181, v182, v183, v184, v185, v186, v187, v188, v189, v190, v191, v192, v193, v194, v195, v196, v197, v198, v199, v200, v201], []⟩ wz) :
    Code.wp Try.prog (rgn 19) Q ⟨#[v0, .pointer (some ⟨B, 0, none⟩), v2, .slice a l.dues.length ca, v4, v5, .int .i64 (n : Int), .slice g n cg, v8, v9, v10, v11, v12, v13, v14, v15, v16, v17, v18, v19, v20, v21, v22, v23, v24, v25, v26, v27, v28, v29, v30, v31, v32, v33, v34, v35, v36, v37, v38, v39, v40, v41, v42, v43, v44, v45, v46, v47, v48, v49, v50, v51, v52, v53, v54, v55, v56, v57, v58, v59, v60, v61, v62, v63, v64, v65, v66, v67, v68, v69, v70, v71, v72, v73, v74, v75, v76, v77, v78, v79, v80, v81, v82, v83, v84, v85, v86, v87, v88, v89, v90, v91, v92, v93, v94, v95, v96, v97, v98, v99, v100, v101, v102, v103, v104, v105, v106, v107, v108, v109, v110, v111, v112, v113, v114, v115, v116, v117, v118, v119, v120, v121, v122, v123, v124, v125, v126, v127, v128, v129, v130, v131, v132, v133, v134, v135, v136, v137, v138, v139, v140, v141, v142, v143, v144, v145, v146, v147, v148, v149, v150, v151, v152, v153, v154, v155, v156, v157, v158, v159, v160, v161, v162, v163, v164, v165, v166, v167, v168, v169, v170, v171, v172, v173, v174, v175, v176, v177, v178, v179, v180, v181, v182, v183, v184, v185, v186, v187, v188, v189, v190, v191, v192, v193, v194, v195, v196, v197, v198, v199, v200, v201], []⟩ wx := by
  conv => arg 2; whnf
  have HQ := Lib.hid hq
  clear hq
  obtain ⟨⟨c0, c1, c2⟩, c3, c4, c5⟩ := lobj_cells hw.row
  have hal := l.all_len
  have hn128 : n ≤ 128 := by have := hm.ds; have := hm.come; omega
  rw [← hn] at hal
  by_cases k0 : n = 0
  · have d0 : decide ((0 : Int) < (n : Int)) = false := decide_eq_false (by omega)
    have e0 : decide (0 < n) = false := decide_eq_false (by omega)
    clear hm hw hal hn k0 hn128
    go_wp2_with fail
    go_quiet (fail)
    obtain ⟨w4, hw4⟩ : ∃ W, W = wx.drewN nq := ⟨_, rfl⟩
    have HDR := Lib.hid (show Drew wx w4 from ⟨nq, hw4⟩)
    rw [← hw4]
    clear hw4
    go_wp2_with fail
    exact HQ.out _ _ _ _ _ _ _ _ _ _ _ _ _ _ _ _ _ _ _ _ _ _ _ _ _ _ _ _ _ _ _ _ _ _ _ _ _ _ _ _ _ _ _ _ _ _ _ _ HDR.out
  obtain ⟨m, hmm⟩ : ∃ m, n = m + 1 := ⟨n - 1, by omega⟩
  have d0 : decide ((0 : Int) < (n : Int)) = true := decide_eq_true (by omega)
  have e0 : decide (0 < n) = true := decide_eq_true (by omega)
  by_cases k1 : l.cs.length = 0
  · have d1 : decide ((0 : Int) < (l.cs.length : Int)) = false := decide_eq_false (by omega)
    have e1 : decide (0 < l.cs.length) = false := decide_eq_false (by omega)
    clear hm hw hal hn hmm k0 k1
    go_wp2_with fail
    go_quiet (fail)
    obtain ⟨w4, hw4⟩ : ∃ W, W = wx.drewN nq := ⟨_, rfl⟩
    have HDR := Lib.hid (show Drew wx w4 from ⟨nq, hw4⟩)
    rw [← hw4]
    clear hw4
    go_wp2_with fail
    exact HQ.out _ _ _ _ _ _ _ _ _ _ _ _ _ _ _ _ _ _ _ _ _ _ _ _ _ _ _ _ _ _ _ _ _ _ _ _ _ _ _ _ _ _ _ _ _ _ _ _ HDR.out
  have d1 : decide ((0 : Int) < (l.cs.length : Int)) = true := decide_eq_true (by omega)
  have e1 : decide (0 < l.cs.length) = true := decide_eq_true (by omega)
  obtain ⟨ga, gq, ea, hx⟩ := row_at hw.all (i := m) (by omega)
  obtain ⟨x, hxe⟩ : ∃ x, x = l.all[m]'(by omega) := ⟨_, rfl⟩
  rw [← hxe] at hx
  have hw1 : IntKind.i64.wrap ((n : Int) - 1) = (m : Int) := by rw [IntKind.wrap_i64]; omega
  have hw2 : (n : Int) - 1 = (m : Int) := by omega
  have hm0 : decide ((m : Int) < 0) = false := by simp
  have hm1 : decide ((m : Int) < (n : Int)) = true := by simp; omega
  have hb0 : (0 : Int) ≤ m := by omega
  have hb1 : (m : Int) < (n : Int) := by omega
  have hlow := rises_low _ _ hm.rise x (by rw [hxe]; exact List.getElem_mem _)
  have hlast : x ≤ l.now := by
    have hl := hm.last
    have e : lastI (-1) l.all = x := by
      rw [hxe]
      exact lastI_eq _ _ (by omega)
    omega
  have hnow := hm.now
  have hsub : IntKind.i64.wrap (l.now - x) = l.now - x := by rw [IntKind.wrap_i64]; omega
  have HLD := Lib.hid (Lt.last_due hm (by omega))
  have hidx : l.all[l.ds.length + l.cs.length - 1]'(by omega) = x := by rw [hxe]; congr 1; omega
  rw [hidx] at HLD
  by_cases k2 : l.now - x ≤ l.gra
  rotate_left
  · have d2 : decide (l.now - x ≤ l.gra) = false := decide_eq_false k2
    cases ea
    clear hm hw hal hn hmm HLD hidx hxe hlow hlast hnow k0 k1
    go_wp2_with fail
    go_quiet (fail)
    obtain ⟨w4, hw4⟩ : ∃ W, W = wx.drewN nq := ⟨_, rfl⟩
    have HDR := Lib.hid (show Drew wx w4 from ⟨nq, hw4⟩)
    rw [← hw4]
    clear hw4
    go_wp2_with fail
    exact HQ.out _ _ _ _ _ _ _ _ _ _ _ _ _ _ _ _ _ _ _ _ _ _ _ _ _ _ _ _ _ _ _ _ _ _ _ _ _ _ _ _ _ _ _ _ _ _ _ _ HDR.out
  have d2 : decide (l.now - x ≤ l.gra) = true := decide_eq_true k2
  by_cases k3 : (l.ds.length : Int) < l.room
  rotate_left
  · have d3 : decide ((l.ds.length : Int) < l.room) = false := decide_eq_false k3
    cases ea
    clear hm hw hal hn hmm HLD hidx hxe hlow hlast hnow k0 k1
    go_wp2_with fail
    go_quiet (fail)
    obtain ⟨w4, hw4⟩ : ∃ W, W = wx.drewN nq := ⟨_, rfl⟩
    have HDR := Lib.hid (show Drew wx w4 from ⟨nq, hw4⟩)
    rw [← hw4]
    clear hw4
    go_wp2_with fail
    exact HQ.out _ _ _ _ _ _ _ _ _ _ _ _ _ _ _ _ _ _ _ _ _ _ _ _ _ _ _ _ _ _ _ _ _ _ _ _ _ _ _ _ _ _ _ _ _ _ _ _ HDR.out
  have d3 : decide ((l.ds.length : Int) < l.room) = true := decide_eq_true k3
  obtain ⟨hd0, hde⟩ := HLD.out k2 k3
  obtain ⟨L, hL⟩ : ∃ L, L = l.dues.length := ⟨_, rfl⟩
  obtain ⟨k, hk⟩ : ∃ k, L = k + 1 := ⟨L - 1, by omega⟩
  obtain ⟨da, dq, eb, hy⟩ := row_at hw.due.read (i := k) (show k < l.dues.length by omega)
  have hyx : l.dues[k]'(by omega) = x := by rw [← hde]; congr 1; omega
  change wx.cell? ⟨da, dq + k, none⟩ = some (.int .i64 (l.dues[k]'(by omega))) at hy
  rw [hyx] at hy
  change a = some ⟨da, dq, none⟩ at eb
  have hL128 : L ≤ 128 := by have := Lt.both_len hm; omega
  rw [← hL] at HQ ⊢
  have hv1 : IntKind.i64.wrap ((L : Int) - 1) = (k : Int) := by rw [IntKind.wrap_i64]; omega
  have hv2 : (L : Int) - 1 = (k : Int) := by omega
  have hk0 : decide ((k : Int) < 0) = false := by simp
  have hk1 : decide ((k : Int) < (L : Int)) = true := by simp; omega
  have hkb0 : (0 : Int) ≤ k := by omega
  have hkb1 : (k : Int) < (L : Int) := by omega
  have hL0 : ((L : Int) == 0) = false := by simp; omega
  cases ea
  cases eb
  clear hm hw hal hn hmm HLD hidx hxe hlow hlast hnow k0 k1 hd0 hde hL hk hyx
  go_wp2_with fail
  go_quiet (fail)
  obtain ⟨w4, hw4⟩ : ∃ W, W = wx.drewN nq := ⟨_, rfl⟩
  have HDR := Lib.hid (show Drew wx w4 from ⟨nq, hw4⟩)
  rw [← hw4]
  clear hw4
  go_wp2_with fail
  exact HQ.out _ _ _ _ _ _ _ _ _ _ _ _ _ _ _ _ _ _ _ _ _ _ _ _ _ _ _ _ _ _ _ _ _ _ _ _ _ _ _ _ _ _ _ _ _ _ _ _ HDR.out
end Go.Proofs.Ytkhajpefnkialaa.Job
