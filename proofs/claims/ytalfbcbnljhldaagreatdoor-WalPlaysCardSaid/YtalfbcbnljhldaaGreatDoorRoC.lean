/-  -/
import Derived.Test.YtalfbcbnljhldaaGreatDoorMbe
import Derived.Test.YtalfbcbnljhldaaGreatDoorMae
set_option linter.unusedSimpArgs false
namespace Go.Proofs.YtalfbcbnljhldaaGreatDoor
open Go.Lib (hid)
open Go.RowKit Go.Maps Go.Sort Dsk Rd Wl
namespace Rl
section
variable {W W':World} {T:Nat→Prop} {h:Nat} {sv:Value} {L:List SV}
theorem run_appX {xa:Option Addr} {xn xc:Nat} {xl:List EV} (t:RowT W T h sv L) (hl:L.length≤1000000) (hh:h<W.heap.size) {b s:Nat} (hlit:W.heap[b]?=some (.cells #[.int .i64 (s:Int),.slice xa xn xc] 79 (0,0))):
  ∃v' W',(Builtin.append_ #[67,67] 67 #[sv,.slice (some ⟨b,0,none⟩) 1 1]).run Tryz.prog W= .ok v' W'∧RowT W' (fun k=>T k∨(W.heap.size≤k∧k<W'.heap.size)) h v' (L++ [⟨s,.slice xa xn xc,xl⟩])∧Rd.Apart (fun k=>T k∧k≠h) W W':=by
 obtain⟨i,hi,hz0,hz1,hz2⟩:=info_parts info_seg;have hnews: ∀j u,(segCells [⟨s,.slice xa xn xc,xl⟩])[j]?=some u→W.cell? ((⟨b,0,none⟩:Addr).add j)=some u:=fun j u hu=>by
  rw[addNone,Nat.zero_add,cell_of_row _ _ _ _ _ _ hlit];simpa [segCells] using hu
 have hone: ∀u∈segCells [⟨s,.slice xa xn xc,xl⟩],u.oneCell'=true:=fun u hu=>by
  simp only[segCells,List.mem_cons,List.not_mem_nil,or_false] at hu;rcases hu with rfl | rfl<;>rfl
 rcases t with⟨rfl,rfl⟩ | ⟨q,o,c,cur,rfl,h2,h3,h4,h5,h6,h7,h8⟩
 ·obtain⟨v',W',hrun,hown,hg,-,-⟩:=run_append_own_at (P:=Tryz.prog) W W.heap.size 67 67 79 i _ 2 32 Tryz.underlying67 hi hz0 hz1 hz2 rfl (by decide) (.slice none 0 0) 0 [] (World.ownsRow_nil _ _ _ _) ⟨b,0,none⟩ 1 1 (segCells [⟨s,.slice xa xn xc,xl⟩]) rfl hnews hone (by unfold maxLen;omega) (by omega) (Nat.le_refl _)
  refine⟨v',W',hrun,?_,grown_apart hg fun k e=>by cases e⟩;exact RowT.of_owns hown hh
 ·by_cases hroom:L.length+1≤c
  ·have hr:=run_append_room_cells (P:=Tryz.prog) W 67 67 79 i Tryz.underlying67 hi q o L.length c ⟨b,0,none⟩ 1 1 (segCells [⟨s,.slice xa xn xc,xl⟩]) (by rw[hz1];rfl) hnews hone hroom (fun j hj=>by
    have hj2:j<2:=by simpa [segCells] using hj
    rw[hz1,cell_of_row _ _ _ _ _ _ h4];simp;omega) (fun j hj=>by simp [World.frozen?,h4])
   rw[hz1] at hr;refine⟨_,_,hr,.inr ⟨q,o,c,(cur.setIfInBounds (o+L.length*2) (.int .i64 (s:Int))).setIfInBounds (o+L.length*2+1) (.slice xa xn xc),by simp,.inl h2,h3,?_,by simpa using hroom,h6,by simpa using h7,fun j u hu=>?_⟩,⟨rfl,rfl,rfl,by simp [segCells,World.setCells,World.setCell],fun k hk hn=>?_⟩⟩
   ·exact cells_set (cells_set h4 _ _) _ _
   ·rw[segCells_append] at hu
    have hlen:=segCells_len L;rw[Array.getElem?_setIfInBounds,Array.getElem?_setIfInBounds];by_cases hj:j<(segCells L).length
    ·rw[List.getElem?_append_left hj] at hu
     rw[if_neg (by omega),if_neg (by omega)];exact h8 j u hu
    ·rw[List.getElem?_append_right (by omega)] at hu
     have hj2:j - (segCells L).length=0∨j - (segCells L).length=1:=by
      have:=(List.getElem?_eq_some_iff.1 hu).1;simp [segCells] at this;omega
     rcases hj2 with e | e
     ·rw[e] at hu
      have hj3:o+j=o+L.length*2:=by omega
      rw[hj3,if_neg (by omega),if_pos rfl,if_pos (by omega)];simpa [segCells] using hu
     ·rw[e] at hu
      have hj3:o+j=o+L.length*2+1:=by omega
      rw[hj3,if_pos rfl,if_pos (by simp;omega)];simpa [segCells] using hu
   ·have hne:k≠q:=fun e=>hn (by rw[e];exact⟨h2,h3⟩)
    show(((W.setCell ⟨q,o+L.length*2,none⟩ (.int .i64 (s:Int))).setCell ⟨q,o+L.length*2+1,none⟩ (.slice xa xn xc)).heap[k]?)=_;rw[Below.heap_setCell _ _ _ _ hne,Below.heap_setCell _ _ _ _ hne]
  ·obtain⟨v',W',hrun,hown,hg⟩:=run_append_arg_grows (P:=Tryz.prog) W 67 67 79 i _ 2 32 Tryz.underlying67 hi hz0 hz1 hz2 rfl (by decide) ⟨q,o,none⟩ L.length c (segCells L) (segCells_len L) (fun j u hu=>by
    rw[addNone,cell_of_row _ _ _ _ _ _ h4];exact h8 j u hu) ⟨b,0,none⟩ 1 1 (segCells [⟨s,.slice xa xn xc,xl⟩]) rfl hnews (by omega) (by unfold maxLen;omega) (by omega)
   refine⟨v',W',hrun,?_,grown_apart hg fun k e=>by cases e⟩;rw[←segCells_append] at hown;exact RowT.of_owns (L:=L++ [⟨s,.slice xa xn xc,xl⟩]) (by rw[List.length_append];exact hown) hh
end
section
variable {w W:World} {T K:Nat→Prop} {h g:Nat} {L:List SV}
theorem LogT.addX {xa:Option Addr} {xn xc:Nat} {xl:List EV} {W':World} (t:LogT w T K h g L) (hKT: ∀k,K k→ ¬T k) (hKw: ∀k,K k→k<w.heap.size) {sv v':Value} (hsv:w.heap[h]?=some (.cells #[.pointer (some ⟨g,0,none⟩),sv] 69 (0,0))) {s:Nat}
  (hx:SegK w K ⟨s,.slice xa xn xc,xl⟩) (hb:Below w.heap.size w W) (hr:RowT W' (fun k=>T k∨(W.heap.size≤k∧k<W'.heap.size)) h v' (L++ [⟨s,.slice xa xn xc,xl⟩])) (ha:Rd.Apart (fun k=>T k∧k≠h) W W'):
  LogT (W'.setCell ⟨h,1,none⟩ v') (fun k=>T k∨(w.heap.size≤k∧k<W'.heap.size)) K h g (L++ [⟨s,.slice xa xn xc,xl⟩])∧Rd.Apart T w (W'.setCell ⟨h,1,none⟩ v'):=by
 have hx0:=hx;clear hx;have hh:h<w.heap.size:=lt_of_block hsv;have hhW:W'.heap[h]?=some (.cells #[.pointer (some ⟨g,0,none⟩),sv] 69 (0,0)):=(ha.block h (Nat.lt_of_lt_of_le hh hb.size) fun e=>e.2 rfl).trans ((hb.block h hh).trans hsv);have blk: ∀k,k<w.heap.size→ ¬T k→(W'.setCell ⟨h,1,none⟩ v').heap[k]?=w.heap[k]?:=fun k hk hn=>by
  have hkh:k≠h:=fun e=>hn (by rw[e];exact t.th);rw[Below.heap_setCell _ _ _ _ hkh,ha.block k (Nat.lt_of_lt_of_le hk hb.size) fun e=>hn e.1,hb.block k hk]
 have hz:(W'.setCell ⟨h,1,none⟩ v').heap.size=W'.heap.size:=by simp [World.setCell]
 have hzz:w.heap.size≤W'.heap.size:=Nat.le_trans hb.size ha.size;refine⟨⟨.inl t.th,⟨v',cells_set1 hhW,?_⟩,fun x hx=>?_⟩,⟨?_,?_,?_,by omega,blk⟩⟩
 ·refine(hr.mono (T':=fun k=>T k∨(w.heap.size≤k∧k<W'.heap.size)) fun k hk=>?_).keep fun k _ hne=>Below.heap_setCell _ _ _ _ hne
  rcases hk with hk | ⟨h1,h2⟩
  ·exact .inl hk
  ·exact .inr ⟨Nat.le_trans hb.size h1,h2⟩
 ·rcases List.mem_append.1 hx with hx | hx
  ·exact(t.segs x hx).keep (by omega) fun k hk=>blk k (hKw k hk) (hKT k hk)
  ·simp at hx
   subst hx;exact hx0.keep (by omega) fun k hk=>blk k (hKw k hk) (hKT k hk)
 ·show W'.os=w.os
  rw[ha.os,hb.os]
 ·show W'.tape=w.tape
  rw[ha.tape,hb.tape]
 ·show W'.output=w.output
  rw[ha.output,hb.output]
end
set_option maxRecDepth 1000000 in
set_option maxHeartbeats 16000000 in
theorem push_wp (v0 v1 v2 v4 v5 v6 v7 v8 v9 v10 v12 v13 v14 v15 v16 v17 v18 v19 v20 v21 v22 v23 v24 v25 v26 v27 v28 v29 v30 v31 v32 v33 v34 v35 v36 v37 v38 v39 v40 v41 v42 v43 v44 v45 v46 v47 v48 v49 v50 v51 v52 v53 v54 v55 v56 v57 v58 v59 v60 v61 v62 v63 v64 v65 v66 v67 v68 v69 v70 v71 v72 v73 v74 v75 v76 v77 v78 v79 v80 v81 v82 v83 v84 v85 v86 v87 v88 v89 v90 v91 v92 v93 v94 v95 v96 v97 v98 v99 v100 v101 v102 v103 v104 v105 v106 v107 v108 v109 v110 v111 v112 v113 v114 v115 v116 v117 v118 v119 v120 v121 v122 v123 v124 v125 v126 v127 v128 v129 v130 v131 v132 v133 v134 v135 v136 v137 v138 v139 v140 v141 v142 v143 v144 v145 v146 v147 v148 v149 v150 v151 v152 v153 v154 v155 v156 v157 v158 v159 v160 v161 v162 v163 v164 v165 v166 v167 v168 v169 v170 v171 v172 v173 v174 v175 v176:Value) {Q:Exit→Act→World→Prop} {wx:World} {B n h g sb sn:Nat} {S T K:Nat→Prop} {M:Files} {L:List SV} {xa:Option Addr} {xn xc:Nat} {xl:List EV}
  (r:RS wx B n h g S T K M L) (hL:L.length≤1000) (hx:SegK wx K ⟨sn,.slice xa xn xc,xl⟩) (hs0:wx.cell? ⟨sb,0,none⟩=some (.int .i64 (sn:Int))) (hs1:wx.cell? ⟨sb,1,none⟩=some (.slice xa xn xc)) (hsT: ¬T sb)
  (hpn: ∀c0 t0 t1 d w0,Q (.panic c0) ⟨t0,d⟩ w0→Q (.panic c0) ⟨t1,d⟩ w0)
  (hq: ∀(y136 y137 y138 y139 y140 y141 y142 y143 y144 y145:Value) (wz:World) (sz:Nat),(LogT wz (fun k=>T k∨(wx.drew.heap.size≤k∧k<sz)) K h g (L++ [⟨sn,.slice xa xn xc,xl⟩])∧Rd.Apart T wx.drew wz∧wz.heap.size=sz)→Q .normal ⟨#[v0,v1,v2,.pointer (some ⟨h,0,none⟩),v4,v5,v6,v7,v8,v9,v10,.pointer (some ⟨sb,0,none⟩),v12,v13,v14,v15,v16,v17,v18,v19,v20,v21,v22,v23,v24,v25,v26,v27,v28,v29,v30,v31,v32,v33,v34,v35,v36,v37,v38,v39,v40,v41,v42,v43,v44,v45,v46,v47,v48,v49,v50,v51,v52,v53,v54,v55,v56,v57,v58,v59,v60,v61,v62,v63,v64,v65,v66,v67,v68,v69,v70,v71,v72,v73,v74,v75,v76,v77,v78,v79,v80,v81,v82,v83,v84,v85,v86,v87,v88,v89,v90,v91,v92,v93,v94,v95,v96,v97,v98,v99,v100,v101,v102,v103,v104,v105,v106,v107,v108,v109,v110,v111,v112,v113,v114,v115,v116,v117,v118,v119,v120,v121,v122,v123,v124,v125,v126,v127,v128,v129,v130,v131,v132,v133,v134,v135,y136,y137,y138,y139,y140,y141,y142,y143,y144,y145,v146,v147,v148,v149,v150,v151,v152,v153,v154,v155,v156,v157,v158,v159,v160,v161,v162,v163,v164,v165,v166,v167,v168,v169,v170,v171,v172,v173,v174,v175,v176],[]⟩ wz):
  Code.wp Tryz.prog (rgnO 27) Q ⟨#[v0,v1,v2,.pointer (some ⟨h,0,none⟩),v4,v5,v6,v7,v8,v9,v10,.pointer (some ⟨sb,0,none⟩),v12,v13,v14,v15,v16,v17,v18,v19,v20,v21,v22,v23,v24,v25,v26,v27,v28,v29,v30,v31,v32,v33,v34,v35,v36,v37,v38,v39,v40,v41,v42,v43,v44,v45,v46,v47,v48,v49,v50,v51,v52,v53,v54,v55,v56,v57,v58,v59,v60,v61,v62,v63,v64,v65,v66,v67,v68,v69,v70,v71,v72,v73,v74,v75,v76,v77,v78,v79,v80,v81,v82,v83,v84,v85,v86,v87,v88,v89,v90,v91,v92,v93,v94,v95,v96,v97,v98,v99,v100,v101,v102,v103,v104,v105,v106,v107,v108,v109,v110,v111,v112,v113,v114,v115,v116,v117,v118,v119,v120,v121,v122,v123,v124,v125,v126,v127,v128,v129,v130,v131,v132,v133,v134,v135,v136,v137,v138,v139,v140,v141,v142,v143,v144,v145,v146,v147,v148,v149,v150,v151,v152,v153,v154,v155,v156,v157,v158,v159,v160,v161,v162,v163,v164,v165,v166,v167,v168,v169,v170,v171,v172,v173,v174,v175,v176],[]⟩ wx:=by
 conv=>arg 2;whnf
 have HQ:=hid hq;have HPN:=hid hpn;obtain⟨sv,hwal,hrow⟩:=r.log.wal;obtain⟨a0,c0,hsv,-⟩:=hrow.reads;subst hsv;have hh1:wx.cell? ⟨h,1,none⟩=some (.slice a0 L.length c0):=by rw[cell_of_row _ _ _ _ _ _ hwal];rfl
 obtain⟨n0,hn0⟩: ∃x,x=L.length:=⟨_,rfl⟩;rw[←hn0] at hh1 hwal hrow;have HLL:=hid (show L.length≤1000000 by omega);have hdr:Below wx.heap.size wx wx.drew:=(Below.refl _ _).drew;have HRS0:=hid (r.below hdr);have HC0:=hid (⟨stays' hdr hh1,stays' hdr hs0,stays' hdr hs1⟩:wx.drew.cell? ⟨h,1,none⟩=some (.slice a0 n0 c0)∧wx.drew.cell? ⟨sb,0,none⟩=some (.int .i64 (sn:Int))∧wx.drew.cell? ⟨sb,1,none⟩=some (.slice xa xn xc));have HX0:=hid (hx.keep hdr.size fun k hk=>hdr.block k (r.sK k hk).1);have HSB0:=hid (show sb<wx.drew.heap.size∧ ¬T sb from⟨Nat.lt_of_lt_of_le (World.block_lt_of_cell? wx ⟨sb,0,none⟩ hs0) hdr.size,hsT⟩);have HWAL0:=hid ((hdr.block h (lt_of_block hwal)).trans hwal);have HROW0:=hid (hrow.keep (w':=wx.drew) fun k hk _=>hdr.block k (r.sT k hk).1);clear hq hpn hs0 hs1 hx hwal hrow hh1 hn0 hL hsT hdr r;obtain⟨u,hu⟩: ∃u,u=wx.drew:=⟨_,rfl⟩;rw[←hu] at HRS0 HC0 HX0 HSB0 HWAL0 HROW0 HQ;refine wp_region_heldM_drew 10 (S:=fun W=>W.cell? ⟨h,1,none⟩=some (.slice a0 n0 c0)∧W.cell? ⟨sb,0,none⟩=some (.int .i64 (sn:Int))∧W.cell? ⟨sb,1,none⟩=some (.slice xa xn xc)) (by kernel_rfl) (by rw[←hu];exact HC0.out) (fun hHeld=>?_);rw[←hu] at hHeld ⊢;clear hu;have HRS:=HRS0;have HC:=HC0;have HX:=HX0;have HSB:=HSB0;have HWAL:=HWAL0;have HROW:=HROW0;have HH:=hid (lt_of_block HWAL.out);clear HRS0 HC0 HX0 HSB0 HWAL0 HROW0;refine zkM 0 (v:=?_) (hQ:=by exact fun c0 _ w0 h0=>HPN.out c0 _ _ _ w0 h0) (h2:=?_) (h:=?_);rotate_left;focus (rintro W ⟨q1,q2,q3⟩;go_simp;(try with_reducible rfl))
 try simp only[Act.put,zsA,zsS,zsZ]
 refine zkM 1 (v:=?_) (hQ:=by exact fun c0 _ w0 h0=>HPN.out c0 _ _ _ w0 h0) (h2:=?_) (h:=?_);rotate_left;focus (rintro W ⟨q1,q2,q3⟩;go_simp;(try with_reducible rfl))
 try simp only[Act.put,zsA,zsS,zsZ]
 refine zkM 2 (v:=?_) (hQ:=by exact fun c0 _ w0 h0=>HPN.out c0 _ _ _ w0 h0) (h2:=?_) (h:=?_);rotate_left;focus (rintro W ⟨q1,q2,q3⟩;go_simp;(try with_reducible rfl))
 try simp only[Act.put,zsA,zsS,zsZ]
 refine zkM 3 (v:=?_) (hQ:=by exact fun c0 _ w0 h0=>HPN.out c0 _ _ _ w0 h0) (h2:=?_) (h:=?_);rotate_left;focus (rintro W ⟨q1,q2,q3⟩;go_simp;(try with_reducible rfl))
 try simp only[Act.put,zsA,zsS,zsZ]
 refine zkM 4 (v:=?_) (hQ:=by exact fun c0 _ w0 h0=>HPN.out c0 _ _ _ w0 h0) (h2:=?_) (h:=?_);rotate_left;focus (rintro W ⟨q1,q2,q3⟩;go_simp;(try with_reducible rfl))
 try simp only[Act.put,zsA,zsS,zsZ]
 refine zkM 5 (v:=?_) (hQ:=by exact fun c0 _ w0 h0=>HPN.out c0 _ _ _ w0 h0) (h2:=?_) (h:=?_);rotate_left;focus (rintro W ⟨q1,q2,q3⟩;go_simp;(try with_reducible rfl))
 try simp only[Act.put,zsA,zsS,zsZ]
 refine zrM 6 (h:=fun K hK=>?_);rw[if_pos (by rfl)];go_simp
 obtain⟨b,hb⟩: ∃b,b=u.heap.size:=⟨_,rfl⟩;obtain⟨W0,hW0⟩: ∃x,x=u.alloc (.cells #[.int .i64 (sn:Int),.slice xa xn xc] 79):=⟨_,rfl⟩;rw[←hb,←hW0];have hal:Below u.heap.size u W0:=by rw[hW0];exact(Below.refl _ _).alloc (Nat.le_refl _) _
 have hnew:W0.heap[b]?=some (.cells #[.int .i64 (sn:Int),.slice xa xn xc] 79 (0,0)):=by rw[hW0,hb];exact heap_alloc_new _ _
 have HAL:=hid hal;have HNEW:=hid hnew;have hs:=(⟨stays' hal HC.out.1,stays' hal HC.out.2.1,stays' hal HC.out.2.2⟩:W0.cell? ⟨h,1,none⟩=some (.slice a0 n0 c0)∧W0.cell? ⟨sb,0,none⟩=some (.int .i64 (sn:Int))∧W0.cell? ⟨sb,1,none⟩=some (.slice xa xn xc));clear hal hnew hW0 hb;refine hK.out _ _ hs (fun hHeld=>?_);clear hK K;try simp only[Act.put,zsA,zsS,zsZ]
 refine zrM 7 (h:=fun K hK=>?_);rw[if_pos (by rfl)];obtain⟨v',W',hrun,hr,ha⟩:=run_appX (xl:=xl) (HROW.out.keep (w':=W0) fun k hk _=>HAL.out.block k (HRS.out.sT k hk).1) HLL.out (Nat.lt_of_lt_of_le HH.out HAL.out.size) HNEW.out;obtain⟨a9,c9,hv9,-⟩:=hr.reads;subst hv9;obtain⟨n9,hn9⟩: ∃x,x=(L++ [(⟨sn,.slice xa xn xc,xl⟩:SV)]).length:=⟨_,rfl⟩;obtain⟨hlog,hap⟩:=HRS.out.log.addX (fun k hk=>(HRS.out.sK k hk).2.2) (fun k hk=>(HRS.out.sK k hk).1) HWAL.out HX.out HAL.out hr ha;rw[←hn9] at hrun hlog hap;refine wp_append_runR rfl rfl rfl hrun ?_;have hs:=(⟨(World.cell?_of_block (a:=⟨h,1,none⟩) (ha.block h (Nat.lt_of_lt_of_le HH.out HAL.out.size) fun e=>e.2 rfl)).trans (stays' HAL.out HC.out.1),(World.cell?_of_block (a:=⟨sb,0,none⟩) (ha.block sb (Nat.lt_of_lt_of_le HSB.out.1 HAL.out.size) fun e=>HSB.out.2 e.1)).trans (stays' HAL.out HC.out.2.1),(World.cell?_of_block (a:=⟨sb,1,none⟩) (ha.block sb (Nat.lt_of_lt_of_le HSB.out.1 HAL.out.size) fun e=>HSB.out.2 e.1)).trans (stays' HAL.out HC.out.2.2)⟩:W'.cell? ⟨h,1,none⟩=some (.slice a0 n0 c0)∧W'.cell? ⟨sb,0,none⟩=some (.int .i64 (sn:Int))∧W'.cell? ⟨sb,1,none⟩=some (.slice xa xn xc));have HS7:=hid hs;have HLOG:=hid hlog;have HAPP:=hid hap;have hbox:W'.heap[h]?=some (.cells #[.pointer (some ⟨g,0,none⟩),.slice a0 n0 c0] 69 (0,0)):=(ha.block h (Nat.lt_of_lt_of_le HH.out HAL.out.size) fun e=>e.2 rfl).trans ((HAL.out.block h HH.out).trans HWAL.out);have HBOX:=hid hbox;clear hlog hap hr ha hrun hn9 hbox;refine hK.out _ _ hs (fun hHeld=>?_);clear hK K;try simp only[Act.put,zsA,zsS,zsZ]
 refine zrM 8 (h:=fun K hK=>?_);rw[if_pos (by rfl)];go_simp
 refine hK.out _ _ HS7.out (fun hHeld=>?_);clear hK K;try simp only[Act.put,zsA,zsS,zsZ]
 refine zkM 9 (v:=?_) (hQ:=by exact fun c0 _ w0 h0=>HPN.out c0 _ _ _ w0 h0) (h2:=?_) (h:=?_);rotate_left;focus (rintro W ⟨q1,q2,q3⟩;go_simp;(try with_reducible rfl))
 try simp only[Act.put,zsA,zsS,zsZ]
 refine zrL 10 (h:=fun K hK=>?_);rw[if_pos (by rfl)];have hfz:W'.frozen? ⟨h,1,none⟩=false:=frozen_row HBOX.out;have hcz:W'.cell? ⟨h,1,none⟩=some (.slice a0 n0 c0):=by rw[cell_of_row _ _ _ _ _ _ HBOX.out];rfl
 go_simp
 clear hfz hcz;refine hK.out _ _ ?_;clear hK K;try simp only[Act.put,zsA,zsS,zsZ]
 refine HQ.out _ _ _ _ _ _ _ _ _ _ _ W'.heap.size ?_;exact⟨HLOG.out,HAPP.out,by simp [World.setCell]⟩
set_option maxRecDepth 1000000 in
set_option maxHeartbeats 16000000 in
theorem push_rs (v0 v1 v2 v4 v5 v6 v7 v8 v9 v10 v12 v13 v14 v15 v16 v17 v18 v19 v20 v21 v22 v23 v24 v25 v26 v27 v28 v29 v30 v31 v32 v33 v34 v35 v36 v37 v38 v39 v40 v41 v42 v43 v44 v45 v46 v47 v48 v49 v50 v51 v52 v53 v54 v55 v56 v57 v58 v59 v60 v61 v62 v63 v64 v65 v66 v67 v68 v69 v70 v71 v72 v73 v74 v75 v76 v77 v78 v79 v80 v81 v82 v83 v84 v85 v86 v87 v88 v89 v90 v91 v92 v93 v94 v95 v96 v97 v98 v99 v100 v101 v102 v103 v104 v105 v106 v107 v108 v109 v110 v111 v112 v113 v114 v115 v116 v117 v118 v119 v120 v121 v122 v123 v124 v125 v126 v127 v128 v129 v130 v131 v132 v133 v134 v135 v136 v137 v138 v139 v140 v141 v142 v143 v144 v145 v146 v147 v148 v149 v150 v151 v152 v153 v154 v155 v156 v157 v158 v159 v160 v161 v162 v163 v164 v165 v166 v167 v168 v169 v170 v171 v172 v173 v174 v175 v176:Value) {Q:Exit→Act→World→Prop} {wx:World} {B n h g sb sn:Nat} {S T K:Nat→Prop} {M:Files} {L:List SV} {xa:Option Addr} {xn xc:Nat} {xl:List EV}
  (r:RS wx B n h g S T K M L) (hL:L.length≤1000) (hx:SegK wx K ⟨sn,.slice xa xn xc,xl⟩) (hs0:wx.cell? ⟨sb,0,none⟩=some (.int .i64 (sn:Int))) (hs1:wx.cell? ⟨sb,1,none⟩=some (.slice xa xn xc)) (hsT: ¬T sb)
  (hpn: ∀c0 t0 t1 d w0,Q (.panic c0) ⟨t0,d⟩ w0→Q (.panic c0) ⟨t1,d⟩ w0)
  (hq: ∀(y136 y137 y138 y139 y140 y141 y142 y143 y144 y145:Value) (wz:World) (T':Nat→Prop),RS wz B n h g S T' K M (L++ [⟨sn,.slice xa xn xc,xl⟩])→Mv S T K wx wz S T' K→Q .normal ⟨#[v0,v1,v2,.pointer (some ⟨h,0,none⟩),v4,v5,v6,v7,v8,v9,v10,.pointer (some ⟨sb,0,none⟩),v12,v13,v14,v15,v16,v17,v18,v19,v20,v21,v22,v23,v24,v25,v26,v27,v28,v29,v30,v31,v32,v33,v34,v35,v36,v37,v38,v39,v40,v41,v42,v43,v44,v45,v46,v47,v48,v49,v50,v51,v52,v53,v54,v55,v56,v57,v58,v59,v60,v61,v62,v63,v64,v65,v66,v67,v68,v69,v70,v71,v72,v73,v74,v75,v76,v77,v78,v79,v80,v81,v82,v83,v84,v85,v86,v87,v88,v89,v90,v91,v92,v93,v94,v95,v96,v97,v98,v99,v100,v101,v102,v103,v104,v105,v106,v107,v108,v109,v110,v111,v112,v113,v114,v115,v116,v117,v118,v119,v120,v121,v122,v123,v124,v125,v126,v127,v128,v129,v130,v131,v132,v133,v134,v135,y136,y137,y138,y139,y140,y141,y142,y143,y144,y145,v146,v147,v148,v149,v150,v151,v152,v153,v154,v155,v156,v157,v158,v159,v160,v161,v162,v163,v164,v165,v166,v167,v168,v169,v170,v171,v172,v173,v174,v175,v176],[]⟩ wz):
  Code.wp Tryz.prog (rgnO 27) Q ⟨#[v0,v1,v2,.pointer (some ⟨h,0,none⟩),v4,v5,v6,v7,v8,v9,v10,.pointer (some ⟨sb,0,none⟩),v12,v13,v14,v15,v16,v17,v18,v19,v20,v21,v22,v23,v24,v25,v26,v27,v28,v29,v30,v31,v32,v33,v34,v35,v36,v37,v38,v39,v40,v41,v42,v43,v44,v45,v46,v47,v48,v49,v50,v51,v52,v53,v54,v55,v56,v57,v58,v59,v60,v61,v62,v63,v64,v65,v66,v67,v68,v69,v70,v71,v72,v73,v74,v75,v76,v77,v78,v79,v80,v81,v82,v83,v84,v85,v86,v87,v88,v89,v90,v91,v92,v93,v94,v95,v96,v97,v98,v99,v100,v101,v102,v103,v104,v105,v106,v107,v108,v109,v110,v111,v112,v113,v114,v115,v116,v117,v118,v119,v120,v121,v122,v123,v124,v125,v126,v127,v128,v129,v130,v131,v132,v133,v134,v135,v136,v137,v138,v139,v140,v141,v142,v143,v144,v145,v146,v147,v148,v149,v150,v151,v152,v153,v154,v155,v156,v157,v158,v159,v160,v161,v162,v163,v164,v165,v166,v167,v168,v169,v170,v171,v172,v173,v174,v175,v176],[]⟩ wx:=by
 refine push_wp _ _ _ _ _ _ _ _ _ _ _ _ _ _ _ _ _ _ _ _ _ _ _ _ _ _ _ _ _ _ _ _ _ _ _ _ _ _ _ _ _ _ _ _ _ _ _ _ _ _ _ _ _ _ _ _ _ _ _ _ _ _ _ _ _ _ _ _ _ _ _ _ _ _ _ _ _ _ _ _ _ _ _ _ _ _ _ _ _ _ _ _ _ _ _ _ _ _ _ _ _ _ _ _ _ _ _ _ _ _ _ _ _ _ _ _ _ _ _ _ _ _ _ _ _ _ _ _ _ _ _ _ _ _ _ _ _ _ _ _ _ _ _ _ _ _ _ _ _ _ _ _ _ _ _ _ _ _ _ _ _ _ _ _ _ _ _ _ _ _ _ _ _ _ _ r hL hx hs0 hs1 hsT hpn ?_;intro y136 y137 y138 y139 y140 y141 y142 y143 y144 y145 wz sz hh;obtain⟨hl,hap,hsz⟩:=hh;have hdr:Below wx.heap.size wx wx.drew:=(Below.refl _ _).drew;have hap2:Rd.Apart T wx wz:=⟨hap.os,hap.tape,hap.output,hap.size,fun k hk hn=>hap.block k hk hn⟩;obtain⟨r2,m2⟩:=r.logged hap2 hl (fun k hk=>hk.elim .inl fun e=> .inr ⟨e.1,by rw[hsz];exact e.2⟩) (fun k hk=>hk) (fun k hk=> .inl hk) (fun k hk=>by
  rcases hk with h1 | ⟨_,h1⟩
  ·exact Nat.lt_of_lt_of_le (r.sT k h1).1 hap2.size
  ·rw[hsz];exact h1) (fun k hk=>⟨Nat.lt_of_lt_of_le (r.sK k hk).1 hap2.size,fun h1=>by
  rcases h1 with h2 | ⟨h2,_⟩
  ·exact(r.sK k hk).2.2 h2
  ·have h3:=(r.sK k hk).1
   have h4:wx.drew.heap.size=wx.heap.size:=rfl;omega⟩)
 exact hq y136 y137 y138 y139 y140 y141 y142 y143 y144 y145 wz _ r2 m2
end Rl
end Go.Proofs.YtalfbcbnljhldaaGreatDoor
