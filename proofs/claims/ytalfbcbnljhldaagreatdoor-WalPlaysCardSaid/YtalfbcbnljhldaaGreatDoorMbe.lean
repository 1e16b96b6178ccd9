/-  -/
import Derived.Test.YtalfbcbnljhldaaGreatDoorMbd
import Derived.Test.YtalfbcbnljhldaaGreatDoorRpA
import Derived.Test.YtalfbcbnljhldaaGreatDoorMae
set_option linter.unusedSimpArgs false
namespace Go.Proofs.YtalfbcbnljhldaaGreatDoor
open Go.Lib (hid)
open Go.RowKit Go.Maps Go.Sort Dsk Rd Wl
namespace Rl
noncomputable def rgnO (n:Nat):Code:=((Tryz.f7.body.bind (findRegion n)).getD .skip)
theorem A9.call {u0 W W':World} {v:Value} {ps:List EV} {L:List (Nat×EV)} (h:A9 u0 W (.slice none 0 0) [] L) (hr:RowP W' W.heap.size v ps) (hb:Below W.heap.size W W'):A9 u0 W' v ps L:=
 ⟨h.bel.trans (hb.mono h.bel.size),ownsRow_less hr h.bel.size,fun s hs=>by
  obtain⟨h1,_,h3⟩:=h.src s hs;refine⟨h1.below hb,fun e=>?_,Nat.lt_of_lt_of_le h3 hb.size⟩;have:=(World.ownsRow.lt hr _ e).1;omega⟩
set_option maxRecDepth 1000000 in
set_option maxHeartbeats 16000000 in
theorem row_wp (v0 v1 v2 v4 v5 v6 v7 v8 v9 v10 v12 v13 v14 v16 v17 v18 v19 v20 v21 v22 v23 v24 v25 v26 v27 v28 v29 v30 v31 v32 v33 v34 v35 v36 v37 v38 v39 v40 v41 v42 v43 v44 v45 v46 v47 v48 v49 v50 v51 v52 v53 v54 v55 v56 v57 v58 v59 v60 v61 v62 v63 v64 v65 v66 v67 v68 v69 v70 v71 v72 v73 v74 v75 v76 v77 v78 v79 v80 v81 v82 v83 v84 v85 v86 v87 v88 v89 v90 v91 v92 v93 v94 v95 v96 v97 v98 v99 v100 v101 v102 v103 v104 v105 v106 v107 v108 v109 v110 v111 v112 v113 v114 v115 v116 v117 v118 v119 v120 v121 v122 v123 v124 v125 v126 v127 v128 v129 v130 v131 v132 v133 v134 v135 v136 v137 v138 v139 v140 v141 v142 v143 v144 v145 v146 v147 v148 v149 v150 v151 v152 v153 v154 v155 v156 v157 v158 v159 v160 v161 v162 v163 v164 v165 v166 v167 v168 v169 v170 v171 v172 v173 v174 v175 v176:Value) {Q:Exit→Act→World→Prop} {wx:World} {h g sb eb:Nat} {L:List SV} {sa:Option Addr} {sl sc:Nat} {px pt:Nat} {pb:List Int} {pa:Option Addr} {pn pc:Nat} {l:List EV}
  (k:LogR wx h g L) (hLr:(recsOf L).length≤200000) (hL:L.length≤1000) (hc:wx.cell? ⟨sb,1,none⟩=some (.slice sa sl sc)∧wx.cell? ⟨eb,0,none⟩=some (.int .u64 (px:Int))∧wx.cell? ⟨eb,1,none⟩=some (.int .u64 (pt:Int))∧wx.cell? ⟨eb,2,none⟩=some (.slice pa pn pc)) (hr:ReadsP wx sa l∧sl=l.length∧(sa=none→sl=0∧sc=0)∧Fine l∧l.length≤200000) (hfp:Fine [((⟨px,pt,pb⟩,.slice pa pn pc):EV)])
  (hpn: ∀c0 t0 t1 d w0,Q (.panic c0) ⟨t0,d⟩ w0→Q (.panic c0) ⟨t1,d⟩ w0)
  (hq: ∀(y17 y89 y90 y91 y92 y93 y94 y95 y96 y97 y98 y99 y100:Value) (wz:World) (kk:Nat) (l3:List EV),RowIs (recsOf L++l++ [((⟨px,pt,pb⟩,.slice pa pn pc):EV)]) l3 kk→Below wx.heap.size wx wz→Q .normal ⟨#[v0,v1,v2,.pointer (some ⟨h,0,none⟩),v4,v5,v6,v7,v8,v9,v10,.pointer (some ⟨sb,0,none⟩),v12,v13,v14,.pointer (some ⟨eb,0,none⟩),v16,y17,.int .i64 (kk:Int),v19,v20,v21,v22,v23,v24,v25,v26,v27,v28,v29,v30,v31,v32,v33,v34,v35,v36,v37,v38,v39,v40,v41,v42,v43,v44,v45,v46,v47,v48,v49,v50,v51,v52,v53,v54,v55,v56,v57,v58,v59,v60,v61,v62,v63,v64,v65,v66,v67,v68,v69,v70,v71,v72,v73,v74,v75,v76,v77,v78,v79,v80,v81,v82,v83,v84,v85,v86,v87,v88,y89,y90,y91,y92,y93,y94,y95,y96,y97,y98,y99,y100,v101,v102,v103,v104,v105,v106,v107,v108,v109,v110,v111,v112,v113,v114,v115,v116,v117,v118,v119,v120,v121,v122,v123,v124,v125,v126,v127,v128,v129,v130,v131,v132,v133,v134,v135,v136,v137,v138,v139,v140,v141,v142,v143,v144,v145,v146,v147,v148,v149,v150,v151,v152,v153,v154,v155,v156,v157,v158,v159,v160,v161,v162,v163,v164,v165,v166,v167,v168,v169,v170,v171,v172,v173,v174,v175,v176],[]⟩ wz):
  Code.wp Tryz.prog (rgnO 20) Q ⟨#[v0,v1,v2,.pointer (some ⟨h,0,none⟩),v4,v5,v6,v7,v8,v9,v10,.pointer (some ⟨sb,0,none⟩),v12,v13,v14,.pointer (some ⟨eb,0,none⟩),v16,v17,v18,v19,v20,v21,v22,v23,v24,v25,v26,v27,v28,v29,v30,v31,v32,v33,v34,v35,v36,v37,v38,v39,v40,v41,v42,v43,v44,v45,v46,v47,v48,v49,v50,v51,v52,v53,v54,v55,v56,v57,v58,v59,v60,v61,v62,v63,v64,v65,v66,v67,v68,v69,v70,v71,v72,v73,v74,v75,v76,v77,v78,v79,v80,v81,v82,v83,v84,v85,v86,v87,v88,v89,v90,v91,v92,v93,v94,v95,v96,v97,v98,v99,v100,v101,v102,v103,v104,v105,v106,v107,v108,v109,v110,v111,v112,v113,v114,v115,v116,v117,v118,v119,v120,v121,v122,v123,v124,v125,v126,v127,v128,v129,v130,v131,v132,v133,v134,v135,v136,v137,v138,v139,v140,v141,v142,v143,v144,v145,v146,v147,v148,v149,v150,v151,v152,v153,v154,v155,v156,v157,v158,v159,v160,v161,v162,v163,v164,v165,v166,v167,v168,v169,v170,v171,v172,v173,v174,v175,v176],[]⟩ wx:=by
 conv=>arg 2;whnf
 have HQ:=hid hq;have HPN:=hid hpn;have HLR:=hid hLr;have HC:=hid hc;have HR:=hid hr;obtain⟨u,hu⟩: ∃u,u=wx.drew:=⟨_,rfl⟩;have HBu:=hid (show Below wx.heap.size wx u by rw[hu];exact(Below.refl _ _).drew);have HCK:=hid (fun W (hW:Below u.heap.size u W)=>(⟨stays' hW (stays' HBu.out HC.out.1),stays' hW (stays' HBu.out HC.out.2.1),stays' hW (stays' HBu.out HC.out.2.2.1),stays' hW (stays' HBu.out HC.out.2.2.2)⟩:W.cell? ⟨sb,1,none⟩=some (.slice sa sl sc)∧W.cell? ⟨eb,0,none⟩=some (.int .u64 (px:Int))∧W.cell? ⟨eb,1,none⟩=some (.int .u64 (pt:Int))∧W.cell? ⟨eb,2,none⟩=some (.slice pa pn pc)));have HREC:=hid (fun W (hW:Below u.heap.size u W)=>records_any ((k.below HBu.out).below hW) (by omega) (by omega));have HFP:=hid hfp;have HRL:=hid (HR.out.1.below HBu.out);have HM:=hid HR.out.2.1;have HNA:=hid HR.out.2.2.1;have HFL:=hid HR.out.2.2.2.1;have HLL:=hid HR.out.2.2.2.2;have HFR:=hid (k.fine L fun _ hs=>hs);have HA0:=hid (A9.start u);clear hq hpn hLr hc hr hfp k;refine wp_region_held_drew (S:=fun W=>W.cell? ⟨sb,1,none⟩=some (.slice sa sl sc)∧W.cell? ⟨eb,0,none⟩=some (.int .u64 (px:Int))∧W.cell? ⟨eb,1,none⟩=some (.int .u64 (pt:Int))∧W.cell? ⟨eb,2,none⟩=some (.slice pa pn pc)) (by kernel_rfl) (by rw[←hu];exact HCK.out _ (Below.refl _ _)) (fun hHeld=>?_);rw[←hu] at hHeld ⊢;clear hu;refine zkH 0 (v:=?_) (hQ:=by exact fun c0 _ w0 h0=>HPN.out c0 _ _ _ w0 h0) (h2:=?_) (h:=?_);rotate_left;focus (rintro W ⟨q1,q2,q3,q4⟩;go_simp;(try with_reducible rfl))
 try simp only[Act.put,zsA,zsS,zsZ]
 refine zkH 2 (v:=?_) (hQ:=by exact fun c0 _ w0 h0=>HPN.out c0 _ _ _ w0 h0) (h2:=?_) (h:=?_);rotate_left;focus (rintro W ⟨q1,q2,q3,q4⟩;go_simp;(try with_reducible rfl))
 try simp only[Act.put,zsA,zsS,zsZ]
 refine zkH 3 (v:=?_) (hQ:=by exact fun c0 _ w0 h0=>HPN.out c0 _ _ _ w0 h0) (h2:=?_) (h:=?_);rotate_left;focus (rintro W ⟨q1,q2,q3,q4⟩;go_simp;(try with_reducible rfl))
 try simp only[Act.put,zsA,zsS,zsZ]
 refine zkH 5 (v:=?_) (hQ:=by exact fun c0 _ w0 h0=>HPN.out c0 _ _ _ w0 h0) (h2:=?_) (h:=?_);rotate_left;focus (rintro W ⟨q1,q2,q3,q4⟩;go_simp;(try with_reducible rfl))
 try simp only[Act.put,zsA,zsS,zsZ]
 refine wpAnyH_ready (rs:= [1,6]) (by kernel_rfl) (by simp) ?_;refine AllReadyH.cons (o:=?_) ?_ (fun K hK=>?_) ?_;rotate_left;focus (simp only[zgT,zgS,zgZ];rfl)
 rw[if_pos (by rfl)]
 ·go_simp
  refine(HREC.out _ HA0.out.bel).mono ?_;rintro e W1 ⟨ra,rc,rfl,hr,hb⟩;have hA:=HA0.out.call hr hb;have HA1:=hid hA;have hs:=HCK.out _ hA.bel;clear hA hr hb;go_wp2_with fail
  refine hK.out _ _ hs (fun hHeld=>?_);clear hK K;try simp only[Act.put,zsA,zsS,zsZ]
  refine wpAnyH_ready (rs:= [4,6]) (by kernel_rfl) (by simp) ?_;refine AllReadyH.cons (o:=?_) ?_ (fun K hK=>?_) ?_;rotate_left;focus (simp only[zgT,zgS,zgZ];rfl)
  rw[if_pos (by rfl)]
  ·obtain⟨v1,W2,hrun,hA,-⟩:=HA1.out.app (by have:=HLR.out;omega) HM.out (HRL.out.below HA1.out.bel) HFL.out (by have:=HLL.out;omega) HNA.out
   refine wp_append_runR rfl rfl rfl hrun ?_;have HA2:=hid hA;have hs:=HCK.out _ hA.bel;clear hA hrun;refine hK.out _ _ hs (fun hHeld=>?_);clear hK K;try simp only[Act.put,zsA,zsS,zsZ]
   refine zrH 6 (h:=fun K hK=>?_);rw[if_pos (by rfl)];go_simp
   have hA:A9 u (W2.alloc (.cells #[.int .u64 (px:Int),.int .u64 (pt:Int),.slice pa pn pc] 55)) _ _ ((W2.heap.size,((⟨px,pt,pb⟩,.slice pa pn pc):EV))::_):=HA2.out.lit ((⟨px,pt,pb⟩,.slice pa pn pc):EV);obtain⟨gb,hgb⟩: ∃x,x=W2.heap.size:=⟨_,rfl⟩;obtain⟨W3,hW⟩: ∃x,x=W2.alloc (.cells #[.int .u64 (px:Int),.int .u64 (pt:Int),.slice pa pn pc] 55):=⟨_,rfl⟩;rw[←hgb,←hW] at hA;rw[←hgb,←hW];have HA3:=hid hA;have hs:=HCK.out _ hA.bel;clear hA hgb hW;refine hK.out _ _ hs (fun hHeld=>?_);clear hK K;try simp only[Act.put,zsA,zsS,zsZ]
   refine zrH 7 (h:=fun K hK=>?_);rw[if_pos (by rfl)];obtain⟨w2,W4,hrun,hA,-⟩:=HA3.out.app1 (by have:=HLL.out;have:=HLR.out;simp;omega) (s:=gb) (p:=((⟨px,pt,pb⟩,.slice pa pn pc):EV)) (by simp) HFP.out;obtain⟨a2,c2,hv2,-⟩:=slice_shape hA.row;subst hv2;have HRW:=hid (fun(W:World) (hz:ReadsP W a2 (recsOf L++l++ [((⟨px,pt,pb⟩,.slice pa pn pc):EV)]))=>row_any hz ((HFR.out.append HFL.out).append HFP.out) (by have:=HLL.out;have:=HLR.out;simp;omega) c2);have hrd:=(RowP.reads hA.row).1;obtain⟨nn,hnn⟩: ∃x,x=(recsOf L++l++ [((⟨px,pt,pb⟩,.slice pa pn pc):EV)]).length:=⟨_,rfl⟩;rw[←hnn] at hrun HRW;refine wp_append_runR rfl rfl rfl hrun ?_;have HRD4:=hid hrd;have HBL4:=hid hA.bel;have hs:=HCK.out _ hA.bel;clear hA hrun hrd hnn;refine hK.out _ _ hs (fun hHeld=>?_);clear hK K;try simp only[Act.put,zsA,zsS,zsZ]
   refine zrH 8 (h:=fun K hK=>?_);rw[if_pos (by rfl)];go_simp
   refine(HRW.out _ HRD4.out).mono ?_;rintro e W5 ⟨la,lc,l3,kk,rfl,hri,-,hb⟩;have HRI:=hid hri;have HBF:=hid (HBL4.out.trans (hb.mono HBL4.out.size));have hs:=HCK.out _ HBF.out;clear hri hb;go_wp2_with fail
   refine hK.out _ _ hs (fun hHeld=>?_);clear hK K;try simp only[Act.put,zsA,zsS,zsZ]
   refine zkH 9 (v:=?_) (hQ:=by exact fun c0 _ w0 h0=>HPN.out c0 _ _ _ w0 h0) (h2:=?_) (h:=?_);rotate_left;focus (rintro W ⟨q1,q2,q3,q4⟩;go_simp;(try with_reducible rfl))
   try simp only[Act.put,zsA,zsS,zsZ]
   refine zkH 10 (v:=?_) (hQ:=by exact fun c0 _ w0 h0=>HPN.out c0 _ _ _ w0 h0) (h2:=?_) (h:=?_);rotate_left;focus (rintro W ⟨q1,q2,q3,q4⟩;go_simp;(try with_reducible rfl))
   try simp only[Act.put,zsA,zsS,zsZ]
   refine zkH 11 (v:=?_) (hQ:=by exact fun c0 _ w0 h0=>HPN.out c0 _ _ _ w0 h0) (h2:=?_) (h:=?_);rotate_left;focus (rintro W ⟨q1,q2,q3,q4⟩;go_simp;(try with_reducible rfl))
   try simp only[Act.put,zsA,zsS,zsZ]
   refine zkH 12 (v:=?_) (hQ:=by exact fun c0 _ w0 h0=>HPN.out c0 _ _ _ w0 h0) (h2:=?_) (h:=?_);rotate_left;focus (rintro W ⟨q1,q2,q3,q4⟩;go_simp;(try with_reducible rfl))
   try simp only[Act.put,zsA,zsS,zsZ]
   refine zkH 13 (v:=?_) (hQ:=by exact fun c0 _ w0 h0=>HPN.out c0 _ _ _ w0 h0) (h2:=?_) (h:=?_);rotate_left;focus (rintro W ⟨q1,q2,q3,q4⟩;go_simp;(try with_reducible rfl))
   try simp only[Act.put,zsA,zsS,zsZ]
   refine wpAnyH_done (by kernel_rfl) ?_ _;exact HQ.out _ _ _ _ _ _ _ _ _ _ _ _ _ W5 kk l3 HRI.out (HBu.out.trans (HBF.out.mono HBu.out.size))
  refine AllReadyH.cons (o:=?_) ?_ (fun K hK=>?_) AllReadyH.nil;rotate_left;focus (simp only[zgT,zgS,zgZ];rfl)
  rw[if_pos (by rfl)];go_simp
  have hA:A9 u (W1.alloc (.cells #[.int .u64 (px:Int),.int .u64 (pt:Int),.slice pa pn pc] 55)) _ _ ((W1.heap.size,((⟨px,pt,pb⟩,.slice pa pn pc):EV))::_):=HA1.out.lit ((⟨px,pt,pb⟩,.slice pa pn pc):EV);obtain⟨gb,hgb⟩: ∃x,x=W1.heap.size:=⟨_,rfl⟩;obtain⟨W2,hW⟩: ∃x,x=W1.alloc (.cells #[.int .u64 (px:Int),.int .u64 (pt:Int),.slice pa pn pc] 55):=⟨_,rfl⟩;rw[←hgb,←hW] at hA;rw[←hgb,←hW];have HA2:=hid hA;have hs:=HCK.out _ hA.bel;clear hA hgb hW;refine hK.out _ _ hs (fun hHeld=>?_);clear hK K;try simp only[Act.put,zsA,zsS,zsZ]
  refine zrH 4 (h:=fun K hK=>?_);rw[if_pos (by rfl)];obtain⟨v1,W3,hrun,hA,-⟩:=HA2.out.app (by have:=HLR.out;omega) HM.out (HRL.out.below HA2.out.bel) HFL.out (by have:=HLL.out;omega) HNA.out;refine wp_append_runR rfl rfl rfl hrun ?_;have HA3:=hid hA;have hs:=HCK.out _ hA.bel;clear hA hrun;refine hK.out _ _ hs (fun hHeld=>?_);clear hK K;try simp only[Act.put,zsA,zsS,zsZ]
  refine zrH 7 (h:=fun K hK=>?_);rw[if_pos (by rfl)];obtain⟨w2,W4,hrun,hA,-⟩:=HA3.out.app1 (by have:=HLL.out;have:=HLR.out;simp;omega) (s:=gb) (p:=((⟨px,pt,pb⟩,.slice pa pn pc):EV)) (by simp) HFP.out;obtain⟨a2,c2,hv2,-⟩:=slice_shape hA.row;subst hv2;have HRW:=hid (fun(W:World) (hz:ReadsP W a2 (recsOf L++l++ [((⟨px,pt,pb⟩,.slice pa pn pc):EV)]))=>row_any hz ((HFR.out.append HFL.out).append HFP.out) (by have:=HLL.out;have:=HLR.out;simp;omega) c2);have hrd:=(RowP.reads hA.row).1;obtain⟨nn,hnn⟩: ∃x,x=(recsOf L++l++ [((⟨px,pt,pb⟩,.slice pa pn pc):EV)]).length:=⟨_,rfl⟩;rw[←hnn] at hrun HRW;refine wp_append_runR rfl rfl rfl hrun ?_;have HRD4:=hid hrd;have HBL4:=hid hA.bel;have hs:=HCK.out _ hA.bel;clear hA hrun hrd hnn;refine hK.out _ _ hs (fun hHeld=>?_);clear hK K;try simp only[Act.put,zsA,zsS,zsZ]
  refine zrH 8 (h:=fun K hK=>?_);rw[if_pos (by rfl)];go_simp
  refine(HRW.out _ HRD4.out).mono ?_;rintro e W5 ⟨la,lc,l3,kk,rfl,hri,-,hb⟩;have HRI:=hid hri;have HBF:=hid (HBL4.out.trans (hb.mono HBL4.out.size));have hs:=HCK.out _ HBF.out;clear hri hb;go_wp2_with fail
  refine hK.out _ _ hs (fun hHeld=>?_);clear hK K;try simp only[Act.put,zsA,zsS,zsZ]
  refine zkH 9 (v:=?_) (hQ:=by exact fun c0 _ w0 h0=>HPN.out c0 _ _ _ w0 h0) (h2:=?_) (h:=?_);rotate_left;focus (rintro W ⟨q1,q2,q3,q4⟩;go_simp;(try with_reducible rfl))
  try simp only[Act.put,zsA,zsS,zsZ]
  refine zkH 10 (v:=?_) (hQ:=by exact fun c0 _ w0 h0=>HPN.out c0 _ _ _ w0 h0) (h2:=?_) (h:=?_);rotate_left;focus (rintro W ⟨q1,q2,q3,q4⟩;go_simp;(try with_reducible rfl))
  try simp only[Act.put,zsA,zsS,zsZ]
  refine zkH 11 (v:=?_) (hQ:=by exact fun c0 _ w0 h0=>HPN.out c0 _ _ _ w0 h0) (h2:=?_) (h:=?_);rotate_left;focus (rintro W ⟨q1,q2,q3,q4⟩;go_simp;(try with_reducible rfl))
  try simp only[Act.put,zsA,zsS,zsZ]
  refine zkH 12 (v:=?_) (hQ:=by exact fun c0 _ w0 h0=>HPN.out c0 _ _ _ w0 h0) (h2:=?_) (h:=?_);rotate_left;focus (rintro W ⟨q1,q2,q3,q4⟩;go_simp;(try with_reducible rfl))
  try simp only[Act.put,zsA,zsS,zsZ]
  refine zkH 13 (v:=?_) (hQ:=by exact fun c0 _ w0 h0=>HPN.out c0 _ _ _ w0 h0) (h2:=?_) (h:=?_);rotate_left;focus (rintro W ⟨q1,q2,q3,q4⟩;go_simp;(try with_reducible rfl))
  try simp only[Act.put,zsA,zsS,zsZ]
  refine wpAnyH_done (by kernel_rfl) ?_ _;exact HQ.out _ _ _ _ _ _ _ _ _ _ _ _ _ W5 kk l3 HRI.out (HBu.out.trans (HBF.out.mono HBu.out.size))
 refine AllReadyH.cons (o:=?_) ?_ (fun K hK=>?_) AllReadyH.nil;rotate_left;focus (simp only[zgT,zgS,zgZ];rfl)
 rw[if_pos (by rfl)];go_simp
 have hA:A9 u (u.alloc (.cells #[.int .u64 (px:Int),.int .u64 (pt:Int),.slice pa pn pc] 55)) _ _ ((u.heap.size,((⟨px,pt,pb⟩,.slice pa pn pc):EV))::_):=HA0.out.lit ((⟨px,pt,pb⟩,.slice pa pn pc):EV);obtain⟨gb,hgb⟩: ∃x,x=u.heap.size:=⟨_,rfl⟩;obtain⟨W1,hW⟩: ∃x,x=u.alloc (.cells #[.int .u64 (px:Int),.int .u64 (pt:Int),.slice pa pn pc] 55):=⟨_,rfl⟩;rw[←hgb,←hW] at hA;rw[←hgb,←hW];have HA1:=hid hA;have hs:=HCK.out _ hA.bel;clear hA hgb hW;refine hK.out _ _ hs (fun hHeld=>?_);clear hK K;try simp only[Act.put,zsA,zsS,zsZ]
 refine zrH 1 (h:=fun K hK=>?_);rw[if_pos (by rfl)];go_simp
 refine(HREC.out _ HA1.out.bel).mono ?_;rintro e W2 ⟨ra,rc,rfl,hr,hb⟩;have hA:=HA1.out.call hr hb;have HA2:=hid hA;have hs:=HCK.out _ hA.bel;clear hA hr hb;go_wp2_with fail
 refine hK.out _ _ hs (fun hHeld=>?_);clear hK K;try simp only[Act.put,zsA,zsS,zsZ]
 refine zrH 4 (h:=fun K hK=>?_);rw[if_pos (by rfl)];obtain⟨v1,W3,hrun,hA,-⟩:=HA2.out.app (by have:=HLR.out;omega) HM.out (HRL.out.below HA2.out.bel) HFL.out (by have:=HLL.out;omega) HNA.out;refine wp_append_runR rfl rfl rfl hrun ?_;have HA3:=hid hA;have hs:=HCK.out _ hA.bel;clear hA hrun;refine hK.out _ _ hs (fun hHeld=>?_);clear hK K;try simp only[Act.put,zsA,zsS,zsZ]
 refine zrH 7 (h:=fun K hK=>?_);rw[if_pos (by rfl)];obtain⟨w2,W4,hrun,hA,-⟩:=HA3.out.app1 (by have:=HLL.out;have:=HLR.out;simp;omega) (s:=gb) (p:=((⟨px,pt,pb⟩,.slice pa pn pc):EV)) (by simp) HFP.out;obtain⟨a2,c2,hv2,-⟩:=slice_shape hA.row;subst hv2;have HRW:=hid (fun(W:World) (hz:ReadsP W a2 (recsOf L++l++ [((⟨px,pt,pb⟩,.slice pa pn pc):EV)]))=>row_any hz ((HFR.out.append HFL.out).append HFP.out) (by have:=HLL.out;have:=HLR.out;simp;omega) c2);have hrd:=(RowP.reads hA.row).1;obtain⟨nn,hnn⟩: ∃x,x=(recsOf L++l++ [((⟨px,pt,pb⟩,.slice pa pn pc):EV)]).length:=⟨_,rfl⟩;rw[←hnn] at hrun HRW;refine wp_append_runR rfl rfl rfl hrun ?_;have HRD4:=hid hrd;have HBL4:=hid hA.bel;have hs:=HCK.out _ hA.bel;clear hA hrun hrd hnn;refine hK.out _ _ hs (fun hHeld=>?_);clear hK K;try simp only[Act.put,zsA,zsS,zsZ]
 refine zrH 8 (h:=fun K hK=>?_);rw[if_pos (by rfl)];go_simp
 refine(HRW.out _ HRD4.out).mono ?_;rintro e W5 ⟨la,lc,l3,kk,rfl,hri,-,hb⟩;have HRI:=hid hri;have HBF:=hid (HBL4.out.trans (hb.mono HBL4.out.size));have hs:=HCK.out _ HBF.out;clear hri hb;go_wp2_with fail
 refine hK.out _ _ hs (fun hHeld=>?_);clear hK K;try simp only[Act.put,zsA,zsS,zsZ]
 refine zkH 9 (v:=?_) (hQ:=by exact fun c0 _ w0 h0=>HPN.out c0 _ _ _ w0 h0) (h2:=?_) (h:=?_);rotate_left;focus (rintro W ⟨q1,q2,q3,q4⟩;go_simp;(try with_reducible rfl))
 try simp only[Act.put,zsA,zsS,zsZ]
 refine zkH 10 (v:=?_) (hQ:=by exact fun c0 _ w0 h0=>HPN.out c0 _ _ _ w0 h0) (h2:=?_) (h:=?_);rotate_left;focus (rintro W ⟨q1,q2,q3,q4⟩;go_simp;(try with_reducible rfl))
 try simp only[Act.put,zsA,zsS,zsZ]
 refine zkH 11 (v:=?_) (hQ:=by exact fun c0 _ w0 h0=>HPN.out c0 _ _ _ w0 h0) (h2:=?_) (h:=?_);rotate_left;focus (rintro W ⟨q1,q2,q3,q4⟩;go_simp;(try with_reducible rfl))
 try simp only[Act.put,zsA,zsS,zsZ]
 refine zkH 12 (v:=?_) (hQ:=by exact fun c0 _ w0 h0=>HPN.out c0 _ _ _ w0 h0) (h2:=?_) (h:=?_);rotate_left;focus (rintro W ⟨q1,q2,q3,q4⟩;go_simp;(try with_reducible rfl))
 try simp only[Act.put,zsA,zsS,zsZ]
 refine zkH 13 (v:=?_) (hQ:=by exact fun c0 _ w0 h0=>HPN.out c0 _ _ _ w0 h0) (h2:=?_) (h:=?_);rotate_left;focus (rintro W ⟨q1,q2,q3,q4⟩;go_simp;(try with_reducible rfl))
 try simp only[Act.put,zsA,zsS,zsZ]
 refine wpAnyH_done (by kernel_rfl) ?_ _;exact HQ.out _ _ _ _ _ _ _ _ _ _ _ _ _ W5 kk l3 HRI.out (HBu.out.trans (HBF.out.mono HBu.out.size))
end Rl
end Go.Proofs.YtalfbcbnljhldaaGreatDoor

set_option linter.unusedSimpArgs false
namespace Go.Proofs.YtalfbcbnljhldaaGreatDoor
open Go.RowKit Go.Maps Go.Sort Dsk Rd Wl
namespace Rl
set_option maxRecDepth 1000000 in
set_option maxHeartbeats 16000000 in
theorem bad_wp (v0 v1 v2 v4 v5 v6 v7 v8 v9 v10 v12 v13 v14 v15 v17 v18 v19 v20 v21 v22 v23 v24 v25 v26 v27 v28 v29 v30 v31 v32 v33 v34 v35 v36 v37 v38 v39 v40 v41 v42 v43 v44 v45 v46 v47 v48 v49 v50 v51 v52 v53 v54 v55 v56 v57 v58 v59 v60 v61 v62 v63 v64 v65 v66 v67 v68 v69 v70 v71 v72 v73 v74 v75 v76 v77 v78 v79 v80 v81 v82 v83 v84 v85 v86 v87 v88 v89 v90 v91 v92 v93 v94 v95 v96 v97 v98 v99 v100 v101 v102 v103 v104 v105 v106 v107 v108 v109 v110 v111 v112 v113 v114 v115 v116 v117 v118 v119 v120 v121 v122 v123 v124 v125 v126 v127 v128 v129 v130 v131 v132 v133 v134 v135 v136 v137 v138 v139 v140 v141 v142 v143 v144 v145 v146 v147 v148 v149 v150 v151 v152 v153 v154 v155 v156 v157 v158 v159 v160 v161 v162 v163 v164 v165 v166 v167 v168 v169 v170 v171 v172 v173 v174 v175 v176:Value) {Q:Exit→Act→World→Prop} {wx:World} {h sb:Nat}
  (hpn: ∀c0 t0 t1 d w0,Q (.panic c0) ⟨t0,d⟩ w0→Q (.panic c0) ⟨t1,d⟩ w0)
  (hq: ∀(y101 y102 y103 y104 y105 y106 y107 y108 y109 y110 y111 y112 y113:Value),Q .normal ⟨#[v0,v1,v2,.pointer (some ⟨h,0,none⟩),v4,v5,v6,v7,v8,v9,v10,.pointer (some ⟨sb,0,none⟩),v12,v13,v14,v15,.int .i64 4,v17,v18,v19,v20,v21,v22,v23,v24,v25,v26,v27,v28,v29,v30,v31,v32,v33,v34,v35,v36,v37,v38,v39,v40,v41,v42,v43,v44,v45,v46,v47,v48,v49,v50,v51,v52,v53,v54,v55,v56,v57,v58,v59,v60,v61,v62,v63,v64,v65,v66,v67,v68,v69,v70,v71,v72,v73,v74,v75,v76,v77,v78,v79,v80,v81,v82,v83,v84,v85,v86,v87,v88,v89,v90,v91,v92,v93,v94,v95,v96,v97,v98,v99,v100,y101,y102,y103,y104,y105,y106,y107,y108,y109,y110,y111,y112,y113,.bool true,v115,v116,v117,v118,v119,v120,v121,v122,v123,v124,v125,v126,v127,v128,v129,v130,v131,v132,v133,v134,v135,v136,v137,v138,v139,v140,v141,v142,v143,v144,v145,v146,v147,v148,v149,v150,v151,v152,v153,v154,v155,v156,v157,v158,v159,v160,v161,v162,v163,v164,v165,v166,v167,v168,v169,v170,v171,v172,v173,v174,v175,v176],[]⟩ wx.drew):
  Code.wp Tryz.prog (rgnO 21) Q ⟨#[v0,v1,v2,.pointer (some ⟨h,0,none⟩),v4,v5,v6,v7,v8,v9,v10,.pointer (some ⟨sb,0,none⟩),v12,v13,v14,v15,.int .i64 4,v17,v18,v19,v20,v21,v22,v23,v24,v25,v26,v27,v28,v29,v30,v31,v32,v33,v34,v35,v36,v37,v38,v39,v40,v41,v42,v43,v44,v45,v46,v47,v48,v49,v50,v51,v52,v53,v54,v55,v56,v57,v58,v59,v60,v61,v62,v63,v64,v65,v66,v67,v68,v69,v70,v71,v72,v73,v74,v75,v76,v77,v78,v79,v80,v81,v82,v83,v84,v85,v86,v87,v88,v89,v90,v91,v92,v93,v94,v95,v96,v97,v98,v99,v100,v101,v102,v103,v104,v105,v106,v107,v108,v109,v110,v111,v112,v113,v114,v115,v116,v117,v118,v119,v120,v121,v122,v123,v124,v125,v126,v127,v128,v129,v130,v131,v132,v133,v134,v135,v136,v137,v138,v139,v140,v141,v142,v143,v144,v145,v146,v147,v148,v149,v150,v151,v152,v153,v154,v155,v156,v157,v158,v159,v160,v161,v162,v163,v164,v165,v166,v167,v168,v169,v170,v171,v172,v173,v174,v175,v176],[]⟩ wx:=by
 conv=>arg 2;whnf
 have HQ:=Lib.hid hq;have HPN:=Lib.hid hpn;clear hq hpn;have hTrue:True:=trivial;refine wp_region_held_drew (S:=fun _=>True) (by kernel_rfl) trivial (fun _=>?_);refine zkH 0 (v:=?_) (hQ:=by exact fun c0 _ w0 h0=>HPN.out c0 _ _ _ w0 h0) (h2:=?_) (h:=?_);rotate_left;focus (intro W hS;(try dsimp only at hS);go_simp;(try with_reducible rfl))
 try simp only[Act.put,zsA,zsS,zsZ]
 refine zkH 1 (v:=?_) (hQ:=by exact fun c0 _ w0 h0=>HPN.out c0 _ _ _ w0 h0) (h2:=?_) (h:=?_);rotate_left;focus (intro W hS;(try dsimp only at hS);go_simp;(try with_reducible rfl))
 try simp only[Act.put,zsA,zsS,zsZ]
 refine zkH 2 (v:=?_) (hQ:=by exact fun c0 _ w0 h0=>HPN.out c0 _ _ _ w0 h0) (h2:=?_) (h:=?_);rotate_left;focus (intro W hS;(try dsimp only at hS);go_simp;(try with_reducible rfl))
 try simp only[Act.put,zsA,zsS,zsZ]
 refine wpAnyH_take (i:=3) (oi:=?_) (v:=?_) ?_ (by kernel_rfl) (by kernel_rfl) (by kernel_rfl) ?_ (Or.inr ⟨?_,?_⟩) (by assumption) ?_;rotate_left 2;focus (simp only[zgT,zgS,zgZ];rfl)
 focus exact fun c0 _ w0 h0=>HPN.out c0 _ _ _ w0 h0
 focus rfl
 focus rfl
 try simp only[Act.put,zsA,zsS,zsZ]
 refine wpAnyH_take (i:=4) (oi:=?_) (v:=?_) ?_ (by kernel_rfl) (by kernel_rfl) (by kernel_rfl) ?_ (Or.inr ⟨?_,?_⟩) (by assumption) ?_;rotate_left 2;focus (simp only[zgT,zgS,zgZ];rfl)
 focus exact fun c0 _ w0 h0=>HPN.out c0 _ _ _ w0 h0
 focus rfl
 focus rfl
 try simp only[Act.put,zsA,zsS,zsZ]
 refine wpAnyH_take (i:=5) (oi:=?_) (v:=?_) ?_ (by kernel_rfl) (by kernel_rfl) (by kernel_rfl) ?_ (Or.inr ⟨?_,?_⟩) (by assumption) ?_;rotate_left 2;focus (simp only[zgT,zgS,zgZ];rfl)
 focus exact fun c0 _ w0 h0=>HPN.out c0 _ _ _ w0 h0
 focus rfl
 focus rfl
 try simp only[Act.put,zsA,zsS,zsZ]
 refine wpAnyH_take (i:=6) (oi:=?_) (v:=?_) ?_ (by kernel_rfl) (by kernel_rfl) (by kernel_rfl) ?_ (Or.inr ⟨?_,?_⟩) (by assumption) ?_;rotate_left 2;focus (simp only[zgT,zgS,zgZ];rfl)
 focus exact fun c0 _ w0 h0=>HPN.out c0 _ _ _ w0 h0
 focus rfl
 focus rfl
 try simp only[Act.put,zsA,zsS,zsZ]
 refine wpAnyH_take (i:=7) (oi:=?_) (v:=?_) ?_ (by kernel_rfl) (by kernel_rfl) (by kernel_rfl) ?_ (Or.inr ⟨?_,?_⟩) (by assumption) ?_;rotate_left 2;focus (simp only[zgT,zgS,zgZ];rfl)
 focus exact fun c0 _ w0 h0=>HPN.out c0 _ _ _ w0 h0
 focus rfl
 focus rfl
 try simp only[Act.put,zsA,zsS,zsZ]
 refine wpAnyH_take (i:=8) (oi:=?_) (v:=?_) ?_ (by kernel_rfl) (by kernel_rfl) (by kernel_rfl) ?_ (Or.inr ⟨?_,?_⟩) (by assumption) ?_;rotate_left 2;focus (simp only[zgT,zgS,zgZ];rfl)
 focus exact fun c0 _ w0 h0=>HPN.out c0 _ _ _ w0 h0
 focus rfl
 focus rfl
 try simp only[Act.put,zsA,zsS,zsZ]
 refine wpAnyH_take (i:=9) (oi:=?_) (v:=?_) ?_ (by kernel_rfl) (by kernel_rfl) (by kernel_rfl) ?_ (Or.inr ⟨?_,?_⟩) (by assumption) ?_;rotate_left 2;focus (simp only[zgT,zgS,zgZ];rfl)
 focus exact fun c0 _ w0 h0=>HPN.out c0 _ _ _ w0 h0
 focus rfl
 focus rfl
 try simp only[Act.put,zsA,zsS,zsZ]
 refine wpAnyH_take (i:=10) (oi:=?_) (v:=?_) ?_ (by kernel_rfl) (by kernel_rfl) (by kernel_rfl) ?_ (Or.inr ⟨?_,?_⟩) (by assumption) ?_;rotate_left 2;focus (simp only[zgT,zgS,zgZ];rfl)
 focus exact fun c0 _ w0 h0=>HPN.out c0 _ _ _ w0 h0
 focus rfl
 focus rfl
 try simp only[Act.put,zsA,zsS,zsZ]
 refine wpAnyH_take (i:=11) (oi:=?_) (v:=?_) ?_ (by kernel_rfl) (by kernel_rfl) (by kernel_rfl) ?_ (Or.inr ⟨?_,?_⟩) (by assumption) ?_;rotate_left 2;focus (simp only[zgT,zgS,zgZ];rfl)
 focus exact fun c0 _ w0 h0=>HPN.out c0 _ _ _ w0 h0
 focus rfl
 focus rfl
 try simp only[Act.put,zsA,zsS,zsZ]
 refine wpAnyH_take (i:=12) (oi:=?_) (v:=?_) ?_ (by kernel_rfl) (by kernel_rfl) (by kernel_rfl) ?_ (Or.inr ⟨?_,?_⟩) (by assumption) ?_;rotate_left 2;focus (simp only[zgT,zgS,zgZ];rfl)
 focus exact fun c0 _ w0 h0=>HPN.out c0 _ _ _ w0 h0
 focus rfl
 focus rfl
 try simp only[Act.put,zsA,zsS,zsZ]
 refine zkH 13 (v:=?_) (hQ:=by exact fun c0 _ w0 h0=>HPN.out c0 _ _ _ w0 h0) (h2:=?_) (h:=?_);rotate_left;focus (intro W hS;(try dsimp only at hS);go_simp;(try with_reducible rfl))
 try simp only[Act.put,zsA,zsS,zsZ]
 refine wpAnyH_done (by kernel_rfl) ?_ _;exact HQ.out _ _ _ _ _ _ _ _ _ _ _ _ _
set_option maxRecDepth 1000000 in
set_option maxHeartbeats 16000000 in
theorem may_wp (v0 v1 v2 v4 v5 v6 v7 v8 v9 v10 v12 v13 v14 v15 v17 v19 v20 v21 v22 v23 v24 v25 v26 v27 v28 v29 v30 v31 v32 v33 v34 v35 v36 v37 v38 v39 v40 v41 v42 v43 v44 v45 v46 v47 v48 v49 v50 v51 v52 v53 v54 v55 v56 v57 v58 v59 v60 v61 v62 v63 v64 v65 v66 v67 v68 v69 v70 v71 v72 v73 v74 v75 v76 v77 v78 v79 v80 v81 v82 v83 v84 v85 v86 v87 v88 v89 v90 v91 v92 v93 v94 v95 v96 v97 v98 v99 v100 v101 v102 v103 v104 v105 v106 v107 v108 v109 v110 v111 v112 v113 v114 v115 v116 v117 v118 v119 v120 v121 v122 v123 v124 v125 v126 v127 v128 v129 v130 v131 v132 v133 v134 v135 v136 v137 v138 v139 v140 v141 v142 v143 v144 v145 v146 v147 v148 v149 v150 v151 v152 v153 v154 v155 v156 v157 v158 v159 v160 v161 v162 v163 v164 v165 v166 v167 v168 v169 v170 v171 v172 v173 v174 v175 v176:Value) {Q:Exit→Act→World→Prop} {wx:World} {h g sb:Nat} {L:List SV} {sa:Option Addr} {sl sc kk:Nat}
  (k:LogR wx h g L) (hLr:(recsOf L).length≤200000) (hL:L.length≤1000) (hc:wx.cell? ⟨sb,1,none⟩=some (.slice sa sl sc)) (hsl:sl≤200000)
  (hpn: ∀c0 t0 t1 d w0,Q (.panic c0) ⟨t0,d⟩ w0→Q (.panic c0) ⟨t1,d⟩ w0)
  (hq: ∀(y101 y102 y103 y104 y105 y106 y107 y108 y109 y110 y111 y112 y113:Value) (wz:World),Below wx.heap.size wx wz→Q .normal ⟨#[v0,v1,v2,.pointer (some ⟨h,0,none⟩),v4,v5,v6,v7,v8,v9,v10,.pointer (some ⟨sb,0,none⟩),v12,v13,v14,v15,.int .i64 0,v17,.int .i64 (kk:Int),v19,v20,v21,v22,v23,v24,v25,v26,v27,v28,v29,v30,v31,v32,v33,v34,v35,v36,v37,v38,v39,v40,v41,v42,v43,v44,v45,v46,v47,v48,v49,v50,v51,v52,v53,v54,v55,v56,v57,v58,v59,v60,v61,v62,v63,v64,v65,v66,v67,v68,v69,v70,v71,v72,v73,v74,v75,v76,v77,v78,v79,v80,v81,v82,v83,v84,v85,v86,v87,v88,v89,v90,v91,v92,v93,v94,v95,v96,v97,v98,v99,v100,y101,y102,y103,y104,y105,y106,y107,y108,y109,y110,y111,y112,y113,.bool ((kk:Int) != ((recsOf L).length:Int)+(sl:Int)+1),v115,v116,v117,v118,v119,v120,v121,v122,v123,v124,v125,v126,v127,v128,v129,v130,v131,v132,v133,v134,v135,v136,v137,v138,v139,v140,v141,v142,v143,v144,v145,v146,v147,v148,v149,v150,v151,v152,v153,v154,v155,v156,v157,v158,v159,v160,v161,v162,v163,v164,v165,v166,v167,v168,v169,v170,v171,v172,v173,v174,v175,v176],[]⟩ wz):
  Code.wp Tryz.prog (rgnO 21) Q ⟨#[v0,v1,v2,.pointer (some ⟨h,0,none⟩),v4,v5,v6,v7,v8,v9,v10,.pointer (some ⟨sb,0,none⟩),v12,v13,v14,v15,.int .i64 0,v17,.int .i64 (kk:Int),v19,v20,v21,v22,v23,v24,v25,v26,v27,v28,v29,v30,v31,v32,v33,v34,v35,v36,v37,v38,v39,v40,v41,v42,v43,v44,v45,v46,v47,v48,v49,v50,v51,v52,v53,v54,v55,v56,v57,v58,v59,v60,v61,v62,v63,v64,v65,v66,v67,v68,v69,v70,v71,v72,v73,v74,v75,v76,v77,v78,v79,v80,v81,v82,v83,v84,v85,v86,v87,v88,v89,v90,v91,v92,v93,v94,v95,v96,v97,v98,v99,v100,v101,v102,v103,v104,v105,v106,v107,v108,v109,v110,v111,v112,v113,v114,v115,v116,v117,v118,v119,v120,v121,v122,v123,v124,v125,v126,v127,v128,v129,v130,v131,v132,v133,v134,v135,v136,v137,v138,v139,v140,v141,v142,v143,v144,v145,v146,v147,v148,v149,v150,v151,v152,v153,v154,v155,v156,v157,v158,v159,v160,v161,v162,v163,v164,v165,v166,v167,v168,v169,v170,v171,v172,v173,v174,v175,v176],[]⟩ wx:=by
 conv=>arg 2;whnf
 have HQ:=Lib.hid hq;have HPN:=Lib.hid hpn;obtain⟨u,hu⟩: ∃u,u=wx.drew:=⟨_,rfl⟩;have HBu:=Lib.hid (show Below wx.heap.size wx u by rw[hu];exact(Below.refl _ _).drew);have HCK:=Lib.hid (fun W (hW:Below u.heap.size u W)=>(stays' hW (stays' HBu.out hc):W.cell? ⟨sb,1,none⟩=some (.slice sa sl sc)));have HREC:=Lib.hid (records_any (k.below HBu.out) (by omega) (by omega));obtain⟨R,hR⟩: ∃x,x=(recsOf L).length:=⟨_,rfl⟩;rw[←hR] at HREC hLr HQ;have d1:(R:Int)≤200000:=by omega
 have d2:(sl:Int)≤200000:=by omega
 have d3:(0:Int)≤R:=by omega
 have d4:(0:Int)≤sl:=by omega
 clear hq hpn k hc hR hLr;refine wp_region_held_drew (S:=fun W=>W.cell? ⟨sb,1,none⟩=some (.slice sa sl sc)) (by kernel_rfl) (by rw[←hu];exact HCK.out _ (Below.refl _ _)) (fun hHeld=>?_);rw[←hu] at hHeld ⊢;clear hu;refine zkH 0 (v:=?_) (hQ:=by exact fun c0 _ w0 h0=>HPN.out c0 _ _ _ w0 h0) (h2:=?_) (h:=?_);rotate_left;focus (intro W hS;(try dsimp only at hS);have q1:=hS;go_simp;(try with_reducible rfl))
 try simp only[Act.put,zsA,zsS,zsZ]
 refine zkH 1 (v:=?_) (hQ:=by exact fun c0 _ w0 h0=>HPN.out c0 _ _ _ w0 h0) (h2:=?_) (h:=?_);rotate_left;focus (intro W hS;(try dsimp only at hS);have q1:=hS;go_simp;(try with_reducible rfl))
 try simp only[Act.put,zsA,zsS,zsZ]
 refine zkH 2 (v:=?_) (hQ:=by exact fun c0 _ w0 h0=>HPN.out c0 _ _ _ w0 h0) (h2:=?_) (h:=?_);rotate_left;focus (intro W hS;(try dsimp only at hS);have q1:=hS;go_simp;(try with_reducible rfl))
 try simp only[Act.put,zsA,zsS,zsZ]
 refine zkH 3 (v:=?_) (hQ:=by exact fun c0 _ w0 h0=>HPN.out c0 _ _ _ w0 h0) (h2:=?_) (h:=?_);rotate_left;focus (intro W hS;(try dsimp only at hS);have q1:=hS;go_simp;(try with_reducible rfl))
 try simp only[Act.put,zsA,zsS,zsZ]
 refine zkH 4 (v:=?_) (hQ:=by exact fun c0 _ w0 h0=>HPN.out c0 _ _ _ w0 h0) (h2:=?_) (h:=?_);rotate_left;focus (intro W hS;(try dsimp only at hS);have q1:=hS;go_simp;(try with_reducible rfl))
 try simp only[Act.put,zsA,zsS,zsZ]
 refine zkH 7 (v:=?_) (hQ:=by exact fun c0 _ w0 h0=>HPN.out c0 _ _ _ w0 h0) (h2:=?_) (h:=?_);rotate_left;focus (intro W hS;(try dsimp only at hS);have q1:=hS;go_simp;(try with_reducible rfl))
 try simp only[Act.put,zsA,zsS,zsZ]
 refine zkH 8 (v:=?_) (hQ:=by exact fun c0 _ w0 h0=>HPN.out c0 _ _ _ w0 h0) (h2:=?_) (h:=?_);rotate_left;focus (intro W hS;(try dsimp only at hS);have q1:=hS;go_simp;(try with_reducible rfl))
 try simp only[Act.put,zsA,zsS,zsZ]
 refine zkH 9 (v:=?_) (hQ:=by exact fun c0 _ w0 h0=>HPN.out c0 _ _ _ w0 h0) (h2:=?_) (h:=?_);rotate_left;focus (intro W hS;(try dsimp only at hS);have q1:=hS;go_simp;(try with_reducible rfl))
 try simp only[Act.put,zsA,zsS,zsZ]
 refine zrH 5 (h:=fun K hK=>?_);rw[if_pos (by rfl)];go_simp
 refine HREC.out.mono ?_;rintro e w5 ⟨ra,rc,rfl,-,hb⟩;have HELD:=Lib.hid (HCK.out _ hb);have HB5:=Lib.hid (HBu.out.trans (hb.mono HBu.out.size));clear hb;go_wp2_with fail
 refine hK.out _ _ HELD.out (fun hHeld=>?_);clear hK K;try simp only[Act.put,zsA,zsS,zsZ]
 refine zkH 6 (v:=?_) (hQ:=by exact fun c0 _ w0 h0=>HPN.out c0 _ _ _ w0 h0) (h2:=?_) (h:=?_);rotate_left;focus (intro W hS;(try dsimp only at hS);have q1:=hS;go_simp;(try with_reducible rfl))
 try simp only[Act.put,zsA,zsS,zsZ]
 refine zkH 10 (v:=?_) (hQ:=by exact fun c0 _ w0 h0=>HPN.out c0 _ _ _ w0 h0) (h2:=?_) (h:=?_);rotate_left;focus (intro W hS;(try dsimp only at hS);have q1:=hS;go_simp;(try with_reducible rfl))
 try simp only[Act.put,zsA,zsS,zsZ]
 refine zkH 11 (v:=?_) (hQ:=by exact fun c0 _ w0 h0=>HPN.out c0 _ _ _ w0 h0) (h2:=?_) (h:=?_);rotate_left;focus (intro W hS;(try dsimp only at hS);have q1:=hS;go_simp;(try with_reducible rfl))
 try simp only[Act.put,zsA,zsS,zsZ]
 refine zkH 12 (v:=?_) (hQ:=by exact fun c0 _ w0 h0=>HPN.out c0 _ _ _ w0 h0) (h2:=?_) (h:=?_);rotate_left;focus (intro W hS;(try dsimp only at hS);have q1:=hS;go_simp;(try with_reducible rfl))
 try simp only[Act.put,zsA,zsS,zsZ]
 refine zkH 13 (v:=?_) (hQ:=by exact fun c0 _ w0 h0=>HPN.out c0 _ _ _ w0 h0) (h2:=?_) (h:=?_);rotate_left;focus (intro W hS;(try dsimp only at hS);have q1:=hS;go_simp;(try with_reducible rfl))
 try simp only[Act.put,zsA,zsS,zsZ]
 refine wpAnyH_done (by kernel_rfl) ?_ _;rw[show IntKind.i64.wrap ((R:Int)+(sl:Int))=(R:Int)+(sl:Int) by rw[IntKind.wrap_i64];omega,show IntKind.i64.wrap ((R:Int)+(sl:Int)+1)=(R:Int)+(sl:Int)+1 by rw[IntKind.wrap_i64];omega];exact HQ.out _ _ _ _ _ _ _ _ _ _ _ _ _ w5 HB5.out
end Rl
end Go.Proofs.YtalfbcbnljhldaaGreatDoor
