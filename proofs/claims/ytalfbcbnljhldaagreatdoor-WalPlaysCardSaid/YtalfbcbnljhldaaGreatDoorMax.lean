/-  -/
import Derived.Test.YtalfbcbnljhldaaGreatDoorMaw
import Derived.ArgAppend
import Derived.Test.YtalfbcbnljhldaaGreatDoorMae
namespace Go.Proofs.YtalfbcbnljhldaaGreatDoor
open Go.RowKit Go.Maps Dsk Rd Wl
namespace Rl
theorem info_seg:(Tryz.prog.info? 79).map (fun i=>(i.zero,i.size,i.bytes))=some (some (.agg #[.int .i64 0,.slice none 0 0]),2,32):=by kernel_rfl
section
variable {W W':World} {T:Nat→Prop} {h:Nat} {sv:Value} {L:List SV}
theorem RowT.of_owns {base:Nat} {v:Value} (ho:W'.ownsRow base 79 2 v L.length (segCells L)) (hh:h<base):RowT W' (fun k=>T k∨(base≤k∧k<W'.heap.size)) h v L:=by
 rcases ho.2 with⟨rfl,hl⟩ | ⟨g,cap,cur,rfl,hB,hg,hle,hcm,hcs,htake⟩
 ·exact .inl ⟨rfl,List.eq_nil_of_length_eq_zero hl⟩
 ·refine .inr ⟨g,0,cap,cur,rfl,.inr ⟨hB,lt_of_block hg⟩,by omega,hg,hle,hcm,by omega,fun j u hu=>?_⟩
  rw[Nat.zero_add,←Array.getElem?_toList];have:(cur.toList.take (L.length*2))[j]?=some u:=by rw[htake];exact hu
  rw[List.getElem?_take] at this;split at this
  ·exact this
  ·cases this
theorem RowT.mono {T':Nat→Prop} (t:RowT W T h sv L) (hT: ∀k,T k→T' k):RowT W T' h sv L:=by
 rcases t with t | ⟨q,o,c,cur,h1,h2,h3⟩
 ·exact .inl t
 ·exact .inr ⟨q,o,c,cur,h1,hT q h2,h3⟩
theorem grown_apart {vb:Option Nat} (hg:W.grownBy W' vb) (hv: ∀k,vb=some k→T k∧k≠h):Rd.Apart (fun k=>T k∧k≠h) W W':=⟨hg.os,hg.tape,hg.output,hg.size,fun k hk hn=>hg.block k hk fun e=>hn (hv k e.symm)⟩
theorem run_appS (t:RowT W T h sv L) (hl:L.length≤1000000) (hh:h<W.heap.size) {b s:Nat} (hlit:W.heap[b]?=some (.cells #[.int .i64 (s:Int),.slice none 0 0] 79 (0,0))):
  ∃v' W',(Builtin.append_ #[67,67] 67 #[sv,.slice (some ⟨b,0,none⟩) 1 1]).run Tryz.prog W= .ok v' W'∧RowT W' (fun k=>T k∨(W.heap.size≤k∧k<W'.heap.size)) h v' (L++ [⟨s,.slice none 0 0,[]⟩])∧Rd.Apart (fun k=>T k∧k≠h) W W':=by
 obtain⟨i,hi,hz0,hz1,hz2⟩:=info_parts info_seg;have hnews: ∀j u,(segCells [⟨s,.slice none 0 0,[]⟩])[j]?=some u→W.cell? ((⟨b,0,none⟩:Addr).add j)=some u:=fun j u hu=>by
  rw[addNone,Nat.zero_add,cell_of_row _ _ _ _ _ _ hlit];simpa [segCells] using hu
 have hone: ∀u∈segCells [⟨s,.slice none 0 0,[]⟩],u.oneCell'=true:=fun u hu=>by
  simp only[segCells,List.mem_cons,List.not_mem_nil,or_false] at hu;rcases hu with rfl | rfl<;>rfl
 rcases t with⟨rfl,rfl⟩ | ⟨q,o,c,cur,rfl,h2,h3,h4,h5,h6,h7,h8⟩
 ·obtain⟨v',W',hrun,hown,hg,-,-⟩:=run_append_own_at (P:=Tryz.prog) W W.heap.size 67 67 79 i _ 2 32 Tryz.underlying67 hi hz0 hz1 hz2 rfl (by decide) (.slice none 0 0) 0 [] (World.ownsRow_nil _ _ _ _) ⟨b,0,none⟩ 1 1 (segCells [⟨s,.slice none 0 0,[]⟩]) rfl hnews hone (by unfold maxLen;omega) (by omega) (Nat.le_refl _)
  refine⟨v',W',hrun,?_,grown_apart hg fun k e=>by cases e⟩;exact RowT.of_owns hown hh
 ·by_cases hroom:L.length+1≤c
  ·have hr:=run_append_room_cells (P:=Tryz.prog) W 67 67 79 i Tryz.underlying67 hi q o L.length c ⟨b,0,none⟩ 1 1 (segCells [⟨s,.slice none 0 0,[]⟩]) (by rw[hz1];rfl) hnews hone hroom (fun j hj=>by
    have hj2:j<2:=by simpa [segCells] using hj
    rw[hz1,cell_of_row _ _ _ _ _ _ h4];simp;omega) (fun j hj=>by simp [World.frozen?,h4])
   rw[hz1] at hr;refine⟨_,_,hr,.inr ⟨q,o,c,(cur.setIfInBounds (o+L.length*2) (.int .i64 (s:Int))).setIfInBounds (o+L.length*2+1) (.slice none 0 0),by simp,.inl h2,h3,?_,by simpa using hroom,h6,by simpa using h7,fun j u hu=>?_⟩,⟨rfl,rfl,rfl,by simp [segCells,World.setCells,World.setCell],fun k hk hn=>?_⟩⟩
   ·exact cells_set (cells_set h4 _ _) _ _
   ·rw[segCells_append] at hu
    have hlen:=segCells_len L;rw[Array.getElem?_setIfInBounds,Array.getElem?_setIfInBounds];by_cases hj:j<(segCells L).length
    ·rw[List.getElem?_append_left hj] at hu
     rw[if_neg (by omega),if_neg (by omega)];exact h8 j u hu
    ·rw[List.getElem?_append_right (by omega)] at hu
     have hj2:j - (segCells L).length=0∨j - (segCells L).length=1:=by
      have:=(List.getElem?_eq_some_iff.1 hu).1;simp [segCells] at this;omega
     rcases hj2 with e | e
     ·rw[e] at hu
      have hj3:o+j=o+L.length*2:=by omega
      rw[hj3,if_neg (by omega),if_pos rfl,if_pos (by omega)];simpa [segCells] using hu
     ·rw[e] at hu
      have hj3:o+j=o+L.length*2+1:=by omega
      rw[hj3,if_pos rfl,if_pos (by simp;omega)];simpa [segCells] using hu
   ·have hne:k≠q:=fun e=>hn (by rw[e];exact⟨h2,h3⟩)
    show(((W.setCell ⟨q,o+L.length*2,none⟩ (.int .i64 (s:Int))).setCell ⟨q,o+L.length*2+1,none⟩ (.slice none 0 0)).heap[k]?)=_;rw[Below.heap_setCell _ _ _ _ hne,Below.heap_setCell _ _ _ _ hne]
  ·obtain⟨v',W',hrun,hown,hg⟩:=run_append_arg_grows (P:=Tryz.prog) W 67 67 79 i _ 2 32 Tryz.underlying67 hi hz0 hz1 hz2 rfl (by decide) ⟨q,o,none⟩ L.length c (segCells L) (segCells_len L) (fun j u hu=>by
    rw[addNone,cell_of_row _ _ _ _ _ _ h4];exact h8 j u hu) ⟨b,0,none⟩ 1 1 (segCells [⟨s,.slice none 0 0,[]⟩]) rfl hnews (by omega) (by unfold maxLen;omega) (by omega)
   refine⟨v',W',hrun,?_,grown_apart hg fun k e=>by cases e⟩;rw[←segCells_append] at hown;exact RowT.of_owns (L:=L++ [⟨s,.slice none 0 0,[]⟩]) (by rw[List.length_append];exact hown) hh
end
end Rl
end Go.Proofs.YtalfbcbnljhldaaGreatDoor

namespace Go.Proofs.YtalfbcbnljhldaaGreatDoor
open Go.RowKit Go.Maps Dsk Rd Wl
namespace Rl
section
variable {w W:World} {T K:Nat→Prop} {h g:Nat} {L:List SV}
theorem LogT.add {W':World} (t:LogT w T K h g L) (hKT: ∀k,K k→ ¬T k) (hKw: ∀k,K k→k<w.heap.size) {sv v':Value} (hsv:w.heap[h]?=some (.cells #[.pointer (some ⟨g,0,none⟩),sv] 69 (0,0))) {s:Nat}
  (hb:Below w.heap.size w W) (hr:RowT W' (fun k=>T k∨(W.heap.size≤k∧k<W'.heap.size)) h v' (L++ [⟨s,.slice none 0 0,[]⟩])) (ha:Rd.Apart (fun k=>T k∧k≠h) W W'):
  LogT (W'.setCell ⟨h,1,none⟩ v') (fun k=>T k∨(w.heap.size≤k∧k<W'.heap.size)) K h g (L++ [⟨s,.slice none 0 0,[]⟩])∧Rd.Apart T w (W'.setCell ⟨h,1,none⟩ v'):=by
 have hh:h<w.heap.size:=lt_of_block hsv;have hhW:W'.heap[h]?=some (.cells #[.pointer (some ⟨g,0,none⟩),sv] 69 (0,0)):=(ha.block h (Nat.lt_of_lt_of_le hh hb.size) fun e=>e.2 rfl).trans ((hb.block h hh).trans hsv);have blk: ∀k,k<w.heap.size→ ¬T k→(W'.setCell ⟨h,1,none⟩ v').heap[k]?=w.heap[k]?:=fun k hk hn=>by
  have hkh:k≠h:=fun e=>hn (by rw[e];exact t.th);rw[Below.heap_setCell _ _ _ _ hkh,ha.block k (Nat.lt_of_lt_of_le hk hb.size) fun e=>hn e.1,hb.block k hk]
 have hz:(W'.setCell ⟨h,1,none⟩ v').heap.size=W'.heap.size:=by simp [World.setCell]
 have hzz:w.heap.size≤W'.heap.size:=Nat.le_trans hb.size ha.size;refine⟨⟨.inl t.th,⟨v',cells_set1 hhW,?_⟩,fun x hx=>?_⟩,⟨?_,?_,?_,by omega,blk⟩⟩
 ·refine(hr.mono (T':=fun k=>T k∨(w.heap.size≤k∧k<W'.heap.size)) fun k hk=>?_).keep fun k _ hne=>Below.heap_setCell _ _ _ _ hne
  rcases hk with hk | ⟨h1,h2⟩
  ·exact .inl hk
  ·exact .inr ⟨Nat.le_trans hb.size h1,h2⟩
 ·rcases List.mem_append.1 hx with hx | hx
  ·exact(t.segs x hx).keep (by omega) fun k hk=>blk k (hKw k hk) (hKT k hk)
  ·simp at hx
   subst hx;exact⟨none,0,rfl,⟨0,0,fun e=>absurd rfl e,fun j u hu=>by simp [pcells] at hu⟩,fun _=>⟨rfl,rfl⟩,(fun p hp=>by cases hp),fun p hp=>by cases hp⟩
 ·show W'.os=w.os
  rw[ha.os,hb.os]
 ·show W'.tape=w.tape
  rw[ha.tape,hb.tape]
 ·show W'.output=w.output
  rw[ha.output,hb.output]
set_option maxHeartbeats 4000000 in
theorem LogT.push {s:SV} {p:EV} {v':Value} {q o n c:Nat} (t:LogT w T K h g (L++ [s])) (hKT: ∀k,K k→ ¬T k) (hKw: ∀k,K k→k<w.heap.size) (hTw: ∀k,T k→k<w.heap.size)
  (hsv:w.heap[h]?=some (.cells #[.pointer (some ⟨g,0,none⟩),.slice (some ⟨q,o,none⟩) n c] 69 (0,0)))
  (hb:Below w.heap.size w W) (hr:RowP W w.heap.size v' (s.l++ [p])) (hp:BodyK w K p) (hf:Fine [p]):
  LogT (W.setCell ⟨q,o+L.length*2+1,none⟩ v') T (fun k=>K k∨(w.heap.size≤k∧k<W.heap.size)) h g (L++ [⟨s.n,v',s.l++ [p]⟩])∧Rd.Apart T w (W.setCell ⟨q,o+L.length*2+1,none⟩ v'):=by
 obtain⟨sv,h1,h2⟩:=t.wal;rw[hsv] at h1;have e1:sv= .slice (some ⟨q,o,none⟩) n c:=by
  have h3:=Option.some.inj h1;injection h3 with h4
  have h5:=congrArg (fun x:Array Value=>x[1]?) h4;simpa using h5.symm
 subst e1;rcases h2 with⟨e,_⟩ | ⟨q',o',c',cur,e,k2,k3,k4,k5,k6,k7,k8⟩
 ·cases e
 ·cases e
  have hq:q<w.heap.size:=hTw q k2;have hW:=(hb.block q hq).trans k4;have hz:(W.setCell ⟨q,o+L.length*2+1,none⟩ v').heap.size=W.heap.size:=by simp [World.setCell]
  have blk: ∀k,k<W.heap.size→k≠q→(W.setCell ⟨q,o+L.length*2+1,none⟩ v').heap[k]?=W.heap[k]?:=fun k _ hn=>Below.heap_setCell _ _ _ _ hn;have blk2: ∀k,k<w.heap.size→k≠q→(W.setCell ⟨q,o+L.length*2+1,none⟩ v').heap[k]?=w.heap[k]?:=fun k hk hn=>(blk k (Nat.lt_of_lt_of_le hk hb.size) hn).trans (hb.block k hk);have hlen:(L++ [s]).length=L.length+1:=by simp
  have hbz:=hb.size;refine⟨⟨t.th,⟨_,(blk2 h (lt_of_block hsv) (Ne.symm k3)).trans hsv,.inr ⟨q,o,c,cur.setIfInBounds (o+L.length*2+1) v',by simp,k2,k3,cells_set hW _ _,by simpa using k5,k6,by simpa using k7,fun j u hu=>?_⟩⟩,fun x hx=>?_⟩,⟨?_,?_,?_,by omega,fun k hk hn=>blk2 k hk fun e=>hn (e ▸ k2)⟩⟩
  ·rw[segCells_append] at hu
   have hsl:=segCells_len L;rw[Array.getElem?_setIfInBounds];by_cases hj:j<(segCells L).length
   ·rw[List.getElem?_append_left hj] at hu
    rw[if_neg (by omega)];exact k8 j u (by rw[segCells_append,List.getElem?_append_left hj];exact hu)
   ·rw[List.getElem?_append_right (by omega)] at hu
    have hj2:j - (segCells L).length=0∨j - (segCells L).length=1:=by
     have:=(List.getElem?_eq_some_iff.1 hu).1;simp [segCells] at this;omega
    rcases hj2 with e | e
    ·rw[e] at hu
     rw[if_neg (by omega)];refine k8 j u ?_;rw[segCells_append,List.getElem?_append_right (by omega),e];simpa [segCells] using hu
    ·rw[e] at hu
     have hj3:o+L.length*2+1=o+j:=by omega
     rw[hj3,if_pos rfl,if_pos (by rw[hlen] at k5;omega)];simpa [segCells] using hu
  ·rcases List.mem_append.1 hx with hx | hx
   ·exact((t.segs x (by simp [hx])).keep (w':=W.setCell ⟨q,o+L.length*2+1,none⟩ v') (by omega) fun k hk=>blk2 k (hKw k hk) fun e=>hKT k hk (e ▸ k2)).mono fun k hk=> .inl hk
   ·simp at hx
    subst hx;obtain⟨a,c2,e,-⟩:=slice_shape hr;subst e;have hrow: ∀k,Value.ownBlock (.slice a (s.l++ [p]).length c2)=some k→w.heap.size≤k∧k<W.heap.size:=fun k e=>World.ownsRow.lt hr k e;have hr2:RowP (W.setCell ⟨q,o+L.length*2+1,none⟩ (.slice a (s.l++ [p]).length c2)) w.heap.size (.slice a (s.l++ [p]).length c2) (s.l++ [p]):=ownsRow_keep hr fun k e=>blk k (hrow k e).2 (by have:=(hrow k e).1;omega);obtain⟨g2,o2,r1,r2⟩:=(RowP.reads hr2).1;obtain⟨a9,c9,e9,hcc⟩:=ownsRow_cell hr2;cases e9;refine⟨a,c2,rfl,⟨g2,o2,r1,fun j u hu=>⟨?_,r2 j u hu⟩⟩,(RowP.reads hr2).2.2,?_,fun p' hp'=>?_⟩
    ·have ha:=r1 (by simp)
     subst ha;exact .inr (hrow g2 rfl)
    ·obtain⟨_,_,_,_,_,hf0,_⟩:=t.segs s (by simp)
     exact hf0.append hf
    ·rcases List.mem_append.1 hp' with hp' | hp'
     ·obtain⟨_,_,_,_,_,_,hb0⟩:=t.segs s (by simp)
      obtain⟨ba,bc,b1,b2,b3,b4⟩:=(hb0 p' hp').keep (w':=W.setCell ⟨q,o+L.length*2+1,none⟩ (.slice a (s.l++ [p]).length c2)) (by omega) fun k hk=>blk2 k (hKw k hk) fun e=>hKT k hk (e ▸ k2);exact⟨ba,bc,b1,b2,b3,fun x e hn=> .inl (b4 x e hn)⟩
     ·have e0:p'=p:=by simpa using hp'
      rw[e0];obtain⟨ba,bc,b1,b2,b3,b4⟩:=hp.keep (w':=W.setCell ⟨q,o+L.length*2+1,none⟩ (.slice a (s.l++ [p]).length c2)) (by omega) fun k hk=>blk2 k (hKw k hk) fun e=>hKT k hk (e ▸ k2);exact⟨ba,bc,b1,b2,b3,fun x e hn=> .inl (b4 x e hn)⟩
  ·show W.os=w.os
   exact hb.os
  ·show W.tape=w.tape
   exact hb.tape
  ·show W.output=w.output
   exact hb.output
end
end Rl
end Go.Proofs.YtalfbcbnljhldaaGreatDoor

set_option linter.unusedSimpArgs false
namespace Go.Proofs.YtalfbcbnljhldaaGreatDoor
open Go.Lib (hid)
open Go.RowKit Go.Maps Dsk Rd Wl
namespace Rl
theorem more_sub {S:Nat→Prop} {a b c:World} (h:Below a.heap.size a b): ∀k,Rd.More S b c k→Rd.More S a c k:=fun k hk=>by
 rcases hk with h1 | ⟨h1,h2⟩
 ·exact .inl h1
 ·exact .inr ⟨Nat.le_trans h.size h1,h2⟩
set_option maxRecDepth 1000000 in
set_option maxHeartbeats 16000000 in
theorem sync_wp (v1 v2 v3 v4 v5 v6 v7 v8 v9 v10 v11 v12 v13 v15 v16 v17 v18 v19 v20 v21 v22 v23 v24 v25 v26 v27 v28 v29 v30 v31 v32 v33 v34 v35 v36 v37 v38 v39 v40 v41 v42 v43 v44 v45 v46 v47 v48 v49 v50 v51 v52 v53 v54 v55 v56 v57 v58 v59 v60 v61 v62 v63 v64 v65 v66 v67 v68 v69 v70 v71 v72 v73 v74 v75 v76 v77 v78 v79 v80 v81 v82 v83 v84 v85 v86 v87 v88 v89 v90 v91 v92 v93 v94 v95 v96 v97 v98 v99 v100 v101 v102 v103 v104 v105 v106 v107 v108 v109 v110 v111 v112 v113 v114 v115 v116 v117 v118 v119 v120 v121 v122 v123 v124 v125 v126 v127 v128 v129 v130 v131 v132 v133 v134 v135 v136 v137 v138 v139 v140 v141 v142 v143 v144 v145 v146 v147 v148 v149 v150 v151 v152 v153 v154:Value) {Q:Exit→Act→World→Prop} {wx:World} {h g sn B n:Nat} {S:Nat→Prop} {M:Files}
  (hd:RM wx B S g n M) (ho:AllOk M) (hs:Slim M) (hn:n≤700000) (hc:wx.cell? ⟨h,0,none⟩=some (.pointer (some ⟨g,0,none⟩))) (hnS: ¬S h) (hnum:sn≤99999999) (hm:(M (nameOf sn)).isSome=true)
  (hpn: ∀c0 t0 t1 d w0,Q (.panic c0) ⟨t0,d⟩ w0→Q (.panic c0) ⟨t1,d⟩ w0)
  (hq: ∀(y96 y97 y98 y99 y100 y101 y102:Value) (wz:World) (S':Nat→Prop),Rd.Apart S wx wz→RM wz B S' g n (upd M (nameOf sn) (settled (M.at (nameOf sn)).now))→(∀k,S' k→Rd.More S wx wz k)→Q .normal ⟨#[.pointer (some ⟨h,0,none⟩),v1,v2,v3,v4,v5,v6,v7,v8,v9,v10,v11,v12,v13,.int .i64 (sn:Int),v15,v16,v17,v18,v19,v20,v21,v22,v23,v24,v25,v26,v27,v28,v29,v30,v31,v32,v33,v34,v35,v36,v37,v38,v39,v40,v41,v42,v43,v44,v45,v46,v47,v48,v49,v50,v51,v52,v53,v54,v55,v56,v57,v58,v59,v60,v61,v62,v63,v64,v65,v66,v67,v68,v69,v70,v71,v72,v73,v74,v75,v76,v77,v78,v79,v80,v81,v82,v83,v84,v85,v86,v87,v88,v89,v90,v91,v92,v93,v94,v95,y96,y97,y98,y99,y100,y101,y102,v103,v104,v105,v106,v107,v108,v109,v110,v111,v112,v113,v114,v115,v116,v117,v118,v119,v120,v121,v122,v123,v124,v125,v126,v127,v128,v129,v130,v131,v132,v133,v134,v135,v136,v137,v138,v139,v140,v141,v142,v143,v144,v145,v146,v147,v148,v149,v150,v151,v152,v153,v154],[]⟩ wz):
  Code.wp Tryz.prog (rgnA 21) Q ⟨#[.pointer (some ⟨h,0,none⟩),v1,v2,v3,v4,v5,v6,v7,v8,v9,v10,v11,v12,v13,.int .i64 (sn:Int),v15,v16,v17,v18,v19,v20,v21,v22,v23,v24,v25,v26,v27,v28,v29,v30,v31,v32,v33,v34,v35,v36,v37,v38,v39,v40,v41,v42,v43,v44,v45,v46,v47,v48,v49,v50,v51,v52,v53,v54,v55,v56,v57,v58,v59,v60,v61,v62,v63,v64,v65,v66,v67,v68,v69,v70,v71,v72,v73,v74,v75,v76,v77,v78,v79,v80,v81,v82,v83,v84,v85,v86,v87,v88,v89,v90,v91,v92,v93,v94,v95,v96,v97,v98,v99,v100,v101,v102,v103,v104,v105,v106,v107,v108,v109,v110,v111,v112,v113,v114,v115,v116,v117,v118,v119,v120,v121,v122,v123,v124,v125,v126,v127,v128,v129,v130,v131,v132,v133,v134,v135,v136,v137,v138,v139,v140,v141,v142,v143,v144,v145,v146,v147,v148,v149,v150,v151,v152,v153,v154],[]⟩ wx:=by
 conv=>arg 2;whnf
 have HQ:=hid hq;have HPN:=hid hpn;have HD:=hid hd;have HC:=hid hc;have HNS:=hid hnS;have HNUM:=hid hnum;have hn1:(sn:Int)≤99999999:=by omega
 have HHW:=hid (World.block_lt_of_cell? wx ⟨h,0,none⟩ hc);clear hq hpn hd hc hnS hnum;have HDR:=hid (show Below wx.heap.size wx wx.drew from(Below.refl _ _).drew);obtain⟨u,hu⟩: ∃u,u=wx.drew:=⟨_,rfl⟩;rw[←hu] at HDR;refine wp_region_held_drew (S:=fun W=>W.cell? ⟨h,0,none⟩=some (.pointer (some ⟨g,0,none⟩))) (by kernel_rfl) (by rw[←hu];exact stays' HDR.out HC.out) (fun hHeld=>?_);rw[←hu] at hHeld ⊢;clear hu;have HCu:=hid hHeld;refine zkH 0 (v:=?_) (hQ:=by exact fun c0 _ w0 h0=>HPN.out c0 _ _ _ w0 h0) (h2:=?_) (h:=?_);rotate_left;focus (intro W hS;(try dsimp only at hS);have q1:=hS;go_simp;(try with_reducible rfl))
 try simp only[Act.put,zsA,zsS,zsZ]
 refine zkH 1 (v:=?_) (hQ:=by exact fun c0 _ w0 h0=>HPN.out c0 _ _ _ w0 h0) (h2:=?_) (h:=?_);rotate_left;focus (intro W hS;(try dsimp only at hS);have q1:=hS;go_simp;(try with_reducible rfl))
 try simp only[Act.put,zsA,zsS,zsZ]
 refine zkH 2 (v:=?_) (hQ:=by exact fun c0 _ w0 h0=>HPN.out c0 _ _ _ w0 h0) (h2:=?_) (h:=?_);rotate_left;focus (intro W hS;(try dsimp only at hS);have q1:=hS;go_simp;(try with_reducible rfl))
 try simp only[Act.put,zsA,zsS,zsZ]
 refine zkH 3 (v:=?_) (hQ:=by exact fun c0 _ w0 h0=>HPN.out c0 _ _ _ w0 h0) (h2:=?_) (h:=?_);rotate_left;focus (intro W hS;(try dsimp only at hS);have q1:=hS;go_simp;(try with_reducible rfl))
 try simp only[Act.put,zsA,zsS,zsZ]
 refine zkH 4 (v:=?_) (hQ:=by exact fun c0 _ w0 h0=>HPN.out c0 _ _ _ w0 h0) (h2:=?_) (h:=?_);rotate_left;focus (intro W hS;(try dsimp only at hS);have q1:=hS;go_simp;(try with_reducible rfl))
 try simp only[Act.put,zsA,zsS,zsZ]
 refine zrH 5 (h:=fun K hK=>?_);rw[if_pos (by rfl)];go_simp
 refine(name_any sn HNUM.out u).mono ?_;rintro e w5 ⟨rfl,rfl⟩;go_wp2_with fail
 refine hK.out _ _ HCu.out (fun hHeld=>?_);clear hK K;try simp only[Act.put,zsA,zsS,zsZ]
 refine zrH 6 (h:=fun K hK=>?_);rw[if_pos (by rfl)];go_simp
 refine(rm_sync (HD.out.below HDR.out) ho hs hn (nameOf sn) (by rw[name_len];decide) (by rw[name_len];decide) hm).mono ?_;rintro e w6 ⟨rfl,hap6,hrm6⟩;have HELD6:=hid ((World.cell?_of_block (w:=u) (a:=⟨h,0,none⟩) (hap6.block h (Nat.lt_of_lt_of_le HHW.out HDR.out.size) HNS.out)).trans HCu.out);have HAP6:=hid ((Rd.Apart.of_below HDR.out (S:=S)).trans hap6 fun _ _ h=>h);have HRM6:=hid hrm6;clear hap6 hrm6;go_wp2_with fail
 refine hK.out _ _ HELD6.out (fun hHeld=>?_);clear hK K;try simp only[Act.put,zsA,zsS,zsZ]
 refine wpAnyH_done (by kernel_rfl) ?_ _;exact HQ.out _ _ _ _ _ _ _ w6 _ HAP6.out HRM6.out (more_sub HDR.out)
set_option maxRecDepth 1000000 in
set_option maxHeartbeats 16000000 in
theorem app_wp (v1 v2 v3 v4 v5 v6 v7 v8 v9 v10 v12 v13 v15 v16 v17 v18 v19 v20 v21 v22 v23 v24 v25 v26 v27 v28 v29 v30 v31 v32 v33 v34 v35 v36 v37 v38 v39 v40 v41 v42 v43 v44 v45 v46 v47 v48 v49 v50 v51 v52 v53 v54 v55 v56 v57 v58 v59 v60 v61 v62 v63 v64 v65 v66 v67 v68 v69 v70 v71 v72 v73 v74 v75 v76 v77 v78 v79 v80 v81 v82 v83 v84 v85 v86 v87 v88 v89 v90 v91 v92 v93 v94 v95 v96 v97 v98 v99 v100 v101 v102 v103 v104 v105 v106 v107 v108 v109 v110 v111 v112 v113 v114 v115 v116 v117 v118 v119 v120 v121 v122 v123 v124 v125 v126 v127 v128 v129 v130 v131 v132 v133 v134 v135 v136 v137 v138 v139 v140 v141 v142 v143 v144 v145 v146 v147 v148 v149 v150 v151 v152 v153 v154:Value) {Q:Exit→Act→World→Prop} {wx:World} {h g sn B n:Nat} {S:Nat→Prop} {M:Files} {ba:Option Addr} {bc:Nat} {bs:List Int} {ks:List Name}
  (hd:RM wx B S g n M) (ho:AllOk M) (hs:Slim M) (hn:n≤700000) (hc:wx.cell? ⟨h,0,none⟩=some (.pointer (some ⟨g,0,none⟩))) (hnS: ¬S h) (hnum:sn≤99999999) (hrd:ReadsS wx S ba bs) (hnc:ba=none→bc=0) (hk:NamesOf M (fun f=>f.now.there) ks) (hfit:(if (M.at (nameOf sn)).now.there=true then(M.at (nameOf sn)).now.bs.length else 0)+bs.length≤1048576) (hroom:(M.at (nameOf sn)).now.there=true∨ks.length<64)
  (hpn: ∀c0 t0 t1 d w0,Q (.panic c0) ⟨t0,d⟩ w0→Q (.panic c0) ⟨t1,d⟩ w0)
  (hq: ∀(y107 y108 y109 y110 y111 y112 y113:Value) (wz:World) (S':Nat→Prop),Rd.Apart S wx wz→RM wz B S' g (n+1) (upd M (nameOf sn) (some (appF (M.at (nameOf sn)) bs)))→(∀k,S' k→Rd.More S wx wz k)→Q .normal ⟨#[.pointer (some ⟨h,0,none⟩),v1,v2,v3,v4,v5,v6,v7,v8,v9,v10,.slice ba bs.length bc,v12,v13,.int .i64 (sn:Int),v15,.int .i64 0,v17,v18,v19,v20,v21,v22,v23,v24,v25,v26,v27,v28,v29,v30,v31,v32,v33,v34,v35,v36,v37,v38,v39,v40,v41,v42,v43,v44,v45,v46,v47,v48,v49,v50,v51,v52,v53,v54,v55,v56,v57,v58,v59,v60,v61,v62,v63,v64,v65,v66,v67,v68,v69,v70,v71,v72,v73,v74,v75,v76,v77,v78,v79,v80,v81,v82,v83,v84,v85,v86,v87,v88,v89,v90,v91,v92,v93,v94,v95,v96,v97,v98,v99,v100,v101,v102,v103,v104,v105,v106,y107,y108,y109,y110,y111,y112,y113,.int .i64 0,v115,v116,v117,v118,v119,v120,v121,v122,v123,v124,v125,v126,v127,v128,v129,v130,v131,v132,v133,v134,v135,v136,v137,v138,v139,v140,v141,v142,v143,v144,v145,v146,v147,v148,v149,v150,v151,v152,v153,v154],[]⟩ wz):
  Code.wp Tryz.prog (rgnA 25) Q ⟨#[.pointer (some ⟨h,0,none⟩),v1,v2,v3,v4,v5,v6,v7,v8,v9,v10,.slice ba bs.length bc,v12,v13,.int .i64 (sn:Int),v15,v16,v17,v18,v19,v20,v21,v22,v23,v24,v25,v26,v27,v28,v29,v30,v31,v32,v33,v34,v35,v36,v37,v38,v39,v40,v41,v42,v43,v44,v45,v46,v47,v48,v49,v50,v51,v52,v53,v54,v55,v56,v57,v58,v59,v60,v61,v62,v63,v64,v65,v66,v67,v68,v69,v70,v71,v72,v73,v74,v75,v76,v77,v78,v79,v80,v81,v82,v83,v84,v85,v86,v87,v88,v89,v90,v91,v92,v93,v94,v95,v96,v97,v98,v99,v100,v101,v102,v103,v104,v105,v106,v107,v108,v109,v110,v111,v112,v113,v114,v115,v116,v117,v118,v119,v120,v121,v122,v123,v124,v125,v126,v127,v128,v129,v130,v131,v132,v133,v134,v135,v136,v137,v138,v139,v140,v141,v142,v143,v144,v145,v146,v147,v148,v149,v150,v151,v152,v153,v154],[]⟩ wx:=by
 conv=>arg 2;whnf
 have HQ:=hid hq;have HPN:=hid hpn;have HD:=hid hd;have HC:=hid hc;have HNS:=hid hnS;have HNUM:=hid hnum;have hn1:(sn:Int)≤99999999:=by omega
 have HHW:=hid (World.block_lt_of_cell? wx ⟨h,0,none⟩ hc);clear hq hpn hd hc hnS hnum;have HDR:=hid (show Below wx.heap.size wx wx.drew from(Below.refl _ _).drew);obtain⟨u,hu⟩: ∃u,u=wx.drew:=⟨_,rfl⟩;rw[←hu] at HDR;refine wp_region_held_drew (S:=fun W=>W.cell? ⟨h,0,none⟩=some (.pointer (some ⟨g,0,none⟩))) (by kernel_rfl) (by rw[←hu];exact stays' HDR.out HC.out) (fun hHeld=>?_);rw[←hu] at hHeld ⊢;clear hu;have HCu:=hid hHeld;refine zkH 0 (v:=?_) (hQ:=by exact fun c0 _ w0 h0=>HPN.out c0 _ _ _ w0 h0) (h2:=?_) (h:=?_);rotate_left;focus (intro W hS;(try dsimp only at hS);have q1:=hS;go_simp;(try with_reducible rfl))
 try simp only[Act.put,zsA,zsS,zsZ]
 refine zkH 1 (v:=?_) (hQ:=by exact fun c0 _ w0 h0=>HPN.out c0 _ _ _ w0 h0) (h2:=?_) (h:=?_);rotate_left;focus (intro W hS;(try dsimp only at hS);have q1:=hS;go_simp;(try with_reducible rfl))
 try simp only[Act.put,zsA,zsS,zsZ]
 refine zkH 2 (v:=?_) (hQ:=by exact fun c0 _ w0 h0=>HPN.out c0 _ _ _ w0 h0) (h2:=?_) (h:=?_);rotate_left;focus (intro W hS;(try dsimp only at hS);have q1:=hS;go_simp;(try with_reducible rfl))
 try simp only[Act.put,zsA,zsS,zsZ]
 refine zkH 3 (v:=?_) (hQ:=by exact fun c0 _ w0 h0=>HPN.out c0 _ _ _ w0 h0) (h2:=?_) (h:=?_);rotate_left;focus (intro W hS;(try dsimp only at hS);have q1:=hS;go_simp;(try with_reducible rfl))
 try simp only[Act.put,zsA,zsS,zsZ]
 refine zkH 4 (v:=?_) (hQ:=by exact fun c0 _ w0 h0=>HPN.out c0 _ _ _ w0 h0) (h2:=?_) (h:=?_);rotate_left;focus (intro W hS;(try dsimp only at hS);have q1:=hS;go_simp;(try with_reducible rfl))
 try simp only[Act.put,zsA,zsS,zsZ]
 refine zkH 6 (v:=?_) (hQ:=by exact fun c0 _ w0 h0=>HPN.out c0 _ _ _ w0 h0) (h2:=?_) (h:=?_);rotate_left;focus (intro W hS;(try dsimp only at hS);have q1:=hS;go_simp;(try with_reducible rfl))
 try simp only[Act.put,zsA,zsS,zsZ]
 refine zrH 5 (h:=fun K hK=>?_);rw[if_pos (by rfl)];go_simp
 refine(name_any sn HNUM.out u).mono ?_;rintro e w5 ⟨rfl,rfl⟩;go_wp2_with fail
 refine hK.out _ _ HCu.out (fun hHeld=>?_);clear hK K;try simp only[Act.put,zsA,zsS,zsZ]
 refine zrH 7 (h:=fun K hK=>?_);rw[if_pos (by rfl)];go_simp
 refine(rm_append (HD.out.below HDR.out) ho hs hn (nameOf sn) (by rw[name_len];decide) (by rw[name_len];decide) ba bc bs (hrd.ex (Ex.of_below HDR.out)) hnc hk hfit hroom).mono ?_;rintro e w6 ⟨rfl,hap6,hrm6⟩;have HELD6:=hid ((World.cell?_of_block (w:=u) (a:=⟨h,0,none⟩) (hap6.block h (Nat.lt_of_lt_of_le HHW.out HDR.out.size) HNS.out)).trans HCu.out);have HAP6:=hid ((Rd.Apart.of_below HDR.out (S:=S)).trans hap6 fun _ _ h=>h);have HRM6:=hid hrm6;clear hap6 hrm6;go_wp2_with fail
 refine hK.out _ _ HELD6.out (fun hHeld=>?_);clear hK K;try simp only[Act.put,zsA,zsS,zsZ]
 refine zkH 8 (v:=?_) (hQ:=by exact fun c0 _ w0 h0=>HPN.out c0 _ _ _ w0 h0) (h2:=?_) (h:=?_);rotate_left;focus (intro W hS;(try dsimp only at hS);have q1:=hS;go_simp;(try with_reducible rfl))
 try simp only[Act.put,zsA,zsS,zsZ]
 refine wpAnyH_done (by kernel_rfl) ?_ _;exact HQ.out _ _ _ _ _ _ _ w6 _ HAP6.out HRM6.out (more_sub HDR.out)
set_option maxRecDepth 1000000 in
set_option maxHeartbeats 16000000 in
theorem app_full_wp (v1 v2 v3 v4 v5 v6 v7 v8 v9 v10 v12 v13 v15 v16 v17 v18 v19 v20 v21 v22 v23 v24 v25 v26 v27 v28 v29 v30 v31 v32 v33 v34 v35 v36 v37 v38 v39 v40 v41 v42 v43 v44 v45 v46 v47 v48 v49 v50 v51 v52 v53 v54 v55 v56 v57 v58 v59 v60 v61 v62 v63 v64 v65 v66 v67 v68 v69 v70 v71 v72 v73 v74 v75 v76 v77 v78 v79 v80 v81 v82 v83 v84 v85 v86 v87 v88 v89 v90 v91 v92 v93 v94 v95 v96 v97 v98 v99 v100 v101 v102 v103 v104 v105 v106 v107 v108 v109 v110 v111 v112 v113 v114 v115 v116 v117 v118 v119 v120 v121 v122 v123 v124 v125 v126 v127 v128 v129 v130 v131 v132 v133 v134 v135 v136 v137 v138 v139 v140 v141 v142 v143 v144 v145 v146 v147 v148 v149 v150 v151 v152 v153 v154:Value) {Q:Exit→Act→World→Prop} {wx:World} {h g sn B n:Nat} {S:Nat→Prop} {M:Files} {ba:Option Addr} {bc:Nat} {bs:List Int} {ks:List Name}
  (hd:RM wx B S g n M) (ho:AllOk M) (hs:Slim M) (hn:n≤700000) (hc:wx.cell? ⟨h,0,none⟩=some (.pointer (some ⟨g,0,none⟩))) (hnS: ¬S h) (hnum:sn≤99999999) (hrd:ReadsS wx S ba bs) (hnc:ba=none→bc=0) (hk:NamesOf M (fun f=>f.now.there) ks) (hbl:bs.length≤1048576) (hno:(M.at (nameOf sn)).now.there=false) (hfull:64≤ks.length)
  (hpn: ∀c0 t0 t1 d w0,Q (.panic c0) ⟨t0,d⟩ w0→Q (.panic c0) ⟨t1,d⟩ w0)
  (hq: ∀(y107 y108 y109 y110 y111 y112 y113:Value) (wz:World),Below wx.heap.size wx wz→Q .normal ⟨#[.pointer (some ⟨h,0,none⟩),v1,v2,v3,v4,v5,v6,v7,v8,v9,v10,.slice ba bs.length bc,v12,v13,.int .i64 (sn:Int),v15,.int .i64 6,v17,v18,v19,v20,v21,v22,v23,v24,v25,v26,v27,v28,v29,v30,v31,v32,v33,v34,v35,v36,v37,v38,v39,v40,v41,v42,v43,v44,v45,v46,v47,v48,v49,v50,v51,v52,v53,v54,v55,v56,v57,v58,v59,v60,v61,v62,v63,v64,v65,v66,v67,v68,v69,v70,v71,v72,v73,v74,v75,v76,v77,v78,v79,v80,v81,v82,v83,v84,v85,v86,v87,v88,v89,v90,v91,v92,v93,v94,v95,v96,v97,v98,v99,v100,v101,v102,v103,v104,v105,v106,y107,y108,y109,y110,y111,y112,y113,.int .i64 6,v115,v116,v117,v118,v119,v120,v121,v122,v123,v124,v125,v126,v127,v128,v129,v130,v131,v132,v133,v134,v135,v136,v137,v138,v139,v140,v141,v142,v143,v144,v145,v146,v147,v148,v149,v150,v151,v152,v153,v154],[]⟩ wz):
  Code.wp Tryz.prog (rgnA 25) Q ⟨#[.pointer (some ⟨h,0,none⟩),v1,v2,v3,v4,v5,v6,v7,v8,v9,v10,.slice ba bs.length bc,v12,v13,.int .i64 (sn:Int),v15,v16,v17,v18,v19,v20,v21,v22,v23,v24,v25,v26,v27,v28,v29,v30,v31,v32,v33,v34,v35,v36,v37,v38,v39,v40,v41,v42,v43,v44,v45,v46,v47,v48,v49,v50,v51,v52,v53,v54,v55,v56,v57,v58,v59,v60,v61,v62,v63,v64,v65,v66,v67,v68,v69,v70,v71,v72,v73,v74,v75,v76,v77,v78,v79,v80,v81,v82,v83,v84,v85,v86,v87,v88,v89,v90,v91,v92,v93,v94,v95,v96,v97,v98,v99,v100,v101,v102,v103,v104,v105,v106,v107,v108,v109,v110,v111,v112,v113,v114,v115,v116,v117,v118,v119,v120,v121,v122,v123,v124,v125,v126,v127,v128,v129,v130,v131,v132,v133,v134,v135,v136,v137,v138,v139,v140,v141,v142,v143,v144,v145,v146,v147,v148,v149,v150,v151,v152,v153,v154],[]⟩ wx:=by
 conv=>arg 2;whnf
 have HQ:=hid hq;have HPN:=hid hpn;have HD:=hid hd;have HC:=hid hc;have HNS:=hid hnS;have HNUM:=hid hnum;have hn1:(sn:Int)≤99999999:=by omega
 have HHW:=hid (World.block_lt_of_cell? wx ⟨h,0,none⟩ hc);clear hq hpn hd hc hnS hnum;have HDR:=hid (show Below wx.heap.size wx wx.drew from(Below.refl _ _).drew);obtain⟨u,hu⟩: ∃u,u=wx.drew:=⟨_,rfl⟩;rw[←hu] at HDR;refine wp_region_held_drew (S:=fun W=>W.cell? ⟨h,0,none⟩=some (.pointer (some ⟨g,0,none⟩))) (by kernel_rfl) (by rw[←hu];exact stays' HDR.out HC.out) (fun hHeld=>?_);rw[←hu] at hHeld ⊢;clear hu;have HCu:=hid hHeld;refine zkH 0 (v:=?_) (hQ:=by exact fun c0 _ w0 h0=>HPN.out c0 _ _ _ w0 h0) (h2:=?_) (h:=?_);rotate_left;focus (intro W hS;(try dsimp only at hS);have q1:=hS;go_simp;(try with_reducible rfl))
 try simp only[Act.put,zsA,zsS,zsZ]
 refine zkH 1 (v:=?_) (hQ:=by exact fun c0 _ w0 h0=>HPN.out c0 _ _ _ w0 h0) (h2:=?_) (h:=?_);rotate_left;focus (intro W hS;(try dsimp only at hS);have q1:=hS;go_simp;(try with_reducible rfl))
 try simp only[Act.put,zsA,zsS,zsZ]
 refine zkH 2 (v:=?_) (hQ:=by exact fun c0 _ w0 h0=>HPN.out c0 _ _ _ w0 h0) (h2:=?_) (h:=?_);rotate_left;focus (intro W hS;(try dsimp only at hS);have q1:=hS;go_simp;(try with_reducible rfl))
 try simp only[Act.put,zsA,zsS,zsZ]
 refine zkH 3 (v:=?_) (hQ:=by exact fun c0 _ w0 h0=>HPN.out c0 _ _ _ w0 h0) (h2:=?_) (h:=?_);rotate_left;focus (intro W hS;(try dsimp only at hS);have q1:=hS;go_simp;(try with_reducible rfl))
 try simp only[Act.put,zsA,zsS,zsZ]
 refine zkH 4 (v:=?_) (hQ:=by exact fun c0 _ w0 h0=>HPN.out c0 _ _ _ w0 h0) (h2:=?_) (h:=?_);rotate_left;focus (intro W hS;(try dsimp only at hS);have q1:=hS;go_simp;(try with_reducible rfl))
 try simp only[Act.put,zsA,zsS,zsZ]
 refine zkH 6 (v:=?_) (hQ:=by exact fun c0 _ w0 h0=>HPN.out c0 _ _ _ w0 h0) (h2:=?_) (h:=?_);rotate_left;focus (intro W hS;(try dsimp only at hS);have q1:=hS;go_simp;(try with_reducible rfl))
 try simp only[Act.put,zsA,zsS,zsZ]
 refine zrH 5 (h:=fun K hK=>?_);rw[if_pos (by rfl)];go_simp
 refine(name_any sn HNUM.out u).mono ?_;rintro e w5 ⟨rfl,rfl⟩;go_wp2_with fail
 refine hK.out _ _ HCu.out (fun hHeld=>?_);clear hK K;try simp only[Act.put,zsA,zsS,zsZ]
 refine zrH 7 (h:=fun K hK=>?_);rw[if_pos (by rfl)];go_simp
 refine(rm_append_full (HD.out.below HDR.out) ho hs hn (nameOf sn) (by rw[name_len];decide) (by rw[name_len];decide) ba bc bs (hrd.ex (Ex.of_below HDR.out)) hnc hbl hk hno hfull).mono ?_;rintro e w6 ⟨rfl,hb6⟩;have HELD6:=hid (stays' hb6 HCu.out);have HB6:=hid (HDR.out.trans (hb6.mono HDR.out.size));clear hb6;go_wp2_with fail
 refine hK.out _ _ HELD6.out (fun hHeld=>?_);clear hK K;try simp only[Act.put,zsA,zsS,zsZ]
 refine zkH 8 (v:=?_) (hQ:=by exact fun c0 _ w0 h0=>HPN.out c0 _ _ _ w0 h0) (h2:=?_) (h:=?_);rotate_left;focus (intro W hS;(try dsimp only at hS);have q1:=hS;go_simp;(try with_reducible rfl))
 try simp only[Act.put,zsA,zsS,zsZ]
 refine wpAnyH_done (by kernel_rfl) ?_ _;exact HQ.out _ _ _ _ _ _ _ w6 HB6.out
end Rl
end Go.Proofs.YtalfbcbnljhldaaGreatDoor
