/-  -/
import Derived.Test.YtalfbcbnljhldaaGreatDoorMax
import Derived.Test.YtalfbcbnljhldaaGreatDoorMam
namespace Go.Proofs.YtalfbcbnljhldaaGreatDoor
open Go.RowKit Go.Maps Dsk Rd Wl
namespace Rl
set_option maxRecDepth 1000000 in
set_option maxHeartbeats 16000000 in
theorem seg_wp (v1 v2 v3 v4 v5 v6 v7 v8 v9 v10 v11 v12 v13 v15 v16 v17 v18 v19 v20 v21 v22 v23 v24 v25 v26 v27 v28 v29 v30 v31 v32 v33 v34 v35 v36 v37 v38 v39 v40 v41 v42 v43 v44 v45 v46 v47 v48 v49 v50 v51 v52 v53 v54 v55 v56 v57 v58 v59 v60 v61 v62 v63 v64 v65 v66 v67 v68 v69 v70 v71 v72 v73 v74 v75 v76 v77 v78 v79 v80 v81 v82 v83 v84 v85 v86 v87 v88 v89 v90 v91 v92 v93 v94 v95 v96 v97 v98 v99 v100 v101 v102 v103 v104 v105 v106 v107 v108 v109 v110 v111 v112 v113 v114 v115 v116 v117 v118 v119 v120 v121 v122 v123 v124 v125 v126 v127 v128 v129 v130 v131 v132 v133 v134 v135 v136 v137 v138 v139 v140 v141 v142 v143 v144 v145 v146 v147 v148 v149 v150 v151 v152 v153 v154:Value) {Q:Exit→Act→World→Prop} {wx:World} {h g sn:Nat} {T K:Nat→Prop} {L:List SV}
  (t:LogT wx T K h g L) (hl:L.length≤1000000) (hKT: ∀k,K k→ ¬T k) (hKw: ∀k,K k→k<wx.heap.size) (hTw: ∀k,T k→k<wx.heap.size)
  (hq: ∀(y119 y120 y121 y122 y123 y124 y125 y126 y127 y128 y129:Value) (wz:World) (T':Nat→Prop),LogT wz T' K h g (L++ [⟨sn,.slice none 0 0,[]⟩])→Rd.Apart T wx wz→(∀k,T' k→Rd.More T wx wz k)→Q .normal ⟨#[.pointer (some ⟨h,0,none⟩),v1,v2,v3,v4,v5,v6,v7,v8,v9,v10,v11,v12,v13,.int .i64 (sn:Int),v15,v16,v17,v18,v19,v20,v21,v22,v23,v24,v25,v26,v27,v28,v29,v30,v31,v32,v33,v34,v35,v36,v37,v38,v39,v40,v41,v42,v43,v44,v45,v46,v47,v48,v49,v50,v51,v52,v53,v54,v55,v56,v57,v58,v59,v60,v61,v62,v63,v64,v65,v66,v67,v68,v69,v70,v71,v72,v73,v74,v75,v76,v77,v78,v79,v80,v81,v82,v83,v84,v85,v86,v87,v88,v89,v90,v91,v92,v93,v94,v95,v96,v97,v98,v99,v100,v101,v102,v103,v104,v105,v106,v107,v108,v109,v110,v111,v112,v113,v114,v115,v116,v117,v118,y119,y120,y121,y122,y123,y124,y125,y126,y127,y128,y129,v130,v131,v132,v133,v134,v135,v136,v137,v138,v139,v140,v141,v142,v143,v144,v145,v146,v147,v148,v149,v150,v151,v152,v153,v154],[]⟩ wz):
  Code.wp Tryz.prog (rgnA 29) Q ⟨#[.pointer (some ⟨h,0,none⟩),v1,v2,v3,v4,v5,v6,v7,v8,v9,v10,v11,v12,v13,.int .i64 (sn:Int),v15,v16,v17,v18,v19,v20,v21,v22,v23,v24,v25,v26,v27,v28,v29,v30,v31,v32,v33,v34,v35,v36,v37,v38,v39,v40,v41,v42,v43,v44,v45,v46,v47,v48,v49,v50,v51,v52,v53,v54,v55,v56,v57,v58,v59,v60,v61,v62,v63,v64,v65,v66,v67,v68,v69,v70,v71,v72,v73,v74,v75,v76,v77,v78,v79,v80,v81,v82,v83,v84,v85,v86,v87,v88,v89,v90,v91,v92,v93,v94,v95,v96,v97,v98,v99,v100,v101,v102,v103,v104,v105,v106,v107,v108,v109,v110,v111,v112,v113,v114,v115,v116,v117,v118,v119,v120,v121,v122,v123,v124,v125,v126,v127,v128,v129,v130,v131,v132,v133,v134,v135,v136,v137,v138,v139,v140,v141,v142,v143,v144,v145,v146,v147,v148,v149,v150,v151,v152,v153,v154],[]⟩ wx:=by
 conv=>arg 2;whnf
 have HQ:=Lib.hid hq;have HT:=Lib.hid t;obtain⟨sv,hwal,hrow⟩:=t.wal;have hh:h<wx.heap.size:=lt_of_block hwal;obtain⟨b,hb⟩: ∃b,b=wx.heap.size:=⟨_,rfl⟩;obtain⟨W0,hW0⟩: ∃x,x=wx.alloc (.cells #[.int .i64 (sn:Int),.slice none 0 0] 79):=⟨_,rfl⟩;have hal:Below wx.heap.size wx W0:=by rw[hW0];exact(Below.refl _ _).alloc (Nat.le_refl _) _
 have hnew:W0.heap[b]?=some (.cells #[.int .i64 (sn:Int),.slice none 0 0] 79 (0,0)):=by rw[hW0,hb];exact heap_alloc_new _ _
 obtain⟨v',W',hrun,hr,ha⟩:=run_appS (hrow.keep (w':=W0) fun k hk _=>hal.block k (hTw k hk)) hl (Nat.lt_of_lt_of_le hh hal.size) hnew;obtain⟨hlog,hap⟩:=HT.out.add hKT hKw hwal hal hr ha;obtain⟨a,c,rfl,-,-⟩:=hrow.reads;obtain⟨a2,c2,rfl,-,-⟩:=hr.reads;have hbox:W'.heap[h]?=some (.cells #[.pointer (some ⟨g,0,none⟩),.slice a L.length c] 69 (0,0)):=(ha.block h (Nat.lt_of_lt_of_le hh hal.size) fun e=>e.2 rfl).trans ((hal.block h hh).trans hwal);have hfz:W'.frozen? ⟨h,1,none⟩=false:=frozen_row hbox;have hcz:W'.cell? ⟨h,1,none⟩=some (.slice a L.length c):=by rw[cell_of_row _ _ _ _ _ _ hbox];rfl
 have c1:wx.cell? ⟨h,1,none⟩=some (.slice a L.length c):=by rw[cell_of_row _ _ _ _ _ _ hwal];rfl
 have HLOG:=Lib.hid hlog;have HAP:=Lib.hid hap;have hz:W'.heap.size=(W'.setCell ⟨h,1,none⟩ (.slice a2 (L++ [(⟨sn,.slice none 0 0,[]⟩:SV)]).length c2)).heap.size:=by simp [World.setCell]
 have HZ:=Lib.hid hz;have HW0:=Lib.hid hW0;have HB:=Lib.hid hb;obtain⟨n1,hn1⟩: ∃x,x=(L++ [(⟨sn,.slice none 0 0,[]⟩:SV)]).length:=⟨_,rfl⟩;obtain⟨n0,hn0⟩: ∃x,x=L.length:=⟨_,rfl⟩;rw[←hn1] at hrun HLOG HAP HZ;rw[←hn0] at hrun c1 hcz;rw[hb,hW0] at hrun;clear hq t hwal hrow hal hnew hr ha hlog hap hbox hn1 hn0 hz hW0 hb hTw hKw hKT;go_wp2_with (at_builtin;go_loud (refine Lib.wpList_append_run _ rfl _ _ _ _ rfl _ _ rfl rfl _ _ hrun ?_))
 exact HQ.out _ _ _ _ _ _ _ _ _ _ _ _ _ HLOG.out HAP.out fun k hk=>by
  rcases hk with h1 | ⟨h1,h2⟩
  ·exact .inl h1
  ·exact .inr ⟨h1,by rw[←HZ.out];exact h2⟩
end Rl
end Go.Proofs.YtalfbcbnljhldaaGreatDoor

namespace Go.Proofs.YtalfbcbnljhldaaGreatDoor.Wl
open Dsk
abbrev Here1 (M:Files) (ks:List Name):Prop:=NamesOf M (fun f=>f.now.there) ks
theorem at_some {M:Files} {n:Name} (h:(M.at n).now.there=true): ∃f,M n=some f∧M.at n=f:=by
 unfold Files.at at h ⊢;cases hM:M n with
 | none=>rw[hM] at h;simp [Fil.zero,Fil.now,Ver.zero] at h
 | some f=>exact⟨f,rfl,rfl⟩
theorem at_of {M:Files} {n:Name} {f:Fil} (h:M n=some f):M.at n=f:=by simp [Files.at,h]
theorem at_none {M:Files} {n:Name} (h:M n=none):M.at n=Fil.zero:=by simp [Files.at,h]
theorem names_iff {M:Files} {ks:List Name} (h:Here1 M ks) (n:Name):n∈ks↔(M.at n).now.there=true:=by
 rw[h.2 n];constructor
 ·rintro⟨f,hf,ht⟩
  rw[at_of hf];exact ht
 ·intro ht
  obtain⟨f,hf,ha⟩:=at_some ht;exact⟨f,hf,by rw[←ha];exact ht⟩
theorem names_of {M:Files} {ks:List Name} (h1:ks.Pairwise (· < ·)) (h2: ∀n,n∈ks↔(M.at n).now.there=true):Here1 M ks:=by
 refine⟨h1,fun n=>?_⟩;rw[h2 n];constructor
 ·intro ht
  obtain⟨f,hf,ha⟩:=at_some ht;exact⟨f,hf,by rw[←ha];exact ht⟩
 ·rintro⟨f,hf,ht⟩
  rw[at_of hf];exact ht
theorem names_sub {M M':Files} {ks:List Name} (h:Here1 M ks) (hs: ∀n,(M'.at n).now.there=true→(M.at n).now.there=true): ∃ks',Here1 M' ks'∧ks'.length≤ks.length:=by
 refine⟨ks.filter fun n=>(M'.at n).now.there,names_of (h.1.filter _) fun n=>?_,List.length_filter_le _ _⟩;rw[List.mem_filter,names_iff h];exact⟨fun x=>x.2,fun x=>⟨hs n x,x⟩⟩
def insN (n:Name):List Name→List Name
 | []=> [n]
 | x::r=>if x<n then x::insN n r else n::x::r
theorem insN_mem (n m:Name): ∀l:List Name,m∈insN n l↔m=n∨m∈l
 | []=>by simp [insN]
 | x::r=>by
  unfold insN;split
  ·simp only[List.mem_cons,insN_mem n m r]
   constructor
   ·rintro(h | h | h)
    ·exact .inr (.inl h)
    ·exact .inl h
    ·exact .inr (.inr h)
   ·rintro(h | h | h)
    ·exact .inr (.inl h)
    ·exact .inl h
    ·exact .inr (.inr h)
  ·simp
theorem insN_len (n:Name): ∀l:List Name,(insN n l).length=l.length+1
 | []=>rfl
 | x::r=>by
  unfold insN;split
  ·simp [insN_len n r]
  ·simp
theorem insN_rise (n:Name): ∀ {l:List Name},l.Pairwise (· < ·)→n∉l→(insN n l).Pairwise (· < ·)
 | [],_,_=>by simp [insN]
 | x::r,h,hn=>by
  obtain⟨h1,h2⟩:=List.pairwise_cons.1 h;have hx:n≠x:=fun e=>hn (by simp [e]);have hr:n∉r:=fun e=>hn (by simp [e]);unfold insN;split
  ·rename_i hlt
   refine List.pairwise_cons.2 ⟨fun m hm=>?_,insN_rise n h2 hr⟩;rcases(insN_mem n m r).1 hm with e | e
   ·rw[e];exact hlt
   ·exact h1 m e
  ·rename_i hlt
   have hnx:n<x:=by
    rcases List.le_iff_lt_or_eq.1 (List.not_lt.1 hlt) with h3 | h3
    ·exact h3
    ·exact absurd h3 hx
   refine List.pairwise_cons.2 ⟨fun m hm=>?_,h⟩;rcases List.mem_cons.1 hm with e | e
   ·rw[e];exact hnx
   ·exact List.lt_trans hnx (h1 m e)
theorem names_new {M:Files} {ks:List Name} {n:Name} {f:Fil} (h:Here1 M ks) (ht:(M.at n).now.there=false) (hf:f.now.there=true): ∃ks',Here1 (upd M n (some f)) ks'∧ks'.length=ks.length+1:=by
 have hn:n∉ks:=fun e=>by rw[(names_iff h n).1 e] at ht;cases ht
 refine⟨insN n ks,names_of (insN_rise n h.1 hn) fun m=>?_,insN_len n ks⟩;rw[insN_mem,names_iff h];by_cases e:m=n
 ·subst e
  rw[upd_at,hf];simp
 ·rw[upd_at_other _ _ e]
  simp [e]
structure FilOk (n:Name) (f:Fil):Prop where
 ok:f.ok
 there:f.now.there=true
 few:f.later.length≤1
 sure:f.sure.bs.length≤20000
 size: ∀v∈f.later,v.bs.length≤20000
 name:n.length≤64
structure Inv (M:Files):Prop where
 file: ∀n f,M n=some f→FilOk n f
 fin: ∃ks,Here1 M ks∧ks.length≤64
theorem Inv.new:Inv (fun _=>none):=⟨(fun n f h=>by cases h),[],names_of .nil (fun n=>by simp [Files.at,Fil.zero,Fil.now,Ver.zero]),by simp⟩
theorem Inv.gone {M:Files} (h:Inv M) {n:Name} (ht:(M.at n).now.there=false):M n=none:=by
 cases hM:M n with
 | none=>rfl
 | some f=>rw[at_of hM,(h.file n f hM).there] at ht;cases ht
theorem Inv.at_ok {M:Files} (h:Inv M) (n:Name):(M.at n).ok:=by
 cases hM:M n with
 | none=>rw[at_none hM];exact Fil.zero_ok
 | some f=>rw[at_of hM];exact(h.file n f hM).ok
theorem now_mem (f:Fil):f.now=f.sure∨f.now∈f.later:=by
 unfold Fil.now;cases hl:f.later.getLast? with
 | none=>exact .inl rfl
 | some v=>exact .inr (List.mem_of_getLast? hl)
theorem Inv.at_size {M:Files} (h:Inv M) (n:Name):(M.at n).now.bs.length≤20000∧(M.at n).later.length≤1:=by
 cases hM:M n with
 | none=>rw[at_none hM];exact⟨by simp [Fil.zero,Fil.now,Ver.zero],by simp [Fil.zero]⟩
 | some f=>
  rw[at_of hM];have hf:=h.file n f hM;refine⟨?_,hf.few⟩;rcases now_mem f with e | e
  ·rw[e];exact hf.sure
  ·exact hf.size _ e
theorem Inv.upd {M:Files} (h:Inv M) {n:Name} {x:Option Fil} (hx: ∀f,x=some f→FilOk n f) (hn:x.isSome=true→(M.at n).now.there=true∨ ∃ks,Here1 M ks∧ks.length<64):Inv (upd M n x):=by
 obtain⟨ks,hk,hl⟩:=h.fin;refine⟨fun m f hf=>?_,?_⟩
 ·by_cases e:m=n
  ·subst e
   rw[upd_same] at hf;exact hx f hf
  ·rw[upd_other _ _ e] at hf
   exact h.file m f hf
 ·have hsub:((M.at n).now.there=true∨x=none)→ ∃ks,Here1 (Dsk.upd M n x) ks∧ks.length≤64:=fun hc=>by
   obtain⟨ks',h1,h2⟩:=names_sub (M':=Dsk.upd M n x) hk fun m hm=>by
    by_cases e:m=n
    ·subst e
     rcases hc with hc | hc
     ·exact hc
     ·subst hc
      simp [Files.at,Dsk.upd,Fil.zero,Fil.now,Ver.zero] at hm
    ·rw[upd_at_other _ _ e] at hm
     exact hm
   exact⟨ks',h1,by omega⟩
  cases x with
  | none=>exact hsub (.inr rfl)
  | some f=>
   by_cases ht:(M.at n).now.there=true
   ·exact hsub (.inl ht)
   ·rcases hn rfl with h1 | ⟨ks1,h1,h2⟩
    ·exact absurd h1 ht
    ·have:=NamesOf.one hk h1
     subst this;obtain⟨ks',h3,h4⟩:=names_new hk (by simpa using ht) (hx f rfl).there;exact⟨ks',h3,by omega⟩
theorem settled_ok {v:Ver} {f:Fil} {n:Name} (hv:v.ok) (hl:v.bs.length≤20000) (hn:n.length≤64) (h:settled v=some f):FilOk n f:=by
 unfold settled at h;split at h
 ·rename_i ht
  cases h;exact⟨⟨⟨Nat.le_refl _,hv.2.1,hv.2.2⟩,fun v hv=>by cases hv⟩,ht,by simp,hl,(fun v hv=>by cases hv),hn⟩
 ·cases h
theorem Inv.settle {M:Files} (h:Inv M) {n:Name} (hn:n.length≤64):Inv (Dsk.upd M n (settled (M.at n).now)):=by
 refine h.upd (fun f hf=>settled_ok (Fil.now_ok (h.at_ok n)) (h.at_size n).1 hn hf) fun hs=> .inl ?_;unfold settled at hs;split at hs
 ·assumption
 ·cases hs
theorem Inv.sync {M:Files} (h:Inv M) (c:Cur):Inv (syncM M c):=by
 unfold syncM;split
 ·exact h.settle (by rw[name_len];decide)
 ·exact h
def Room (M:Files) (n:Name):Prop:=(M.at n).now.there=true∨ ∃ks,Here1 M ks∧ks.length<64
def Full (M:Files) (n:Name):Prop:=(M.at n).now.there=false∧ ∃ks,Here1 M ks∧64≤ks.length
theorem Inv.room {M:Files} (h:Inv M) (n:Name):Room M n∨Full M n:=by
 obtain⟨ks,hk,hl⟩:=h.fin;by_cases ht:(M.at n).now.there=true
 ·exact .inl (.inl ht)
 ·by_cases h64:ks.length<64
  ·exact .inl (.inr ⟨ks,hk,h64⟩)
  ·exact .inr ⟨by simpa using ht,ks,hk,by omega⟩
theorem appF_ok {M:Files} (h:Inv M) {n:Name} (hn:n.length≤64) {zs:List Int} (hz:zs.length≤2050) (hr: ∀x∈zs,0≤x∧x≤255) (hl:(M.at n).now.there=true→(M.at n).now.bs.length≤17000):FilOk n (appF (M.at n) zs):=by
 have hok:=h.at_ok n;have hsz:=h.at_size n;unfold appF;split
 ·rename_i ht
  have hl:=hl ht;have happ:((M.at n).now.app zs).ok:=⟨by have:=(Fil.now_ok hok).1;simp [Ver.app];omega,by simp [Ver.app];omega,fun x hx=>by
   rcases List.mem_append.1 hx with hx | hx
   ·exact(Fil.now_ok hok).2.2 x hx
   ·exact hr x hx⟩
  obtain⟨f,hM,hat⟩:=at_some ht;have hf:=h.file n f hM;rw[hat] at ht hl happ hok hsz ⊢;have hnow:=app_now f zs;by_cases hL:f.later= []
  ·rw[Fil.app_nil hL] at hnow ⊢
   rw[Fil.now_nil hL] at happ hl;refine⟨⟨happ,fun v hv=>by cases hv⟩,by rw[hnow];exact ht,by simp,by simp [Ver.app];omega,(fun v hv=>by cases hv),hn⟩
  ·obtain⟨l,v,hv⟩: ∃l v,f.later=l++ [v]:=⟨f.later.dropLast,f.later.getLast hL,(List.dropLast_concat_getLast hL).symm⟩
   rw[Fil.app_some hv] at hnow ⊢;rw[Fil.now_some hv] at happ hl;refine⟨⟨hok.1,fun x hx=>?_⟩,by rw[hnow];exact ht,by have:=hf.few;rw[hv] at this;simpa using this,hf.sure,fun x hx=>?_,hn⟩
   ·rcases List.mem_append.1 hx with hx | hx
    ·exact hok.2 x (by rw[hv];simp [hx])
    ·simp at hx;subst hx;exact happ
   ·rcases List.mem_append.1 hx with hx | hx
    ·exact hf.size x (by rw[hv];simp [hx])
    ·simp at hx;subst hx;simp [Ver.app];omega
 ·rename_i ht
  have hg:=h.gone (n:=n) (by simpa using ht);rw[at_none hg];refine⟨Fil.chg_ok Fil.zero_ok ⟨Nat.le_refl _,by dsimp only;omega,hr⟩,by rw[chg_now'],by simp [Fil.chg,Fil.zero],by simp [Fil.chg,Fil.zero,Ver.zero],fun v hv=>?_,hn⟩;simp [Fil.chg,Fil.zero] at hv;subst hv;dsimp only;omega
inductive PutsL:Files→List (Nat×List Ent)→List Ent→Int→Files→List (Nat×List Ent)→Prop
 | nil (M:Files) (L:List (Nat×List Ent)):PutsL M L [] 0 M L
 | put {M M2:Files} {L L2:List (Nat×List Ent)} {e:Ent} {es:List Ent} {er:Int} :((curL L).num<99999999∨(curL L).n<8)→Room (syncM M (curL L)) (nameOf (curL L).next.num)→PutsL (putM M (curL L) e) (putL L e) es er M2 L2→PutsL M L (e::es) er M2 L2
 | top {M:Files} {L:List (Nat×List Ent)} {e:Ent} {es:List Ent} :8≤(curL L).n→(curL L).num=99999999→PutsL M L (e::es) 6 (syncM M (curL L)) L
 | full {M:Files} {L:List (Nat×List Ent)} {e:Ent} {es:List Ent} :((curL L).num<99999999∨(curL L).n<8)→Full (syncM M (curL L)) (nameOf (curL L).next.num)→PutsL M L (e::es) 6 (syncM M (curL L)) L
end Go.Proofs.YtalfbcbnljhldaaGreatDoor.Wl
