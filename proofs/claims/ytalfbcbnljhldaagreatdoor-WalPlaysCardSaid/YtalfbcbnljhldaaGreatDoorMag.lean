/-  -/
import Derived.Test.YtalfbcbnljhldaaGreatDoorMaf
import Derived.Test.YtalfbcbnljhldaaGreatDoorMab
namespace Go.Proofs.YtalfbcbnljhldaaGreatDoor
open Go.Lib (hid)
open Go.RowKit Go.Maps Dsk
set_option maxRecDepth 100000 in
set_option maxHeartbeats 2000000 in
theorem append_later (g B N:Nat) (o:Tags) (M:Files) (l:Name) (r:List Ver) (v:Ver) (a:Option Addr) (cap:Nat) (zs:List Int) (w:World) (hd:DiskAt w B o g M N) (hp:Reads w a zs) (hna:a=none→cap=0) (hl:(M.at l).later=r++ [v]) (ht:v.there=true)
  (hzl:v.bs.length+zs.length≤1048576) (h1:1≤l.length) (h2:l.length≤64) (hN:N<1000000000) (hBw:B≤w.heap.size) (hn:r.length<900000000):
  Calls Tryz.prog 71 #[.pointer (some ⟨g,0,none⟩),.string ⟨l.toArray⟩,.slice a zs.length cap] w fun e w'=>e= .returned (.int .i64 0)∧ ∃o',DiskAt w' B o' g (upd M l (some ((M.at l).app zs))) (cntN M l N)∧Step o w o' w':=by
 obtain⟨b,D,hd⟩:=hd;obtain⟨i0,hi,hz0,hz1,hz2⟩:=info_parts info5;have hcell:=hd.cell;obtain⟨⟨t,sa,sn,sc,wh,la,ln,lc,ls⟩,hf,hrun,_⟩:=hd.look l (by unfold maxLen;omega);simp only[mkV] at hrun;have hb2:Below w.heap.size w (w.alloc (.cells #[.bool t,.slice sa sn sc,.int .i64 wh,.slice la ln lc,.bool ls] 98)):=(Below.refl _ _).alloc (Nat.le_refl _) _;have hH:Held (w.alloc (.cells #[.bool t,.slice sa sn sc,.int .i64 wh,.slice la ln lc,.bool ls] 98)) w.heap.size ⟨t,sa,sn,sc,wh,la,ln,lc,ls⟩:=heap_alloc_new _ _;have hlen:(M.at l).later.length=r.length+1:=by rw[hl];simp
 have hln:ln=r.length+1:=hf.ln.trans hlen;subst hln;obtain⟨ss,k1,k2,k3,k4⟩:=hf.lt;rw[hlen] at k1;obtain⟨ss0,s,rfl,hss0⟩: ∃ss0 s,ss=ss0++ [s]∧ss0.length=r.length:=by
  rcases List.eq_nil_or_concat ss with h | ⟨ss0,s,h⟩
  ·rw[h] at k1;simp at k1
  ·rw[List.concat_eq_append] at h
   exact⟨ss0,s,h,by rw[h] at k1;simpa using k1⟩
 rw[hlen,hl,verCells_snoc _ _ _ _ hss0] at k2;have hbl:BytesAt w B o (.file l (r.length+2)) v.bs s:=by
  have h:=k4 r.length (by omega);have e1:(M.at l).later[r.length]'(by omega)=v:=by simp [hl]
  have e2:(ss0++ [s]).getD r.length undef=s:=by simp [List.getD,←hss0]
  rw[e1,e2] at h;exact h
 have hbr: ∀i (h:i<r.length),BytesAt w B o (.file l (i+2)) r[i].bs (ss0.getD i undef):=fun i hi'=>by
  have h:=k4 i (by omega);have e1:(M.at l).later[i]'(by omega)=r[i]:=by simp [hl,hi']
  have e2:(ss0++ [s]).getD i undef=ss0.getD i undef:=by simp [List.getD,List.getElem?_append,show i<ss0.length by omega]
  rw[e1,e2] at h;exact h
 obtain⟨xa,xc,rfl⟩:=hbl.1.shape;obtain⟨gl,rfl⟩: ∃gl,la=some ⟨gl,0,none⟩:=by
  rcases k2.2 with⟨_,hn0⟩ | ⟨gl,cap,cur,hv,_⟩
  ·omega
  ·simp only[FV.lt,Value.slice.injEq] at hv
   exact⟨gl,hv.1⟩
 have hog:o gl=some (.file l 1):=k3 gl rfl;have hgs:=(hd.own gl (by rw[hog];simp)).2;have add: ∀j,((⟨gl,0,none⟩:Addr).add j)=⟨gl,j,none⟩:=fun j=>by unfold Addr.add;split<;>simp_all
 have hcs:=k2.cells (g:=gl) rfl;have y0:w.cell? ⟨gl,r.length*3,none⟩=some (.bool true):=by
  rw[←add,←ht];exact hcs _ _ (by rw[List.getElem?_append_right (by rw[verCells_len _ _ hss0];omega),verCells_len _ _ hss0];simp)
 have y1:w.cell? ⟨gl,r.length*3+1,none⟩=some (.slice xa v.bs.length xc):=by
  rw[←add];exact hcs _ _ (by rw[List.getElem?_append_right (by rw[verCells_len _ _ hss0];omega),verCells_len _ _ hss0,show r.length*3+1 - r.length*3=1 by omega];rfl)
 obtain⟨bs,hbs⟩: ∃bs,bs=v.bs:=⟨_,rfl⟩;rw[←hbs] at y1 hzl;have hrow:Row (w.alloc (.cells #[.bool t,.slice sa sn sc,.int .i64 wh,.slice (some ⟨gl,0,none⟩) (r.length+1) lc,.bool ls] 98)) B bs (.slice xa bs.length xc):=by
  rw[hbs];exact hbl.1.below hb2
 have hyf:w.frozen? ⟨gl,r.length*3+1,none⟩=false:=by
  rcases k2.2 with⟨hv,_⟩ | ⟨g',cap,cur,hv,_,hg',_⟩
  ·cases hv
  ·simp only[FV.lt,Value.slice.injEq,Option.some.injEq,Addr.mk.injEq] at hv
   obtain⟨⟨rfl,_⟩,_⟩:=hv;exact frozen_row hg'
 have z0:(w.alloc (.cells #[.bool t,.slice sa sn sc,.int .i64 wh,.slice (some ⟨gl,0,none⟩) (r.length+1) lc,.bool ls] 98)).cell? ⟨gl,r.length*3,none⟩=some (.bool true):=(hb2.cell (p:=⟨gl,r.length*3,none⟩) hgs).trans y0;have z1:(w.alloc (.cells #[.bool t,.slice sa sn sc,.int .i64 wh,.slice (some ⟨gl,0,none⟩) (r.length+1) lc,.bool ls] 98)).cell? ⟨gl,r.length*3+1,none⟩=some (.slice xa bs.length xc):=(hb2.cell (p:=⟨gl,r.length*3+1,none⟩) hgs).trans y1;have HYF:=hid ((hb2.frozen (p:=⟨gl,r.length*3+1,none⟩) hgs).trans hyf);have HR:=hid (refusal_ok g b l w hcell h1 h2);have HNW:=hid (now_later w.heap.size gl r.length lc _ (by omega) hH.cells.2.2.2.1);have HB:=hid hb2;have HH:=hid hH;have hpb:=(hp.below hb2).bytes;have hpn:a=none→zs.length=0∧cap=0:=fun e=>⟨hp.none_len e,hna e⟩;have HF:=hid hf;have HD:=hid hd;have HL:=hid hl;have HBS:=hid hbs;have HPR:=hid hp.hr;have HSS:=hid hss0;have HK2:=hid k2;have HK3:=hid k3;have HBR:=hid hbr;have HBL:=hid hbl;have HOG:=hid hog;have HGS:=hid hgs;have hzd:decide (1048576 - (bs.length:Int)<(zs.length:Int))=false:=by simp;omega
 clear hf hd hl hbs hp hna hH hb2 ht hss0 k1 k2 k3 k4 hbr hbl hog add hcs hlen y0 y1 hgs hyf;go_enter Tryz.func71,Tryz.ntmps71
 go_wp2_with fail
 refine HR.out.mono ?_;rintro e w1 ⟨rfl,rfl⟩;go_wp2_with fail
 refine HNW.out.mono ?_;rintro e w1 ⟨rfl,rfl⟩;generalize hw2:(w.alloc (.cells #[.bool t,.slice sa sn sc,.int .i64 wh,.slice (some ⟨gl,0,none⟩) (r.length+1) lc,.bool ls] 98))=w2 at*;have HW2:=hid hw2;have hsz:w2.heap.size=w.heap.size+1:=by rw[←hw2];simp
 have HSZ:=hid hsz;clear hw2 hsz hrun hcell;go_wp2_with (at_builtin;go_loud (refine wpList_append_lies _ rfl _ _ 39 rfl B 5 i0 (.int .u8 0) 1 1 Tryz.underlying39 hi hz0 hz1 hz2 rfl (by decide) _ _ _ rfl hrow a zs.length cap (zs.map (Value.int .u8)) rfl (by simp) hpn hpb (ints_oneCell .u8 _) (by unfold maxLen;omega) (by omega) (by have:=HB.out.size;omega) ?_))
 intro v' w3 hown hg3 hlies;replace hg3:w2.grownBy w3 (Value.slice xa v.bs.length xc).ownBlock:=by rw[←HBS.out];exact hg3
 replace hlies:v'.ownBlock=(Value.slice xa v.bs.length xc).ownBlock∨v'.ownBlock=some w2.heap.size:=by rw[←HBS.out];exact hlies
 obtain⟨a',c',rfl,_⟩:=slice_shape hown;have hb1:(some w.heap.size:Option Nat)≠(Value.slice xa v.bs.length xc).ownBlock:=fun e=>by
  have h3:=HBL.out.2 w.heap.size e.symm;have:=(HD.out.own w.heap.size (by rw[h3];simp)).2;omega
 have hgl3:(some gl:Option Nat)≠(Value.slice xa v.bs.length xc).ownBlock:=fun e=>by
  have h3:=HBL.out.2 gl e.symm;rw[HOG.out] at h3;simp at h3
 have hx3:Held w3 w.heap.size ⟨t,sa,sn,sc,wh,some ⟨gl,0,none⟩,r.length+1,lc,ls⟩:=(hg3.block _ (by rw[HSZ.out];omega) hb1).trans HH.out;obtain⟨d0,d1,d2,d3,d4⟩:=hx3.cells;dsimp only at d0 d1 d2 d3 d4;have f4:=frozen_row (i:=4) hx3;have hglb:=hg3.block gl (by rw[HSZ.out];have:=HGS.out;omega) hgl3;have e1:w3.cell? ⟨gl,r.length*3+1,none⟩=some (.slice xa bs.length xc):=(World.cell?_of_block (a:=⟨gl,r.length*3+1,none⟩) hglb).trans z1;have fe:w3.frozen? ⟨gl,r.length*3+1,none⟩=false:=(World.frozen?_of_block (a:=⟨gl,r.length*3+1,none⟩) hglb).trans HYF.out;have hne:gl≠w.heap.size:=by have:=HGS.out;omega
 have g4:(w3.setCell ⟨gl,r.length*3+1,none⟩ (.slice a' (bs.length+zs.length) c')).cell? ⟨w.heap.size,4,none⟩=some (.bool ls):=by
  rw[World.cell?_setCell_far _ _ _ _ (by exact hne)];exact d4
 have g5:(w3.setCell ⟨gl,r.length*3+1,none⟩ (.slice a' (bs.length+zs.length) c')).frozen? ⟨w.heap.size,4,none⟩=false:=by
  rw[World.frozen?_setCell];exact f4
 have HX3:=hid hx3;have HOWN:=hid hown;have HG3:=hid hg3;have HLIES:=hid hlies;have HB1:=hid hb1;have HNE:=hid hne;clear hx3 hown hg3 hlies hb1 hrow hpb hpn hglb hgl3 z0 z1 d0 d1 d2 d3 hne;go_wp2
 obtain⟨W5,hW5⟩: ∃W5,W5=((w3.setCell ⟨gl,r.length*3+1,none⟩ (.slice a' (bs.length+zs.length) c')).setCell ⟨w.heap.size,4,none⟩ (.bool true)):=⟨_,rfl⟩;rw[←hW5];have hx5:Held W5 w.heap.size ⟨t,sa,sn,sc,wh,some ⟨gl,0,none⟩,r.length+1,lc,true⟩:=by
  rw[hW5];exact cells_set (show((w3.setCell ⟨gl,r.length*3+1,none⟩ (.slice a' (bs.length+zs.length) c')).heap[w.heap.size]?=_) by rw[Below.heap_setCell _ _ _ _ (fun e=>HNE.out e.symm)];exact HX3.out) 4 _
 have hg45:(w3.setCell ⟨gl,r.length*3+1,none⟩ (.slice a' (bs.length+zs.length) c')).grownBy W5 (some w.heap.size):=by
  rw[hW5];exact World.grownBy_setCell _ _ _ _
 have HTAG:Hid (∀k,some k=some gl∨(Value.slice xa v.bs.length xc).ownBlock=some k→o k≠none):=fun k e=>by
  rcases e with e | e
  ·cases e;rw[HOG.out];simp
  ·rw[HBL.out.2 k e];simp
 have hok5:(v.app zs).ok:=Ver.app_ok (HF.out.ok.2 v (by rw[HL.out];simp)) (by rw[←HBS.out];exact hzl) HPR.out;have hg3':w.grownBy w3 (Value.slice xa v.bs.length xc).ownBlock:=(World.grownBy_below HB.out _).andThen HG3.out (fun j e=> .inr e);have hblk: ∀k,k<w.heap.size→o k=none→W5.heap[k]?=w.heap[k]?:=fun k hk e=>by
  rw[hW5,Below.heap_setCell _ _ _ _ (by show k≠w.heap.size;omega),Below.heap_setCell _ _ _ _ (by show k≠gl;intro e';rw[e',HOG.out] at e;cases e)];exact hg3'.block k hk fun e'=>by rw[HBL.out.2 k e'.symm] at e;cases e
 have hsz5:w.heap.size≤W5.heap.size:=by rw[hW5];simpa [World.setCell] using hg3'.size
 have hst5:W5.os=w.os∧W5.tape=w.tape∧W5.output=w.output:=by rw[hW5];exact⟨hg3'.os,hg3'.tape,hg3'.output⟩
 obtain⟨o',hd5,hf5,hfree⟩:=HD.out.appLater HF.out HL.out hok5 (W:=W5.drew) (W0:=w3) (gl:=gl) rfl HSS.out HK2.out HK3.out HBR.out HBL.out.2 hg3'
  (show Row w3 B (v.bs++zs) (.slice a' (bs.length+zs.length) c') by rw[←HBS.out];unfold Row;simpa using HOWN.out) (HLIES.out.imp id fun h=>⟨_,h,by rw[HSZ.out];omega⟩) (Nat.le_refl _)
  (fun e=>by
   rcases HLIES.out with h1 | h1
   ·exact HB1.out (by rw[←h1,e])
   ·rw[e,HSZ.out] at h1;simp at h1)
  (hg45.andThen (World.grownBy_drew W5 none) (fun j e=>by cases e))
 clear hg45 hok5 hg3' d4 f4 e1 fe g4 g5;obtain⟨w',hrun5,hd',hg',hs'⟩:=hd5.store hf5 (by unfold maxLen;omega) (by unfold maxLen;omega);simp only[mkV] at hrun5;obtain⟨c0,c1,c2,c3,c4⟩:=hx5.cells;dsimp only at c0 c1 c2 c3 c4;have cg:W5.cell? ⟨g,0,none⟩=some (.map (some b)):=hd5.cell;have HDD:=hid hd';have HST:Hid (Step o w o' w'):=by
  refine⟨hg'.os.trans hst5.1,hg'.tape.trans hst5.2.1,hg'.output.trans hst5.2.2,Nat.le_trans hsz5 hg'.size,fun k hk e=>?_,fun k hk e _=>hfree k hk e⟩;exact(hg'.block k (Nat.lt_of_lt_of_le hk hsz5) fun e'=>by cases e';rw[HD.out.ob] at e;cases e).trans (hblk k hk e)
 clear hd' hg' hfree hs' hd5 hf5 hx5 hW5 hblk hsz5 hst5;go_still_tail 6,(by kernel_rfl)
 change wpList _ _ _ _ _ W5.drew;generalize hWd:W5.drew=W6 at hrun5 ⊢;clear hWd c0 c1 c2 c3 c4 cg;go_wp2
 go_ret
 exact⟨rfl,o',⟨b,_,HDD.out⟩,HST.out⟩
theorem append_new (g B N:Nat) (o:Tags) (M:Files) (l:Name) (a:Option Addr) (cap:Nat) (zs:List Int) (w:World) (hd:DiskAt w B o g M N) (hp:Reads w a zs) (hna:a=none→cap=0) (ht:(M.at l).now.there=false)
  (hzl:zs.length≤1048576) (h1:1≤l.length) (h2:l.length≤64) (hN:N<64) (hn: ∀l f,M l=some f→f.later.length<1000000000) (hBw:B≤w.heap.size):
  Calls Tryz.prog 71 #[.pointer (some ⟨g,0,none⟩),.string ⟨l.toArray⟩,.slice a zs.length cap] w fun e w'=>e= .returned (.int .i64 0)∧ ∃o',DiskAt w' B o' g (upd M l (some ((M.at l).chg ⟨true,zs,zs.length⟩))) (cntN M l N)∧Step o w o' w':=by
 have hn1:(M.at l).later.length<1000000000:=by
  unfold Files.at;cases h:M l with
  | none=>simp [Fil.zero]
  | some f=>exact hn l f h
 obtain⟨b,D,hd⟩:=hd;have hcell:=hd.cell;obtain⟨⟨t,sa,sn,sc,wh,la,ln,lc,ls⟩,hf,hrun,_⟩:=hd.look l (by unfold maxLen;omega);simp only[mkV] at hrun;have hb2:Below w.heap.size w (w.alloc (.cells #[.bool t,.slice sa sn sc,.int .i64 wh,.slice la ln lc,.bool ls] 98)):=(Below.refl _ _).alloc (Nat.le_refl _) _;have hH:Held (w.alloc (.cells #[.bool t,.slice sa sn sc,.int .i64 wh,.slice la ln lc,.bool ls] 98)) w.heap.size ⟨t,sa,sn,sc,wh,la,ln,lc,ls⟩:=heap_alloc_new _ _;obtain⟨P,q,na,cp,j,hnow,c0,c1,c2,hby⟩:=now_any hH (hf.below hb2 (fun k e=>(hd.own k e).2)) hn1;rw[ht] at c0;have HR:=hid (refusal_ok g b l w hcell h1 h2);have HN:=hid hnow;have HB:=hid hb2;have HS:=hid (replace_any g B N o M l a zs.length cap zs _ ⟨b,D,hd.below hb2⟩ rfl (hp.below hb2) hna hzl (.inr hN) h1 h2 (by omega) hn (Nat.le_trans hBw hb2.size));clear hnow hby hf hd hn hn1 hH hb2 ht hBw hp hna;go_enter Tryz.func71,Tryz.ntmps71
 go_wp2_with fail
 refine HR.out.mono ?_;rintro e w1 ⟨rfl,rfl⟩;go_wp2_with fail
 refine HN.out.mono ?_;rintro e w1 ⟨rfl,rfl⟩;go_wp2_with fail
 refine HS.out.mono ?_;rintro e w1 ⟨rfl,o',hd',hst⟩;have HD:=hid hd';have HST:=hid ((Step.of_below o HB.out).trans hst);clear hd' hst;go_wp2
 go_ret
 exact⟨rfl,o',HD.out,HST.out⟩
theorem append_there (g B N:Nat) (o:Tags) (M:Files) (l:Name) (a:Option Addr) (cap:Nat) (zs:List Int) (w:World) (hd:DiskAt w B o g M N) (hp:Reads w a zs) (hna:a=none→cap=0) (ht:(M.at l).now.there=true)
  (hzl:(M.at l).now.bs.length+zs.length≤1048576) (h1:1≤l.length) (h2:l.length≤64) (hN:N<1000000000) (hn:(M.at l).later.length<900000000) (hBw:B≤w.heap.size):
  Calls Tryz.prog 71 #[.pointer (some ⟨g,0,none⟩),.string ⟨l.toArray⟩,.slice a zs.length cap] w fun e w'=>e= .returned (.int .i64 0)∧ ∃o',DiskAt w' B o' g (upd M l (some ((M.at l).app zs))) (cntN M l N)∧Step o w o' w':=by
 rcases List.eq_nil_or_concat (M.at l).later with hl | ⟨r,v,hl⟩
 ·rw[Fil.now_nil hl] at ht hzl
  exact append_sure g B N o M l a cap zs w hd hp hna hl ht hzl h1 h2 hN hBw
 ·rw[List.concat_eq_append] at hl
  rw[Fil.now_some hl] at ht hzl;refine append_later g B N o M l r v a cap zs w hd hp hna hl ht hzl h1 h2 hN hBw ?_;rw[hl] at hn;simp at hn;omega
end Go.Proofs.YtalfbcbnljhldaaGreatDoor

namespace Go.Proofs.YtalfbcbnljhldaaGreatDoor
open Go.Lib (hid)
open Go.RowKit Go.Maps Dsk
def crashedTo (M:Files) (ks:List Name) (f:Nat→Nat) (i:Nat):Files:=fun n=>if n∈ks.take i then settled ((M.at n).torn (f (ks.idxOf n))) else M n
theorem crashedTo_zero (M:Files) (ks:List Name) (f:Nat→Nat):crashedTo M ks f 0=M:=by funext n;simp [crashedTo]
theorem crashedTo_all (M:Files) (ks:List Name) (f:Nat→Nat):crashedTo M ks f ks.length=crashed M ks f:=by funext n;simp [crashedTo,crashed]
theorem crashedTo_at {M:Files} {ks:List Name} (f:Nat→Nat) {i:Nat} (hi:i<ks.length) (hn:ks.Nodup):crashedTo M ks f i ks[i]=M ks[i]:=by
 have:ks[i]∉ks.take i:=fun h=>by
  obtain⟨j,hj,e⟩:=List.mem_iff_getElem.1 h;rw[List.getElem_take] at e;have hj':j<i:=by simp at hj;omega
  have:=(List.getElem_inj hn).1 e;omega
 simp [crashedTo,this]
theorem crashedTo_succ {M:Files} {ks:List Name} (f:Nat→Nat) {i:Nat} (hi:i<ks.length) (hn:ks.Nodup):crashedTo M ks f (i+1)=upd (crashedTo M ks f i) ks[i] (settled ((M.at ks[i]).torn (f i))):=by
 funext n
 have hx:ks.idxOf ks[i]=i:=hn.idxOf_getElem i hi;by_cases h:n=ks[i]
 ·subst h
  rw[upd_same];have hm:ks[i]∈ks.take (i+1):=List.mem_take_iff_getElem.2 ⟨i,by omega,rfl⟩;simp [crashedTo,hm,hx]
 ·rw[upd_other _ _ h]
  have:n∈ks.take (i+1)↔n∈ks.take i:=by
   rw[List.take_succ_eq_append_getElem hi,List.mem_append,List.mem_singleton];exact⟨fun h'=>h'.elim id (fun e=>absurd e h),.inl⟩
  simp [crashedTo,this]
theorem Fil.torn_ok {f:Fil} (h:f.ok) (p:Nat):(f.torn p).bs.length≤1048576∧ ∀x∈(f.torn p).bs,0≤x∧x≤255:=by
 have hv:(tornGo p f.sure f.later).2.ok:=by
  rcases tornGo_mem p f.sure f.later with e | e
  ·rw[e];exact h.1
  ·exact h.2 _ e
 refine⟨?_,fun x hx=>hv.2.2 x (List.mem_of_mem_take hx)⟩;have:=hv.2.1;simp [Fil.torn,tornOf];omega
def stayN (ss:List Int) (i:Nat):Nat:=(ss.getD i 0).toNat
structure Stay (w:World) (o:Tags) (sa:Option Addr) (ss:List Int):Prop where
 cell: ∀i (h:i<ss.length),∃gs of,sa=some ⟨gs,of,none⟩∧gs<w.heap.size∧o gs=none∧w.cell? ⟨gs,of+i,none⟩=some (.int .i64 ss[i])
 wf: ∀x∈ss,-9223372036854775808≤x∧x≤9223372036854775807
def Good (M:Files):Prop:= ∀l f,M l=some f→l.length≤64∧f.later.length<1000000000
set_option maxRecDepth 100000 in
set_option maxHeartbeats 2000000 in
theorem crash_any (g B N:Nat) (o:Tags) (M:Files) (sa:Option Addr) (sc:Nat) (ss:List Int) (w:World) (hd:DiskAt w B o g M N) (hs:Stay w o sa ss) (hgood:Good M) (hN:N<1000000000):
  Calls Tryz.prog 15 #[.pointer (some ⟨g,0,none⟩),.slice sa ss.length sc] w fun e w'=>e= .returned (.tuple #[])∧ ∃ks o',NamesOf M (fun f=>f.loose) ks∧DiskAt w' B o' g (crashed M ks (stayN ss)) N∧Step o w o' w':=by
 have HL:=hid (loose_all g B N o M w hd hN (fun l f h=>(hgood l f h).2));have hown: ∀k,o k≠none→k<w.heap.size:=by
  obtain⟨b,D,h⟩:=hd;exact fun k e=>(h.own k e).2
 have HD:=hid hd;have HS:=hid hs;have HG:=hid hgood;have HOW:=hid hown;clear hd hs hgood hown;go_enter Tryz.func15,Tryz.ntmps15
 go_wp2_with fail
 refine HL.out.mono ?_;rintro e w1 ⟨ks,ka,kc,rfl,hks,hrow,hb1,hkl⟩;have HK:=hid hks;have HR:=hid hrow;have HB1:=hid hb1;have HKL:=hid hkl;clear hks hrow hb1 hkl HL;go_wp2
 go_loopw [10] (fun iv wr=> ∃(i:Nat) (oi:Tags),i≤ks.length∧iv= .int .i64 i∧DiskAt wr B oi g (crashedTo M ks (stayN ss) i) N∧Step o w1 oi wr) (fun iv _=>ks.length - (intOf iv).toNat)
 case atStart=>
  refine⟨0,o,Nat.zero_le _,rfl,?_,Step.refl _ _⟩;rw[crashedTo_zero];obtain⟨b,D,h⟩:=HD.out;exact⟨b,D,h.below HB1.out⟩
 case round=>
  obtain⟨i,oi,hi,rfl,hdi,hst⟩:=hrel;by_cases hlt:i<ks.length
  ·have hib:i≤1000000000:=by have:=HKL.out;omega
   obtain⟨l,hkl⟩: ∃l,l=ks[i]:=⟨_,rfl⟩;have hmem:l∈ks:=by rw[hkl];exact List.getElem_mem hlt
   obtain⟨f,hMf,hfl⟩:=(HK.out.2 l).1 hmem;have hgd:=HG.out l f hMf;have hat:crashedTo M ks (stayN ss) i l=some f:=by rw[hkl,crashedTo_at _ hlt HK.out.nodup,←hkl];exact hMf
   have hat2:(crashedTo M ks (stayN ss) i).at l=f:=by unfold Files.at;rw[hat];rfl
   have hmat:M.at l=f:=by simp [Files.at,hMf]
   obtain⟨gk,rfl⟩: ∃gk,ka=some ⟨gk,0,none⟩:=by
    rcases HR.out.2 with⟨hv,hn0⟩ | ⟨gk,cap,cur,hv,_⟩
    ·omega
    ·simp only[Value.slice.injEq] at hv
     exact⟨gk,hv.1⟩
   have hgk:=World.ownsRow.lt HR.out gk rfl;have hogk:o gk=none:=by
    cases ho:o gk with
    | none=>rfl
    | some t=>have:=HOW.out gk (by rw[ho];simp);omega
   have hcn:w1.cell? ⟨gk,i,none⟩=some (.string ⟨l.toArray⟩):=by
    have:=World.ownsRow.cells HR.out (g:=gk) rfl i (encStr l) (by rw[List.getElem?_map,List.getElem?_eq_getElem hlt,hkl];rfl);rwa [show((⟨gk,0,none⟩:Addr).add i)=⟨gk,i,none⟩ by unfold Addr.add;split<;>simp_all] at this
   have hcr:wr.cell? ⟨gk,i,none⟩=some (.string ⟨l.toArray⟩):=(World.cell?_of_block (a:=⟨gk,i,none⟩) (hst.block gk hgk.2 hogk)).trans hcn;obtain⟨b,D,hdi'⟩:=hdi;have hcell:=hdi'.cell;obtain⟨⟨t,sa1,sn1,sc1,wh1,la1,ln1,lc1,ls1⟩,hf,hrun,_⟩:=hdi'.look l (by unfold maxLen;omega);rw[hat2] at hf;have hok:=Fil.torn_ok hf.ok (stayN ss i);have hpw:(stayN ss i)≤9223372036854775807:=by
    unfold stayN;by_cases h:i<ss.length
    ·have:=HS.out.wf ss[i] (List.getElem_mem h)
     have e:ss.getD i 0=ss[i]:=by simp [List.getD,h]
     rw[e];omega
    ·have e:ss.getD i 0=0:=by simp [List.getD,show ss[i]?=none from List.getElem?_eq_none (by omega)]
     rw[e];simp
   have HT:=hid (torn_any B oi l ⟨t,sa1,sn1,sc1,wh1,la1,ln1,lc1,ls1⟩ f (stayN ss i) wr hf hpw hgd.2 (fun k e=>(hdi'.own k e).2));simp only[mkV] at hrun HT;have HSE:=hid (fun(W:World) (hb:Below wr.heap.size wr W) a c (hr:Row wr B (f.torn (stayN ss i)).bs (.slice a (f.torn (stayN ss i)).bs.length c)) (ho: ∀j,(Value.slice a (f.torn (stayN ss i)).bs.length c).ownBlock=some j→ ∃k,oi j=some (.file l k))=>
    settle_of g B N oi (crashedTo M ks (stayN ss) i) l (f.torn (stayN ss i)) a c W ⟨b,D,hdi'.below hb⟩ (by rw[hat];rfl) (hr.below hb) hok.1 hok.2 ho hgd.1 (by omega))
   have HST:=hid hst;have HSU:Hid (upd (crashedTo M ks (stayN ss) i) l (settled (f.torn (stayN ss i)))=crashedTo M ks (stayN ss) (i+1)):=by
    unfold Hid;rw[crashedTo_succ _ hlt HK.out.nodup,←hkl,hmat]
   have hsi: ∀h:i<ss.length,∃gs of,sa=some ⟨gs,of,none⟩∧wr.cell? ⟨gs,of+i,none⟩=some (.int .i64 ss[i]):=fun h=>by
    obtain⟨gs,of,h1,h2,h3,h4⟩:=HS.out.cell i h;refine⟨gs,of,h1,?_⟩;have hg1:=HB1.out.block gs h2;have hg2:=hst.block gs (Nat.lt_of_lt_of_le h2 HB1.out.size) h3;exact(World.cell?_of_block (a:=⟨gs,of+i,none⟩) (hg2.trans hg1)).trans h4
   obtain⟨p0,hp0⟩: ∃p0,p0=(stayN ss i):=⟨_,rfl⟩;rw[←hp0] at HT HSE HSU hpw;have HP0:=hid hp0;have HSI:=hid hsi;clear hst hkl hmem hMf hfl hgd hat hat2 hmat hgk hogk hcn hdi' hf hok hp0 hsi;by_cases hil:i<ss.length
   ·obtain⟨gs,of,rfl,hcs⟩:=HSI.out hil
    have hpe:p0=ss[i].toNat:=by
     have:=HP0.out;simp [stayN,List.getD,hil] at this;exact this
    obtain⟨x,hx⟩: ∃x,x=ss[i]:=⟨_,rfl⟩;rw[←hx] at hcs hpe;have hmx:max (0:Int) x=(p0:Int):=by omega
    clear hx hpe;go_wp2_with fail
    refine HT.out.mono ?_;rintro e w3 ⟨a3,c3,rfl,hr3,ho3,hb3⟩;have HS3:=hid (HSE.out w3 hb3 a3 c3 hr3 ho3);have HB3:=hid hb3;clear hr3 ho3 hb3;go_wp2_with fail
    refine HS3.out.mono ?_;rintro e w4 ⟨rfl,o4,hd4,hst4⟩;rw[HSU.out] at hd4;have HD4:=hid hd4;have HST4:=hid (HST.out.trans ((Step.of_below oi HB3.out).trans hst4));clear hd4 hst4;go_wp2
    go_roundw
    case rel=>exact⟨i+1,o4,hlt,by go_num,HD4.out,HST4.out⟩
    case measure=>simp [intOf];omega
   ·have hz:(p0:Int)=0:=by
     have:=HP0.out;simp [stayN,List.getD,show ss[i]?=none from List.getElem?_eq_none (by omega)] at this;omega
    rw[hz] at HT;clear hz;go_wp2_with fail
    refine HT.out.mono ?_;rintro e w3 ⟨a3,c3,rfl,hr3,ho3,hb3⟩;have HS3:=hid (HSE.out w3 hb3 a3 c3 hr3 ho3);have HB3:=hid hb3;clear hr3 ho3 hb3;go_wp2_with fail
    refine HS3.out.mono ?_;rintro e w4 ⟨rfl,o4,hd4,hst4⟩;rw[HSU.out] at hd4;have HD4:=hid hd4;have HST4:=hid (HST.out.trans ((Step.of_below oi HB3.out).trans hst4));clear hd4 hst4;go_wp2
    go_roundw
    case rel=>exact⟨i+1,o4,hlt,by go_num,HD4.out,HST4.out⟩
    case measure=>simp [intOf];omega
  ·have hik:i=ks.length:=by omega
   subst hik;have HE:=hid hdi;have HST:=hid ((Step.of_below o HB1.out).trans hst);clear hdi hst hi;go_wp2
   go_end0
   rw[crashedTo_all] at HE;exact⟨rfl,ks,oi,HK.out,HE.out,HST.out⟩
end Go.Proofs.YtalfbcbnljhldaaGreatDoor

namespace Go.Proofs.YtalfbcbnljhldaaGreatDoor.Dsk
inductive RPart where
 | whole (gone:Bool) (bs:List Int)
 | byte (x:Int)
structure RFil where
 is:Bool
 bs:List Int
 l:List RPart
 any:Bool
def RPart.does (p:RPart) (s:Bool×List Int):Bool×List Int:=
 match p with
 | .whole gone bs=>(!gone,bs)
 | .byte x=>(s.1,s.2++ [x])
def RFil.after (r:RFil) (n:Nat):Bool×List Int:=(r.l.take n).foldl (fun s p=>p.does s) (r.is,r.bs)
def Ver.bytes (v:Ver):List RPart:=(v.bs.drop v.whole).map RPart.byte
def Ver.parts (v:Ver):List RPart:= .whole (!v.there) (v.bs.take v.whole)::v.bytes
def Fil.ref (f:Fil):RFil:=⟨f.sure.there,f.sure.bs.take f.sure.whole,f.sure.bytes++(f.later.map Ver.parts).flatten,f.loose⟩
def Ver.pair (v:Ver):Bool×List Int:=(v.there,v.bs)
theorem bytes_fold: ∀(zs:List Int) (s:Bool×List Int),(zs.map RPart.byte).foldl (fun s p=>p.does s) s=(s.1,s.2++zs)
 | [],s=>by simp
 | z::zs,s=>by
  rw[List.map_cons,List.foldl_cons,bytes_fold zs];simp [RPart.does]
theorem Ver.bytes_len (v:Ver):v.bytes.length=v.appended:=by simp [Ver.bytes,Ver.appended]
theorem Ver.parts_len (v:Ver):v.parts.length=v.appended+1:=by simp [Ver.parts,Ver.bytes_len]
theorem ver_take (v:Ver) (n:Nat) (hn:n≤v.appended):
  (v.bytes.take n).foldl (fun s p=>p.does s) (v.there,v.bs.take v.whole)=(tornOf n v).pair:=by
 unfold Ver.bytes;rw[←List.map_take,bytes_fold];unfold tornOf Ver.pair;simp only;rw[Nat.min_eq_left hn,List.take_add]
theorem after_torn (f:Fil) (hs:f.sure.whole≤f.sure.bs.length) (hl: ∀v∈f.later,v.whole≤v.bs.length) (n:Nat):f.ref.after n=(f.torn n).pair:=by
 have go: ∀(l:List Ver) (v:Ver) (n:Nat),v.whole≤v.bs.length→(∀x∈l,x.whole≤x.bs.length)→
   ((v.bytes++(l.map Ver.parts).flatten).take n).foldl (fun s p=>p.does s) (v.there,v.bs.take v.whole)=(tornOf (tornGo n v l).1 (tornGo n v l).2).pair:=by
  intro l;induction l with
  | nil=>
   intro v n hv _;rw[List.map_nil,List.flatten_nil,List.append_nil];simp only[tornGo];by_cases h:n≤v.appended
   ·exact ver_take v n h
   ·have e:=ver_take v v.appended (Nat.le_refl _)
    rw[List.take_of_length_le (l:=v.bytes) (by rw[Ver.bytes_len];exact Nat.le_refl _)] at e;rw[List.take_of_length_le (l:=v.bytes) (by rw[Ver.bytes_len];omega),e];unfold tornOf;rw[Nat.min_self,Nat.min_eq_right (by omega)]
  | cons x l ih=>
   intro v n hv hl;simp only[tornGo];by_cases h:n≤v.appended
   ·rw[if_pos h,List.take_append_of_le_length (by rw[Ver.bytes_len];exact h)]
    exact ver_take v n h
   ·rw[if_neg h,List.take_append,List.take_of_length_le (l:=v.bytes) (by rw[Ver.bytes_len];omega),List.foldl_append,Ver.bytes_len]
    have e:=ver_take v v.appended (Nat.le_refl _);rw[List.take_of_length_le (l:=v.bytes) (by rw[Ver.bytes_len];exact Nat.le_refl _)] at e;rw[e];obtain⟨m,hm⟩: ∃m,n - v.appended=m+1:=⟨n - v.appended - 1,by omega⟩;rw[hm,List.map_cons,List.flatten_cons];unfold Ver.parts;rw[List.cons_append,List.take_succ_cons,List.foldl_cons];have e2:n - (v.appended+1)=m:=by omega
    rw[e2];have e3:RPart.does (.whole (!x.there) (x.bs.take x.whole)) (tornOf v.appended v).pair=(x.there,x.bs.take x.whole):=by simp [RPart.does]
    rw[e3];exact ih x m (hl x (by simp)) (fun y hy=>hl y (by simp [hy]))
 unfold RFil.after Fil.ref Fil.torn;exact go f.later f.sure n hs hl
theorem torn_all: ∀(l:List Ver) (v:Ver) (n:Nat),v.whole≤v.bs.length→(∀x∈l,x.whole≤x.bs.length)→(v.bytes++(l.map Ver.parts).flatten).length≤n→
  tornOf (tornGo n v l).1 (tornGo n v l).2=(l.getLast?.getD v)
 | [],v,n,hv,_,h=>by
  rw[List.map_nil,List.flatten_nil,List.append_nil,Ver.bytes_len] at h;simp only[tornGo,List.getLast?_nil,Option.getD_none];unfold tornOf;rw[Nat.min_eq_right h];have:v.whole+v.appended=v.bs.length:=by unfold Ver.appended;omega
  rw[this,List.take_length]
 | x::l,v,n,hv,hl,h=>by
  rw[List.map_cons,List.flatten_cons,List.length_append,List.length_append,Ver.bytes_len,Ver.parts_len] at h;simp only[tornGo];rw[if_neg (by omega),torn_all l x (n - (v.appended+1)) (hl x (by simp)) (fun y hy=>hl y (by simp [hy])) (by rw[List.length_append,Ver.bytes_len];omega)];cases l with
  | nil=>simp
  | cons y l=>simp [List.getLast?_cons]
theorem after_now (f:Fil) (hs:f.sure.whole≤f.sure.bs.length) (hl: ∀v∈f.later,v.whole≤v.bs.length) (n:Nat) (hn:f.ref.l.length≤n):f.ref.after n=f.now.pair:=by
 rw[after_torn f hs hl];unfold Fil.torn Fil.now;rw[torn_all f.later f.sure n hs hl hn]
theorem ref_chg (f:Fil) (v:Ver):(f.chg v).ref=⟨f.ref.is,f.ref.bs,f.ref.l++v.parts,true⟩:=by
 simp [Fil.chg,Fil.ref]
theorem ver_app_bytes (v:Ver) (hv:v.whole≤v.bs.length) (zs:List Int):(v.app zs).bytes=v.bytes++zs.map RPart.byte∧(v.app zs).bs.take (v.app zs).whole=v.bs.take v.whole:=by
 constructor
 ·simp [Ver.app,Ver.bytes,List.drop_append_of_le_length hv]
 ·simp [Ver.app,List.take_append_of_le_length hv]
theorem ref_app (f:Fil) (hs:f.sure.whole≤f.sure.bs.length) (hl: ∀v∈f.later,v.whole≤v.bs.length) (zs:List Int):(f.app zs).ref=⟨f.ref.is,f.ref.bs,f.ref.l++zs.map RPart.byte,true⟩:=by
 rcases List.eq_nil_or_concat f.later with h | ⟨l,v,h⟩
 ·rw[Fil.app_nil h]
  obtain⟨e1,e2⟩:=ver_app_bytes f.sure hs zs;unfold Fil.ref;rw[h];simp only[List.map_nil,List.flatten_nil,List.append_nil];rw[e1,e2];rfl
 ·rw[List.concat_eq_append] at h
  rw[Fil.app_some h];have hv:=hl v (by rw[h];simp);obtain⟨e1,e2⟩:=ver_app_bytes v hv zs;have e3:(v.app zs).parts=v.parts++zs.map RPart.byte:=by
   unfold Ver.parts;rw[e1,e2];rfl
  unfold Fil.ref;rw[h];simp [e3]
theorem ref_settled (v:Ver) (f:Fil) (h:settled v=some f):v.there=true∧f.ref=⟨true,v.bs,[],false⟩:=by
 unfold settled at h;split at h
 ·rename_i ht
  cases h;exact⟨ht,by simp [Fil.ref,Ver.bytes,ht]⟩
 ·cases h
end Go.Proofs.YtalfbcbnljhldaaGreatDoor.Dsk

namespace Go.Proofs.YtalfbcbnljhldaaGreatDoor
open Go.RowKit Go.Maps Dsk
namespace Rd
def _root_.Go.Proofs.YtalfbcbnljhldaaGreatDoor.Dsk.RPart.flag:RPart→Bool
 | .whole _ _=>true
 | .byte _=>false
def _root_.Go.Proofs.YtalfbcbnljhldaaGreatDoor.Dsk.RPart.gone:RPart→Bool
 | .whole g _=>g
 | .byte _=>false
def _root_.Go.Proofs.YtalfbcbnljhldaaGreatDoor.Dsk.RPart.bytes:RPart→List Int
 | .whole _ bs=>bs
 | .byte x=> [x]
theorem does_is (p:RPart) (s:Bool×List Int):p.does s=if p.flag=true then(!p.gone,p.bytes) else(s.1,s.2++p.bytes):=by
 cases p<;>rfl
def partCells:List RPart→List Value→List Value
 | p::ps,s::ss=> .bool p.flag:: .bool p.gone::s::partCells ps ss
 | _,_=> []
theorem partCells_snoc: ∀(ps:List RPart) (ss:List Value) (p:RPart) (s:Value),ss.length=ps.length→partCells (ps++ [p]) (ss++ [s])=partCells ps ss++ [.bool p.flag,.bool p.gone,s]
 | [],[],p,s,_=>rfl
 | [],s'::ss,p,s,h=>by simp at h
 | p'::ps,[],p,s,h=>by simp at h
 | p'::ps,s'::ss,p,s,h=>by
  simp only[partCells,List.cons_append];rw[partCells_snoc ps ss p s (by simpa using h)]
theorem partCells_at: ∀(ps:List RPart) (ss:List Value) (i:Nat) (hi:i<ps.length),ss.length=ps.length→
  (partCells ps ss)[i*3]?=some (.bool ps[i].flag)∧(partCells ps ss)[i*3+1]?=some (.bool ps[i].gone)∧(partCells ps ss)[i*3+2]?=some (ss.getD i undef)
 | [],_,i,hi,_=>by simp at hi
 | p::ps,[],i,hi,h=>by simp at h
 | p::ps,s::ss,0,hi,h=>by simp [partCells]
 | p::ps,s::ss,i+1,hi,h=>by
  have:=partCells_at ps ss i (by simpa using hi) (by simpa using h);simp only[partCells];rw[show(i+1)*3=i*3+1+1+1 by omega];simpa using this
structure FC where
 n:Name
 f:RFil
 vb:Value
 vl:Value
def RB (w:World) (B:Nat) (S:Nat→Prop) (zs:List Int) (v:Value):Prop:=Row w B zs v∧ ∀k,v.ownBlock=some k→S k
structure FC.At (w:World) (B:Nat) (S:Nat→Prop) (c:FC):Prop where
 bts:RB w B S c.f.bs c.vb
 row: ∃ss:List Value,ss.length=c.f.l.length∧w.ownsRow B 108 3 c.vl c.f.l.length (partCells c.f.l ss)∧ ∀i (h:i<c.f.l.length),RB w B S c.f.l[i].bytes (ss.getD i undef)
 own: ∀k,c.vl.ownBlock=some k→S k
def fileCells:List FC→List Value
 | []=> []
 | c::cs=> .string ⟨c.n.toArray⟩:: .bool c.f.is::c.vb::c.vl:: .bool c.f.any::fileCells cs
theorem fileCells_len: ∀cs:List FC,(fileCells cs).length=cs.length*5
 | []=>rfl
 | c::cs=>by
  simp only[fileCells,List.length_cons];rw[fileCells_len cs];omega
theorem fileCells_append: ∀(a b:List FC),fileCells (a++b)=fileCells a++fileCells b
 | [],b=>rfl
 | c::a,b=>by simp [fileCells,fileCells_append a b]
theorem fileCells_at: ∀(cs:List FC) (i:Nat) (hi:i<cs.length),
  (fileCells cs)[i*5]?=some (.string ⟨cs[i].n.toArray⟩)∧(fileCells cs)[i*5+1]?=some (.bool cs[i].f.is)∧(fileCells cs)[i*5+2]?=some cs[i].vb∧(fileCells cs)[i*5+3]?=some cs[i].vl∧(fileCells cs)[i*5+4]?=some (.bool cs[i].f.any)
 | [],i,hi=>by simp at hi
 | c::cs,0,hi=>by simp [fileCells]
 | c::cs,i+1,hi=>by
  have:=fileCells_at cs i (by simpa using hi);simp only[fileCells];rw[show(i+1)*5=i*5+1+1+1+1+1 by omega];simpa using this
structure RDisk (w:World) (B:Nat) (S:Nat→Prop) (g:Nat) (F:List FC):Prop where
 disk: ∃v,w.heap[g]?=some (.cells #[v] 29 (0,0))∧w.ownsRow B 106 5 v F.length (fileCells F)∧ ∀k,v.ownBlock=some k→S k
 files: ∀c∈F,c.At w B S
 apart:F.Pairwise fun c d=> ∀k,c.vl.ownBlock=some k→d.vl.ownBlock≠some k
 hS: ∀k,S k→B≤k∧k<w.heap.size
 hg:S g
section
variable {w w':World} {B g:Nat} {S S':Nat→Prop}
theorem RB.keep {zs:List Int} {v:Value} (h:RB w B S zs v) (hk: ∀k,S k→w'.heap[k]?=w.heap[k]?) (hs: ∀k,S k→S' k):RB w' B S' zs v:=⟨h.1.keep fun k e=>hk k (h.2 k e),fun k e=>hs k (h.2 k e)⟩
theorem FC.At.keep {c:FC} (h:c.At w B S) (hk: ∀k,S k→w'.heap[k]?=w.heap[k]?) (hs: ∀k,S k→S' k):c.At w' B S':=by
 obtain⟨ss,h1,h2,h3⟩:=h.row;exact⟨h.bts.keep hk hs,⟨ss,h1,ownsRow_keep h2 fun k e=>hk k (h.own k e),fun i hi=>(h3 i hi).keep hk hs⟩,fun k e=>hs k (h.own k e)⟩
theorem RDisk.keep {F:List FC} (h:RDisk w B S g F) (hz:w.heap.size≤w'.heap.size) (hk: ∀k,S k→w'.heap[k]?=w.heap[k]?):RDisk w' B S g F:=by
 obtain⟨v,h1,h2,h3⟩:=h.disk;exact⟨⟨v,(hk g h.hg).trans h1,ownsRow_keep h2 fun k e=>hk k (h3 k e),h3⟩,fun c hc=>(h.files c hc).keep hk fun _ h'=>h',h.apart,fun k e=>⟨(h.hS k e).1,Nat.lt_of_lt_of_le (h.hS k e).2 hz⟩,h.hg⟩
theorem RDisk.below {F:List FC} (h:RDisk w B S g F) (hb:Below w.heap.size w w'):RDisk w' B S g F:=h.keep hb.size fun k e=>hb.block k (h.hS k e).2
theorem run_bytes (w:World) {B:Nat} {v u:Value} {xs ys:List Int} {B':Nat} (hv:Row w B xs v) (hu:Row w B' ys u) (hl:xs.length+ys.length≤1000000000000) (hB:B≤w.heap.size):
  ∃v' w',(Builtin.append_ #[39,39] 39 #[v,u]).run Tryz.prog w= .ok v' w'∧Row w' B (xs++ys) v'∧w.grownBy w' v.ownBlock∧(v'.ownBlock=v.ownBlock∨v'.ownBlock=some w.heap.size):=by
 obtain⟨i0,hi,hz0,hz1,hz2⟩:=info_parts info5;obtain⟨a,c,rfl,hn⟩:=slice_shape hu;have hcell: ∀ad,a=some ad→ ∀j x,(ys.map (Value.int .u8))[j]?=some x→w.cell? (ad.add j)=some x:=fun ad e j x hx=>by
  rcases hu.2 with⟨he,_⟩ | ⟨g,cap,cur,he,_,hg,r1,r2,r3,r4⟩
  ·rw[e] at he;cases he
  ·cases e
   cases he;have hj:j<ys.length:=by
    have:=(List.getElem?_eq_some_iff.1 hx).1;simpa using this
   rw[show((⟨g,0,none⟩:Addr).add j)=⟨g,j,none⟩ from by unfold Addr.add;split<;>simp_all,cell_of_row _ _ j _ _ _ hg];rw[←r4,Nat.mul_one,List.getElem?_take_of_lt hj] at hx;rw[←Array.getElem?_toList];exact hx
 obtain⟨v',w',hrun,hown,hg,hlies⟩:=run_append_lies (P:=Tryz.prog) w B 39 39 5 i0 (.int .u8 0) 1 1 Tryz.underlying39 hi hz0 hz1 hz2 rfl (by decide) v xs.length _ hv a ys.length c (ys.map (Value.int .u8)) (by simp) (fun e=>hn e) hcell (fun u hu=>by obtain⟨x,_,rfl⟩:=List.mem_map.1 hu;rfl) (by unfold maxLen;omega) (by omega) hB;refine⟨v',w',hrun,?_,hg,hlies⟩;unfold Row;rw[List.length_append,List.map_append];exact hown
end
end Rd
end Go.Proofs.YtalfbcbnljhldaaGreatDoor
