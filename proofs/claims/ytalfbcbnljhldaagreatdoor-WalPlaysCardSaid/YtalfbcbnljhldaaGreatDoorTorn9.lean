/-  -/
import Derived.Test.YtalfbcbnljhldaaGreatDoorMae
import Derived.Deep.RegionHeld
import Derived.IntWalk
set_option linter.unusedSimpArgs false
namespace Go.Proofs.YtalfbcbnljhldaaGreatDoor
open Go.Lib (hid)
open Go.RowKit Go.Maps Dsk
theorem ver_cells {W:World} {b:Nat} {x y z:Value} {T:TypeId} (h:W.heap[b]?=some (.cells #[x,y,z] T (0,0))):W.cell? ⟨b,0,none⟩=some x∧W.cell? ⟨b,1,none⟩=some y∧W.cell? ⟨b,2,none⟩=some z:=
 ⟨by rw[cell_of_row _ _ 0 _ _ _ h];rfl,by rw[cell_of_row _ _ 1 _ _ _ h];rfl,by rw[cell_of_row _ _ 2 _ _ _ h];rfl⟩
theorem FileAt.at {w:World} {B:Nat} {o:Tags} {n:Name} {c:FV} {f:Fil} (h:FileAt w B o n c f) (i:Nat) (hi:i<f.later.length):
  ∃gl a cp,c.la=some ⟨gl,0,none⟩∧o gl=some (.file n 1)∧w.cell? ⟨gl,i*3,none⟩=some (.bool f.later[i].there)∧w.cell? ⟨gl,i*3+1,none⟩=some (.slice a f.later[i].bs.length cp)∧w.cell? ⟨gl,i*3+2,none⟩=some (.int .i64 f.later[i].whole)∧
   BytesAt w B o (.file n (i+2)) f.later[i].bs (.slice a f.later[i].bs.length cp):=by
 obtain⟨ss,h1,h2,h3,h4⟩:=h.lt;obtain⟨e1,e2,e3⟩:=verCells_at f.later ss i hi h1;obtain⟨a,cp,ha⟩:=(h4 i hi).1.shape;rw[ha] at e2;have hb:=h4 i hi;rw[ha] at hb;rcases h2.2 with⟨_,hn⟩ | ⟨gl,cap,cur,hv,_⟩
 ·omega
 ·have hv':c.la=some ⟨gl,0,none⟩:=by simp only[FV.lt,Value.slice.injEq] at hv;exact hv.1
  have ho:c.lt.ownBlock=some gl:=by rw[hv];rfl
  have hc:=h2.cells ho;have add: ∀j,((⟨gl,0,none⟩:Addr).add j)=⟨gl,j,none⟩:=fun j=>by unfold Addr.add;split<;>simp_all
  have c0:=hc _ _ e1;have c1:=hc _ _ e2;have c2:=hc _ _ e3;rw[add] at c0 c1 c2;exact⟨gl,a,cp,hv',h3 gl ho,c0,c1,c2,hb⟩
theorem Row.cap {w:World} {B:Nat} {zs:List Int} {a:Option Addr} {n c:Nat} (h:Row w B zs (.slice a n c)):zs.length≤c:=by
 rcases h.2 with⟨_,hn⟩ | ⟨g,cap,cur,hv,hB,hg,h1,_⟩
 ·omega
 ·simp only[Value.slice.injEq] at hv
  omega
theorem Row.cut {w:World} {B:Nat} {zs:List Int} {a:Option Addr} {n c k:Nat} (h:Row w B zs (.slice a n c)) (hk:k≤zs.length):Row w B (zs.take k) (.slice a k c):=by
 refine⟨by simp,?_⟩;rcases h.2 with⟨hv,hn⟩ | ⟨g,cap,cur,hv,hB,hg,h1,h2,h3,h4⟩
 ·simp only[Value.slice.injEq] at hv
  obtain⟨rfl,_,rfl⟩:=hv;obtain rfl:k=0:=by omega
  exact .inl ⟨rfl,by simp⟩
 ·simp only[Value.slice.injEq] at hv
  obtain⟨rfl,_,rfl⟩:=hv;refine .inr ⟨g,c,cur,by rw[List.length_take,Nat.min_eq_left hk],hB,hg,by rw[List.length_take];omega,h2,h3,?_⟩;rw[List.length_take,Nat.min_eq_left hk,Nat.mul_one,List.map_take,←h4,List.take_take,Nat.mul_one,Nat.min_eq_left hk]
theorem tornGo_stop (p:Nat) (v x:Ver) (r:List Ver) (h:p≤v.appended):tornGo p v (x::r)=(p,v):=by rw[tornGo,if_pos h]
theorem tornGo_go (p:Nat) (v x:Ver) (r:List Ver) (h: ¬p≤v.appended):tornGo p v (x::r)=tornGo (p - (v.appended+1)) x r:=by rw[tornGo,if_neg h]
def TornAt (w:World) (B:Nat) (o:Tags) (l:Name) (f:Fil) (p0:Nat) (W:World) (p:Nat) (k:Nat) (v:Ver) (a:Option Addr) (c:Nat):Prop:=
 W.heap[w.heap.size+2]?=some (.cells #[.bool v.there,.slice a v.bs.length c,.int .i64 v.whole] 95 (0,0))∧Row w B v.bs (.slice a v.bs.length c)∧(∀j,(Value.slice a v.bs.length c).ownBlock=some j→ ∃i,o j=some (.file l i))∧
  v.ok∧tornGo p v (f.later.drop k)=tornGo p0 f.sure f.later∧Below w.heap.size w W∧w.heap.size+3≤W.heap.size∧W.heap[w.heap.size+1]?=some (.cells #[.bool false,.slice none 0 0,.int .i64 0] 95 (0,0))
theorem torn_end {w W:World} {B:Nat} {o:Tags} {l:Name} {f:Fil} {p0 p ap q c:Nat} {v:Ver} {a:Option Addr} (h:tornGo p0 f.sure f.later=(p,v)) (hap:ap=v.appended) (hq:q=v.whole+min p ap) (hql:q≤v.bs.length)
  (hr:Row w B v.bs (.slice a v.bs.length c)) (ho: ∀j,(Value.slice a v.bs.length c).ownBlock=some j→ ∃i,o j=some (.file l i)) (hb:Below w.heap.size w W):
  ∃a' c',Ending.returned (.agg #[.bool v.there,.slice a q c,.int .i64 v.whole])= .returned (.agg #[.bool (f.torn p0).there,.slice a' (f.torn p0).bs.length c',.int .i64 (f.torn p0).whole])∧Row w B (f.torn p0).bs (.slice a' (f.torn p0).bs.length c')∧
   (∀j,(Value.slice a' (f.torn p0).bs.length c').ownBlock=some j→ ∃i,o j=some (.file l i))∧Below w.heap.size w W:=by
 have hT:f.torn p0=⟨v.there,v.bs.take q,v.whole⟩:=by
  unfold Fil.torn;rw[h];simp only[tornOf];rw[←hap,←hq]
 rw[hT];have hl:(v.bs.take q).length=q:=by rw[List.length_take];omega
 refine⟨a,c,by simp only[hl],?_,?_,hb⟩
 ·simp only[hl]
  exact hr.cut hql
 ·simp only[hl]
  intro j e;refine ho j ?_;cases a with
  | none=>cases e
  | some x=>exact e
set_option maxRecDepth 100000 in
set_option maxHeartbeats 2000000 in
theorem torn_any (B:Nat) (o:Tags) (l:Name) (cc:FV) (f:Fil) (p0:Nat) (w:World) (hf:FileAt w B o l cc f) (hp:p0≤9223372036854775807) (hn:f.later.length<1000000000) (ho: ∀k,o k≠none→k<w.heap.size):
  Calls Tryz.prog 48 #[mkV cc,.int .i64 p0] w fun e w'=> ∃a c,e= .returned (.agg #[.bool (f.torn p0).there,.slice a (f.torn p0).bs.length c,.int .i64 (f.torn p0).whole])∧Row w B (f.torn p0).bs (.slice a (f.torn p0).bs.length c)∧
   (∀j,(Value.slice a (f.torn p0).bs.length c).ownBlock=some j→ ∃i,o j=some (.file l i))∧Below w.heap.size w w':=by
 obtain⟨ft,sa,sn,sc,fwh,la,ln,lc,ls⟩:=cc;have hln:ln=f.later.length:=by
  obtain⟨ss,h1,h2,_⟩:=hf.lt;obtain⟨_,_,e,_⟩:=slice_shape h2;simp only[Value.slice.injEq] at e;exact e.2.1
 have hsn:sn=f.sure.bs.length:=by
  obtain⟨_,_,e⟩:=hf.sb.1.shape;simp only[Value.slice.injEq] at e;exact e.2.1
 obtain rfl:=hf.t;have hwh:=hf.wh;dsimp only at hwh;subst hwh hln hsn;have hs0:TornAt w B o l f p0 (((w.alloc (.cells #[.bool f.sure.there,.slice sa f.sure.bs.length sc,.int .i64 f.sure.whole,.slice la f.later.length lc,.bool ls] 98)).alloc (.cells #[.bool false,.slice none 0 0,.int .i64 0] 95)).alloc (.cells #[.bool f.sure.there,.slice sa f.sure.bs.length sc,.int .i64 f.sure.whole] 95)) p0 0 f.sure sa sc:=by
  refine⟨?_,hf.sb.1,fun j e=>⟨0,hf.sb.2 j e⟩,hf.ok.1,by rw[List.drop_zero],(((Below.refl _ _).alloc (Nat.le_refl _) _).alloc (by simp) _).alloc (by simp;omega) _,by simp,?_⟩
  ·have:=heap_alloc_new ((w.alloc (.cells #[.bool f.sure.there,.slice sa f.sure.bs.length sc,.int .i64 f.sure.whole,.slice la f.later.length lc,.bool ls] 98)).alloc (.cells #[.bool false,.slice none 0 0,.int .i64 0] 95)) (.cells #[.bool f.sure.there,.slice sa f.sure.bs.length sc,.int .i64 f.sure.whole] 95)
   simpa using this
  ·rw[Below.heap_alloc _ _ _ (by simp)]
   have:=heap_alloc_new (w.alloc (.cells #[.bool f.sure.there,.slice sa f.sure.bs.length sc,.int .i64 f.sure.whole,.slice la f.later.length lc,.bool ls] 98)) (.cells #[.bool false,.slice none 0 0,.int .i64 0] 95);simpa using this
 have HS0:=hid hs0;have HF:=hid hf;have HO:=hid ho;clear hs0 hf ho;simp only[mkV];go_enter Tryz.func48,Tryz.ntmps48
 go_wp2
 generalize (((w.alloc (.cells #[.bool f.sure.there,.slice sa f.sure.bs.length sc,.int .i64 f.sure.whole,.slice la f.later.length lc,.bool ls] 98)).alloc (.cells #[.bool false,.slice none 0 0,.int .i64 0] 95)).alloc (.cells #[.bool f.sure.there,.slice sa f.sure.bs.length sc,.int .i64 f.sure.whole] 95))=w0 at*;go_loopw [1,13] (fun pv iv wr=> ∃(k p:Nat) (v:Ver) (a:Option Addr) (c:Nat),k≤f.later.length∧p≤p0∧pv= .int .i64 p∧iv= .int .i64 k∧TornAt w B o l f p0 wr p k v a c) (fun _ iv _=>f.later.length - (intOf iv).toNat)
 case atStart=>exact⟨0,p0,f.sure,sa,sc,Nat.zero_le _,Nat.le_refl _,rfl,rfl,HS0.out⟩
 case round=>
  obtain⟨k,p,v,a,c,hk,hpp,rfl,rfl,hT⟩:=hrel;obtain⟨hvb,hrow,hown,hok,hgo,hbw,hsz,hrb⟩:=hT;have hwl:=hok.1;have hzl:=hok.2.1;have HVB:=hid hvb;have HRW:=hid hrow;have HOW:=hid hown;have HOK:=hid hok;have HBW:=hid hbw;have HRB:=hid hrb;obtain⟨ap,hap⟩: ∃ap,ap=v.bs.length - v.whole:=⟨_,rfl⟩;have HA:=hid (fun W=>appended_any v.there a v.bs.length c v.whole W hwl hzl);rw[←hap] at HA;have hapl:ap≤1048576:=by omega
  have HAP:=hid (show ap=v.appended from hap);have HWL:=hid hwl;have HZL:=hid hzl;clear hwl hzl hap;by_cases hlt:k<f.later.length
  ·obtain⟨gl,xa,xc,rfl,hogl,x0,x1,x2,hxb⟩:=HF.out.at k hlt
   have hgl:=HO.out gl (by rw[hogl];simp);have HXB:=hid hxb;have HGO:=hid hgo;have y0:wr.cell? ⟨gl,k*3,none⟩=some (.bool f.later[k].there):=(hbw.cell (p:=⟨gl,k*3,none⟩) hgl).trans x0;have y1:wr.cell? ⟨gl,k*3+1,none⟩=some (.slice xa f.later[k].bs.length xc):=(hbw.cell (p:=⟨gl,k*3+1,none⟩) hgl).trans x1;have y2:wr.cell? ⟨gl,k*3+2,none⟩=some (.int .i64 f.later[k].whole):=(hbw.cell (p:=⟨gl,k*3+2,none⟩) hgl).trans x2;obtain⟨x,hx⟩: ∃x,x=f.later[k]:=⟨_,rfl⟩;rw[←hx] at y0 y1 y2;have HX:=hid hx;have hb1:Below wr.heap.size wr (wr.alloc (.cells #[.bool x.there,.slice xa x.bs.length xc,.int .i64 x.whole] 95)):=(Below.refl _ _).alloc (Nat.le_refl _) _;have hv1:=(hb1.block (w.heap.size+2) (by omega)).trans hvb;obtain⟨k0,k1,k2⟩:=ver_cells hv1;have HB1:=hid hb1;have HV1:=hid hv1;have HN1:=hid (heap_alloc_new wr (.cells #[.bool x.there,.slice xa x.bs.length xc,.int .i64 x.whole] 95));have HSZ:=hid hsz;clear x0 x1 x2 hxb hx hb1 hv1 hvb hrow hown hok hgo hbw hrb hgl hogl hsz;go_wp2_with fail
   refine(HA.out _).mono ?_;rintro e w1 ⟨rfl,hb1⟩;have hz1:wr.heap.size+1≤w1.heap.size:=by have:=hb1.size;simpa using this
   have hv2:=(hb1.block (w.heap.size+2) (by have:=HSZ.out;simp;omega)).trans HV1.out;have hn2:=(hb1.block wr.heap.size (by simp)).trans HN1.out;have hbw1:=(HBW.out.trans (HB1.out.mono HBW.out.size)).trans (hb1.mono (by have:=HBW.out.size;simp;omega));have hrb1:w1.heap[w.heap.size+1]?=_:=((hb1.block (w.heap.size+1) (by have:=HSZ.out;simp;omega)).trans (HB1.out.block (w.heap.size+1) (by have:=HSZ.out;omega))).trans HRB.out;have HBW1:=hid hbw1;have HV2:=hid hv2;have HN2:=hid hn2;have HRB1:=hid hrb1;have HZ1:=hid hz1;obtain⟨k0,k1,k2⟩:=ver_cells hv2;clear hb1 hv2 hn2 hbw1 hrb1 hz1;by_cases hle:p≤ap
   ·have HEND:Hid (tornGo p0 f.sure f.later=(p,v)):=by
     have h:=HGO.out;rw[List.drop_eq_getElem_cons hlt,tornGo_stop _ _ _ _ (by rw[←HAP.out];exact hle)] at h;exact h.symm
    have hvb:=HV2.out;have HBWF:=HBW1;have HRBF:=HRB1;have HSZF:=hid (show w.heap.size+3≤w1.heap.size by have:=HSZ.out;have:=HZ1.out;omega);clear k0 k1 k2 y0 y1 y2;go_wp2_with fail
    generalize w1=W at*;have hcap:v.bs.length≤c:=HRW.out.cap;obtain⟨q,hqe⟩: ∃q,q=v.whole+min p ap:=⟨_,rfl⟩;have hq0:q≤v.bs.length:=by have:=HWL.out;have h2:=HAP.out;unfold Ver.appended at h2;omega
    have hql:(q:Int)≤(c:Int):=by omega
    have hqw:IntKind.i64.wrap ((v.whole:Int)+min (p:Int) (ap:Int))=(q:Int):=by
     have h1:(v.whole:Int)+min (p:Int) (ap:Int)=(q:Int):=by omega
     rw[h1];exact IntWalk.i64_in _ (by have:=HZL.out;omega)
    have HQE:=hid hqe;have HQ0:=hid hq0;clear hqe hq0 hcap;have HVS:=hid (show w.heap.size+2<W.heap.size by have:=HSZF.out;omega);refine wp_region_held_drew (S:=fun W=> ∃u,W.heap[w.heap.size+2]?=some (.cells #[.bool v.there,u,.int .i64 v.whole] 95 (0,0))) (by kernel_rfl) ⟨_,hvb⟩ (fun hHeld=>?_);refine zkH 0 (v:=?_) (h2:=?_) (h:=?_);rotate_left;focus (intro W hS;(try dsimp only at hS);obtain⟨u,hu⟩:=hS;obtain⟨k0,k1,k2⟩:=ver_cells hu;go_simp;(try with_reducible rfl))
    try simp only[Act.put,zsA,zsS,zsZ]
    refine zkH 2 (v:=?_) (h2:=?_) (h:=?_);rotate_left;focus (intro W hS;(try dsimp only at hS);obtain⟨u,hu⟩:=hS;obtain⟨k0,k1,k2⟩:=ver_cells hu;go_simp;(try with_reducible rfl))
    try simp only[Act.put,zsA,zsS,zsZ]
    refine zkH 4 (v:=?_) (h2:=?_) (h:=?_);rotate_left;focus (intro W hS;(try dsimp only at hS);obtain⟨u,hu⟩:=hS;obtain⟨k0,k1,k2⟩:=ver_cells hu;go_simp;(try with_reducible rfl))
    try simp only[Act.put,zsA,zsS,zsZ]
    refine zkH 3 (v:=?_) (h2:=?_) (h:=?_);rotate_left;focus (intro W hS;(try dsimp only at hS);obtain⟨u,hu⟩:=hS;obtain⟨k0,k1,k2⟩:=ver_cells hu;go_simp;(try with_reducible rfl))
    try simp only[Act.put,zsA,zsS,zsZ]
    refine wpAnyH_ready (rs:= [1,5]) (by kernel_rfl) (by simp) ?_;refine AllReadyH.cons (o:=?o1a) ?h1a (fun K hK=>?s1a) (AllReadyH.cons (o:=?o1b) ?h1b (fun K hK=>?s1b) AllReadyH.nil)
    case h1a=>simp only[List.getElem?_toArray,List.getElem?_cons_succ,List.getElem?_cons_zero];rfl
    case h1b=>simp only[List.getElem?_toArray,List.getElem?_cons_succ,List.getElem?_cons_zero];rfl
    case s1a=>
     rw[if_pos (by rfl)];obtain⟨k0,k1,k2⟩:=ver_cells hvb;go_simp
     refine hK.out _ _ ⟨_,hvb⟩ (fun hHeld=>?_);clear hK K k0 k1 k2;try simp only[Act.put,zsA,zsS,zsZ]
     refine zrH 5 (h:=fun K hK=>?_);rw[if_pos (by rfl)];obtain⟨k0,k1,k2⟩:=ver_cells hvb;go_simp
     refine hK.out _ _ ⟨_,hvb⟩ (fun hHeld=>?_);clear hK K k0 k1 k2;try simp only[Act.put,zsA,zsS,zsZ]
     refine zrH 6 (h:=fun K hK=>?_);rw[if_pos (by rfl)];go_simp
     with_reducible refine(HA.out _).mono ?_
     rintro e w4 ⟨rfl,hb4⟩;have hvb4:=(hb4.block (w.heap.size+2) HVS.out).trans hvb;have HB4:=hid hb4;clear hb4;go_wp2_with fail
     refine hK.out _ _ ⟨_,hvb4⟩ (fun hHeld=>?_);clear hK K;try simp only[Act.put,zsA,zsS,zsZ]
     refine zkH 7 (v:=?_) (h2:=?_) (h:=?_);rotate_left;focus (intro W hS;(try dsimp only at hS);obtain⟨u,hu⟩:=hS;obtain⟨k0,k1,k2⟩:=ver_cells hu;go_simp;(try with_reducible rfl))
     try simp only[Act.put,zsA,zsS,zsZ]
     refine zkH 8 (v:=?_) (h2:=?_) (h:=?_);rotate_left;focus (intro W hS;(try dsimp only at hS);obtain⟨u,hu⟩:=hS;obtain⟨k0,k1,k2⟩:=ver_cells hu;go_simp;(try with_reducible rfl))
     try simp only[Act.put,zsA,zsS,zsZ]
     refine zkH 9 (v:=?_) (h2:=?_) (h:=?_);rotate_left;focus (intro W hS;(try dsimp only at hS);obtain⟨u,hu⟩:=hS;obtain⟨k0,k1,k2⟩:=ver_cells hu;go_simp;(try with_reducible rfl))
     try simp only[Act.put,zsA,zsS,zsZ]
     refine zkH 10 (v:=?_) (h2:=?_) (h:=?_);rotate_left;focus (intro W hS;(try dsimp only at hS);obtain⟨u,hu⟩:=hS;obtain⟨k0,k1,k2⟩:=ver_cells hu;go_simp;(try with_reducible rfl))
     try simp only[Act.put,zsA,zsS,zsZ]
     refine zrH 11 (h:=fun K hK=>?_);rw[if_pos (by rfl)];obtain⟨k0,k1,k2⟩:=ver_cells hvb4;have f1:=frozen_row (i:=1) hvb4;have hvb5:(w4.setCell ⟨w.heap.size+2,1,none⟩ (.slice a q c)).heap[w.heap.size+2]?=some (.cells #[.bool v.there,.slice a q c,.int .i64 v.whole] 95 (0,0)):=cells_set hvb4 1 _;go_simp
     refine hK.out _ _ ⟨_,hvb5⟩ (fun hHeld=>?_);clear hK K k0 k1 k2 f1;try simp only[Act.put,zsA,zsS,zsZ]
     refine wpAnyH_done (by kernel_rfl) ?_ _;have hB5:Below w.heap.size w (w4.setCell ⟨w.heap.size+1+1,1,none⟩ (.slice a q c)):=(HBWF.out.drew.trans (HB4.out.mono HBWF.out.size)).setCell (by show _≤w.heap.size+2;omega) _;have hr5:(w4.setCell ⟨w.heap.size+1+1,1,none⟩ (.slice a q c)).heap[w.heap.size+1]?=some (.cells #[.bool false,.slice none 0 0,.int .i64 0] 95 (0,0)):=by
      rw[Below.heap_setCell _ _ _ _ (by simp)];exact(HB4.out.block _ (by show w.heap.size+1<W.heap.size;have:=HSZF.out;omega)).trans HRBF.out
     have hvb6:(w4.setCell ⟨w.heap.size+1+1,1,none⟩ (.slice a q c)).heap[w.heap.size+2]?=some (.cells #[.bool v.there,.slice a q c,.int .i64 v.whole] 95 (0,0)):=hvb5;generalize (w4.setCell ⟨w.heap.size+1+1,1,none⟩ (.slice a q c))=w5 at*;obtain⟨k0,k1,k2⟩:=ver_cells hvb6;obtain⟨r0,r1,r2⟩:=ver_cells hr5;have f0:=frozen_row (i:=0) hr5;have f1:=frozen_row (i:=1) hr5;have f2:=frozen_row (i:=2) hr5;have hB6:=((hB5.setCell (p:=⟨w.heap.size+1,0,none⟩) (by show _≤w.heap.size+1;omega) (.bool v.there)).setCell (p:=⟨w.heap.size+1,1,none⟩) (by show _≤w.heap.size+1;omega) (.slice a q c)).setCell (p:=⟨w.heap.size+1,2,none⟩) (by show _≤w.heap.size+1;omega) (.int .i64 v.whole);have hs6:((((w5.setCell ⟨w.heap.size+1,0,none⟩ (.bool v.there)).setCell ⟨w.heap.size+1,1,none⟩ (.slice a q c)).setCell ⟨w.heap.size+1,2,none⟩ (.int .i64 v.whole))).heap[w.heap.size+1]?=some (.cells #[.bool v.there,.slice a q c,.int .i64 v.whole] 95 (0,0)):=cells_set (cells_set (cells_set hr5 0 _) 1 _) 2 _;have HB6:=hid hB6;have HS6:=hid hs6;clear hvb hvb4 hvb5 hvb6 hr5 hB5 hB6 hs6;go_wp2
     obtain⟨z0,z1,z2⟩:=ver_cells HS6.out;generalize (((w5.setCell ⟨w.heap.size+1,0,none⟩ (.bool v.there)).setCell ⟨w.heap.size+1,1,none⟩ (.slice a q c)).setCell ⟨w.heap.size+1,2,none⟩ (.int .i64 v.whole))=w6 at*;clear k0 k1 k2 r0 r1 r2 f0 f1 f2;refine bodyPost_ret (v:= .agg #[.bool v.there,.slice a q c,.int .i64 v.whole]) ?_ rfl (torn_end HEND.out HAP.out HQE.out HQ0.out HRW.out HOW.out HB6.out);simp [results,Tryz.results48,go_sem,z0,z1,z2]
    case s1b=>
     rw[if_pos (by rfl)];obtain⟨k0,k1,k2⟩:=ver_cells hvb;go_simp
     refine hK.out _ _ ⟨_,hvb⟩ (fun hHeld=>?_);clear hK K k0 k1 k2;try simp only[Act.put,zsA,zsS,zsZ]
     refine wpAnyH_ready (rs:= [1,6]) (by kernel_rfl) (by simp) ?_;refine AllReadyH.cons (o:=?o2a) ?h2a (fun K hK=>?s2a) (AllReadyH.cons (o:=?o2b) ?h2b (fun K hK=>?s2b) AllReadyH.nil)
     case h2a=>simp only[List.getElem?_toArray,List.getElem?_cons_succ,List.getElem?_cons_zero];rfl
     case h2b=>simp only[List.getElem?_toArray,List.getElem?_cons_succ,List.getElem?_cons_zero];rfl
     case s2a=>
      rw[if_pos (by rfl)];obtain⟨k0,k1,k2⟩:=ver_cells hvb;go_simp
      refine hK.out _ _ ⟨_,hvb⟩ (fun hHeld=>?_);clear hK K k0 k1 k2;try simp only[Act.put,zsA,zsS,zsZ]
      refine zrH 6 (h:=fun K hK=>?_);rw[if_pos (by rfl)];go_simp
      with_reducible refine(HA.out _).mono ?_
      rintro e w4 ⟨rfl,hb4⟩;have hvb4:=(hb4.block (w.heap.size+2) HVS.out).trans hvb;have HB4:=hid hb4;clear hb4;go_wp2_with fail
      refine hK.out _ _ ⟨_,hvb4⟩ (fun hHeld=>?_);clear hK K;try simp only[Act.put,zsA,zsS,zsZ]
      refine zkH 7 (v:=?_) (h2:=?_) (h:=?_);rotate_left;focus (intro W hS;(try dsimp only at hS);obtain⟨u,hu⟩:=hS;obtain⟨k0,k1,k2⟩:=ver_cells hu;go_simp;(try with_reducible rfl))
      try simp only[Act.put,zsA,zsS,zsZ]
      refine zkH 8 (v:=?_) (h2:=?_) (h:=?_);rotate_left;focus (intro W hS;(try dsimp only at hS);obtain⟨u,hu⟩:=hS;obtain⟨k0,k1,k2⟩:=ver_cells hu;go_simp;(try with_reducible rfl))
      try simp only[Act.put,zsA,zsS,zsZ]
      refine zkH 9 (v:=?_) (h2:=?_) (h:=?_);rotate_left;focus (intro W hS;(try dsimp only at hS);obtain⟨u,hu⟩:=hS;obtain⟨k0,k1,k2⟩:=ver_cells hu;go_simp;(try with_reducible rfl))
      try simp only[Act.put,zsA,zsS,zsZ]
      refine zkH 10 (v:=?_) (h2:=?_) (h:=?_);rotate_left;focus (intro W hS;(try dsimp only at hS);obtain⟨u,hu⟩:=hS;obtain⟨k0,k1,k2⟩:=ver_cells hu;go_simp;(try with_reducible rfl))
      try simp only[Act.put,zsA,zsS,zsZ]
      refine zrH 11 (h:=fun K hK=>?_);rw[if_pos (by rfl)];obtain⟨k0,k1,k2⟩:=ver_cells hvb4;have f1:=frozen_row (i:=1) hvb4;have hvb5:(w4.setCell ⟨w.heap.size+2,1,none⟩ (.slice a q c)).heap[w.heap.size+2]?=some (.cells #[.bool v.there,.slice a q c,.int .i64 v.whole] 95 (0,0)):=cells_set hvb4 1 _;go_simp
      refine hK.out _ _ ⟨_,hvb5⟩ (fun hHeld=>?_);clear hK K k0 k1 k2 f1;try simp only[Act.put,zsA,zsS,zsZ]
      refine wpAnyH_done (by kernel_rfl) ?_ _;have hB5:Below w.heap.size w (w4.setCell ⟨w.heap.size+1+1,1,none⟩ (.slice a q c)):=(HBWF.out.drew.trans (HB4.out.mono HBWF.out.size)).setCell (by show _≤w.heap.size+2;omega) _;have hr5:(w4.setCell ⟨w.heap.size+1+1,1,none⟩ (.slice a q c)).heap[w.heap.size+1]?=some (.cells #[.bool false,.slice none 0 0,.int .i64 0] 95 (0,0)):=by
       rw[Below.heap_setCell _ _ _ _ (by simp)];exact(HB4.out.block _ (by show w.heap.size+1<W.heap.size;have:=HSZF.out;omega)).trans HRBF.out
      have hvb6:(w4.setCell ⟨w.heap.size+1+1,1,none⟩ (.slice a q c)).heap[w.heap.size+2]?=some (.cells #[.bool v.there,.slice a q c,.int .i64 v.whole] 95 (0,0)):=hvb5;generalize (w4.setCell ⟨w.heap.size+1+1,1,none⟩ (.slice a q c))=w5 at*;obtain⟨k0,k1,k2⟩:=ver_cells hvb6;obtain⟨r0,r1,r2⟩:=ver_cells hr5;have f0:=frozen_row (i:=0) hr5;have f1:=frozen_row (i:=1) hr5;have f2:=frozen_row (i:=2) hr5;have hB6:=((hB5.setCell (p:=⟨w.heap.size+1,0,none⟩) (by show _≤w.heap.size+1;omega) (.bool v.there)).setCell (p:=⟨w.heap.size+1,1,none⟩) (by show _≤w.heap.size+1;omega) (.slice a q c)).setCell (p:=⟨w.heap.size+1,2,none⟩) (by show _≤w.heap.size+1;omega) (.int .i64 v.whole);have hs6:((((w5.setCell ⟨w.heap.size+1,0,none⟩ (.bool v.there)).setCell ⟨w.heap.size+1,1,none⟩ (.slice a q c)).setCell ⟨w.heap.size+1,2,none⟩ (.int .i64 v.whole))).heap[w.heap.size+1]?=some (.cells #[.bool v.there,.slice a q c,.int .i64 v.whole] 95 (0,0)):=cells_set (cells_set (cells_set hr5 0 _) 1 _) 2 _;have HB6:=hid hB6;have HS6:=hid hs6;clear hvb hvb4 hvb5 hvb6 hr5 hB5 hB6 hs6;go_wp2
      obtain⟨z0,z1,z2⟩:=ver_cells HS6.out;generalize (((w5.setCell ⟨w.heap.size+1,0,none⟩ (.bool v.there)).setCell ⟨w.heap.size+1,1,none⟩ (.slice a q c)).setCell ⟨w.heap.size+1,2,none⟩ (.int .i64 v.whole))=w6 at*;clear k0 k1 k2 r0 r1 r2 f0 f1 f2;refine bodyPost_ret (v:= .agg #[.bool v.there,.slice a q c,.int .i64 v.whole]) ?_ rfl (torn_end HEND.out HAP.out HQE.out HQ0.out HRW.out HOW.out HB6.out);simp [results,Tryz.results48,go_sem,z0,z1,z2]
     case s2b=>
      rw[if_pos (by rfl)];go_simp
      with_reducible refine(HA.out _).mono ?_
      rintro e w4 ⟨rfl,hb4⟩;have hvb4:=(hb4.block (w.heap.size+2) HVS.out).trans hvb;have HB4:=hid hb4;clear hb4;go_wp2_with fail
      refine hK.out _ _ ⟨_,hvb4⟩ (fun hHeld=>?_);clear hK K;try simp only[Act.put,zsA,zsS,zsZ]
      refine zkH 7 (v:=?_) (h2:=?_) (h:=?_);rotate_left;focus (intro W hS;(try dsimp only at hS);obtain⟨u,hu⟩:=hS;obtain⟨k0,k1,k2⟩:=ver_cells hu;go_simp;(try with_reducible rfl))
      try simp only[Act.put,zsA,zsS,zsZ]
      refine zkH 8 (v:=?_) (h2:=?_) (h:=?_);rotate_left;focus (intro W hS;(try dsimp only at hS);obtain⟨u,hu⟩:=hS;obtain⟨k0,k1,k2⟩:=ver_cells hu;go_simp;(try with_reducible rfl))
      try simp only[Act.put,zsA,zsS,zsZ]
      refine zrH 1 (h:=fun K hK=>?_);rw[if_pos (by rfl)];obtain⟨k0,k1,k2⟩:=ver_cells hvb4;go_simp
      refine hK.out _ _ ⟨_,hvb4⟩ (fun hHeld=>?_);clear hK K k0 k1 k2;try simp only[Act.put,zsA,zsS,zsZ]
      refine zkH 9 (v:=?_) (h2:=?_) (h:=?_);rotate_left;focus (intro W hS;(try dsimp only at hS);obtain⟨u,hu⟩:=hS;obtain⟨k0,k1,k2⟩:=ver_cells hu;go_simp;(try with_reducible rfl))
      try simp only[Act.put,zsA,zsS,zsZ]
      refine zkH 10 (v:=?_) (h2:=?_) (h:=?_);rotate_left;focus (intro W hS;(try dsimp only at hS);obtain⟨u,hu⟩:=hS;obtain⟨k0,k1,k2⟩:=ver_cells hu;go_simp;(try with_reducible rfl))
      try simp only[Act.put,zsA,zsS,zsZ]
      refine zrH 11 (h:=fun K hK=>?_);rw[if_pos (by rfl)];obtain⟨k0,k1,k2⟩:=ver_cells hvb4;have f1:=frozen_row (i:=1) hvb4;have hvb5:(w4.setCell ⟨w.heap.size+2,1,none⟩ (.slice a q c)).heap[w.heap.size+2]?=some (.cells #[.bool v.there,.slice a q c,.int .i64 v.whole] 95 (0,0)):=cells_set hvb4 1 _;go_simp
      refine hK.out _ _ ⟨_,hvb5⟩ (fun hHeld=>?_);clear hK K k0 k1 k2 f1;try simp only[Act.put,zsA,zsS,zsZ]
      refine wpAnyH_done (by kernel_rfl) ?_ _;have hB5:Below w.heap.size w (w4.setCell ⟨w.heap.size+1+1,1,none⟩ (.slice a q c)):=(HBWF.out.drew.trans (HB4.out.mono HBWF.out.size)).setCell (by show _≤w.heap.size+2;omega) _;have hr5:(w4.setCell ⟨w.heap.size+1+1,1,none⟩ (.slice a q c)).heap[w.heap.size+1]?=some (.cells #[.bool false,.slice none 0 0,.int .i64 0] 95 (0,0)):=by
       rw[Below.heap_setCell _ _ _ _ (by simp)];exact(HB4.out.block _ (by show w.heap.size+1<W.heap.size;have:=HSZF.out;omega)).trans HRBF.out
      have hvb6:(w4.setCell ⟨w.heap.size+1+1,1,none⟩ (.slice a q c)).heap[w.heap.size+2]?=some (.cells #[.bool v.there,.slice a q c,.int .i64 v.whole] 95 (0,0)):=hvb5;generalize (w4.setCell ⟨w.heap.size+1+1,1,none⟩ (.slice a q c))=w5 at*;obtain⟨k0,k1,k2⟩:=ver_cells hvb6;obtain⟨r0,r1,r2⟩:=ver_cells hr5;have f0:=frozen_row (i:=0) hr5;have f1:=frozen_row (i:=1) hr5;have f2:=frozen_row (i:=2) hr5;have hB6:=((hB5.setCell (p:=⟨w.heap.size+1,0,none⟩) (by show _≤w.heap.size+1;omega) (.bool v.there)).setCell (p:=⟨w.heap.size+1,1,none⟩) (by show _≤w.heap.size+1;omega) (.slice a q c)).setCell (p:=⟨w.heap.size+1,2,none⟩) (by show _≤w.heap.size+1;omega) (.int .i64 v.whole);have hs6:((((w5.setCell ⟨w.heap.size+1,0,none⟩ (.bool v.there)).setCell ⟨w.heap.size+1,1,none⟩ (.slice a q c)).setCell ⟨w.heap.size+1,2,none⟩ (.int .i64 v.whole))).heap[w.heap.size+1]?=some (.cells #[.bool v.there,.slice a q c,.int .i64 v.whole] 95 (0,0)):=cells_set (cells_set (cells_set hr5 0 _) 1 _) 2 _;have HB6:=hid hB6;have HS6:=hid hs6;clear hvb hvb4 hvb5 hvb6 hr5 hB5 hB6 hs6;go_wp2
      obtain⟨z0,z1,z2⟩:=ver_cells HS6.out;generalize (((w5.setCell ⟨w.heap.size+1,0,none⟩ (.bool v.there)).setCell ⟨w.heap.size+1,1,none⟩ (.slice a q c)).setCell ⟨w.heap.size+1,2,none⟩ (.int .i64 v.whole))=w6 at*;clear k0 k1 k2 r0 r1 r2 f0 f1 f2;refine bodyPost_ret (v:= .agg #[.bool v.there,.slice a q c,.int .i64 v.whole]) ?_ rfl (torn_end HEND.out HAP.out HQE.out HQ0.out HRW.out HOW.out HB6.out);simp [results,Tryz.results48,go_sem,z0,z1,z2]
   ·have hlt2:ap<p:=by omega
    have hp2:(p:Int)≤9223372036854775807:=by omega
    have HEQ:Hid ((p:Int) - ((ap:Int)+1)=((p - (ap+1):Nat):Int)):=by unfold Hid;omega
    go_wp2_with fail
    refine(HA.out _).mono ?_;rintro e w2 ⟨rfl,hb2⟩;have hv3:=(hb2.block (w.heap.size+2) (by have:=HSZ.out;have:=HZ1.out;omega)).trans HV2.out;have hn3:=(hb2.block wr.heap.size (by have:=HZ1.out;omega)).trans HN2.out;have hbw2:=HBW1.out.trans (hb2.mono HBW1.out.size);have hrb2:=(hb2.block (w.heap.size+1) (by have:=HSZ.out;have:=HZ1.out;omega)).trans HRB1.out;have hz2:=hb2.size;have HBW2:=hid hbw2;have HV3:=hid hv3;have HRB2:=hid hrb2;have HZ2:=hid hz2;obtain⟨k0,k1,k2⟩:=ver_cells hv3;obtain⟨n0,n1,n2⟩:=ver_cells hn3;have f0:=frozen_row (i:=0) hv3;have f1:=frozen_row (i:=1) hv3;have f2:=frozen_row (i:=2) hv3;clear hb2 hv3 hn3 hbw2 hrb2 hz2 y0 y1 y2;go_wp2
    go_roundw
    case rel=>
     refine⟨k+1,p - (ap+1),x,xa,xc,by omega,by omega,by rw[HEQ.out],by go_num,?_,by rw[HX.out];exact HXB.out.1,fun j e=>⟨k+2,HXB.out.2 j (by rw[←HX.out];exact e)⟩,by rw[HX.out];exact HF.out.ok.2 _ (List.getElem_mem hlt),?_,?_,?_,?_⟩
     ·exact cells_set (cells_set (cells_set HV3.out 0 _) 1 _) 2 _
     ·have h:=HGO.out
      rw[List.drop_eq_getElem_cons hlt,tornGo_go _ _ _ _ (by rw[←HAP.out];exact hle),←HAP.out,←HX.out] at h;exact h
     ·exact((HBW2.out.setCell (by show _≤w.heap.size+2;omega) _).setCell (by show _≤w.heap.size+2;omega) _).setCell (by show _≤w.heap.size+2;omega) _
     ·have:=HSZ.out;have:=HZ1.out;have:=HZ2.out;simp [World.setCell];omega
     ·rw[Below.heap_setCell _ _ _ _ (by simp),Below.heap_setCell _ _ _ _ (by simp),Below.heap_setCell _ _ _ _ (by simp)]
      exact HRB2.out
    case measure=>simp [intOf];omega
  ·have HEND:Hid (tornGo p0 f.sure f.later=(p,v)):=by
    have h:=hgo;rw[List.drop_of_length_le (by omega)] at h;exact h.symm
   have HBWF:=HBW;have HRBF:=HRB;have HSZF:=hid hsz;obtain rfl:k=f.later.length:=by omega
   clear hrow hown hok hgo hbw hrb hsz hlt hk;go_wp2_with fail
   generalize wr=W at*;have hcap:v.bs.length≤c:=HRW.out.cap;obtain⟨q,hqe⟩: ∃q,q=v.whole+min p ap:=⟨_,rfl⟩;have hq0:q≤v.bs.length:=by have:=HWL.out;have h2:=HAP.out;unfold Ver.appended at h2;omega
   have hql:(q:Int)≤(c:Int):=by omega
   have hqw:IntKind.i64.wrap ((v.whole:Int)+min (p:Int) (ap:Int))=(q:Int):=by
    have h1:(v.whole:Int)+min (p:Int) (ap:Int)=(q:Int):=by omega
    rw[h1];exact IntWalk.i64_in _ (by have:=HZL.out;omega)
   have HQE:=hid hqe;have HQ0:=hid hq0;clear hqe hq0 hcap;have HVS:=hid (show w.heap.size+2<W.heap.size by have:=HSZF.out;omega);refine wp_region_held_drew (S:=fun W=> ∃u,W.heap[w.heap.size+2]?=some (.cells #[.bool v.there,u,.int .i64 v.whole] 95 (0,0))) (by kernel_rfl) ⟨_,hvb⟩ (fun hHeld=>?_);refine zkH 0 (v:=?_) (h2:=?_) (h:=?_);rotate_left;focus (intro W hS;(try dsimp only at hS);obtain⟨u,hu⟩:=hS;obtain⟨k0,k1,k2⟩:=ver_cells hu;go_simp;(try with_reducible rfl))
   try simp only[Act.put,zsA,zsS,zsZ]
   refine zkH 2 (v:=?_) (h2:=?_) (h:=?_);rotate_left;focus (intro W hS;(try dsimp only at hS);obtain⟨u,hu⟩:=hS;obtain⟨k0,k1,k2⟩:=ver_cells hu;go_simp;(try with_reducible rfl))
   try simp only[Act.put,zsA,zsS,zsZ]
   refine zkH 4 (v:=?_) (h2:=?_) (h:=?_);rotate_left;focus (intro W hS;(try dsimp only at hS);obtain⟨u,hu⟩:=hS;obtain⟨k0,k1,k2⟩:=ver_cells hu;go_simp;(try with_reducible rfl))
   try simp only[Act.put,zsA,zsS,zsZ]
   refine zkH 3 (v:=?_) (h2:=?_) (h:=?_);rotate_left;focus (intro W hS;(try dsimp only at hS);obtain⟨u,hu⟩:=hS;obtain⟨k0,k1,k2⟩:=ver_cells hu;go_simp;(try with_reducible rfl))
   try simp only[Act.put,zsA,zsS,zsZ]
   refine wpAnyH_ready (rs:= [1,5]) (by kernel_rfl) (by simp) ?_;refine AllReadyH.cons (o:=?o3a) ?h3a (fun K hK=>?s3a) (AllReadyH.cons (o:=?o3b) ?h3b (fun K hK=>?s3b) AllReadyH.nil)
   case h3a=>simp only[List.getElem?_toArray,List.getElem?_cons_succ,List.getElem?_cons_zero];rfl
   case h3b=>simp only[List.getElem?_toArray,List.getElem?_cons_succ,List.getElem?_cons_zero];rfl
   case s3a=>
    rw[if_pos (by rfl)];obtain⟨k0,k1,k2⟩:=ver_cells hvb;go_simp
    refine hK.out _ _ ⟨_,hvb⟩ (fun hHeld=>?_);clear hK K k0 k1 k2;try simp only[Act.put,zsA,zsS,zsZ]
    refine zrH 5 (h:=fun K hK=>?_);rw[if_pos (by rfl)];obtain⟨k0,k1,k2⟩:=ver_cells hvb;go_simp
    refine hK.out _ _ ⟨_,hvb⟩ (fun hHeld=>?_);clear hK K k0 k1 k2;try simp only[Act.put,zsA,zsS,zsZ]
    refine zrH 6 (h:=fun K hK=>?_);rw[if_pos (by rfl)];go_simp
    with_reducible refine(HA.out _).mono ?_
    rintro e w4 ⟨rfl,hb4⟩;have hvb4:=(hb4.block (w.heap.size+2) HVS.out).trans hvb;have HB4:=hid hb4;clear hb4;go_wp2_with fail
    refine hK.out _ _ ⟨_,hvb4⟩ (fun hHeld=>?_);clear hK K;try simp only[Act.put,zsA,zsS,zsZ]
    refine zkH 7 (v:=?_) (h2:=?_) (h:=?_);rotate_left;focus (intro W hS;(try dsimp only at hS);obtain⟨u,hu⟩:=hS;obtain⟨k0,k1,k2⟩:=ver_cells hu;go_simp;(try with_reducible rfl))
    try simp only[Act.put,zsA,zsS,zsZ]
    refine zkH 8 (v:=?_) (h2:=?_) (h:=?_);rotate_left;focus (intro W hS;(try dsimp only at hS);obtain⟨u,hu⟩:=hS;obtain⟨k0,k1,k2⟩:=ver_cells hu;go_simp;(try with_reducible rfl))
    try simp only[Act.put,zsA,zsS,zsZ]
    refine zkH 9 (v:=?_) (h2:=?_) (h:=?_);rotate_left;focus (intro W hS;(try dsimp only at hS);obtain⟨u,hu⟩:=hS;obtain⟨k0,k1,k2⟩:=ver_cells hu;go_simp;(try with_reducible rfl))
    try simp only[Act.put,zsA,zsS,zsZ]
    refine zkH 10 (v:=?_) (h2:=?_) (h:=?_);rotate_left;focus (intro W hS;(try dsimp only at hS);obtain⟨u,hu⟩:=hS;obtain⟨k0,k1,k2⟩:=ver_cells hu;go_simp;(try with_reducible rfl))
    try simp only[Act.put,zsA,zsS,zsZ]
    refine zrH 11 (h:=fun K hK=>?_);rw[if_pos (by rfl)];obtain⟨k0,k1,k2⟩:=ver_cells hvb4;have f1:=frozen_row (i:=1) hvb4;have hvb5:(w4.setCell ⟨w.heap.size+2,1,none⟩ (.slice a q c)).heap[w.heap.size+2]?=some (.cells #[.bool v.there,.slice a q c,.int .i64 v.whole] 95 (0,0)):=cells_set hvb4 1 _;go_simp
    refine hK.out _ _ ⟨_,hvb5⟩ (fun hHeld=>?_);clear hK K k0 k1 k2 f1;try simp only[Act.put,zsA,zsS,zsZ]
    refine wpAnyH_done (by kernel_rfl) ?_ _;have hB5:Below w.heap.size w (w4.setCell ⟨w.heap.size+1+1,1,none⟩ (.slice a q c)):=(HBWF.out.drew.trans (HB4.out.mono HBWF.out.size)).setCell (by show _≤w.heap.size+2;omega) _;have hr5:(w4.setCell ⟨w.heap.size+1+1,1,none⟩ (.slice a q c)).heap[w.heap.size+1]?=some (.cells #[.bool false,.slice none 0 0,.int .i64 0] 95 (0,0)):=by
     rw[Below.heap_setCell _ _ _ _ (by simp)];exact(HB4.out.block _ (by show w.heap.size+1<W.heap.size;have:=HSZF.out;omega)).trans HRBF.out
    have hvb6:(w4.setCell ⟨w.heap.size+1+1,1,none⟩ (.slice a q c)).heap[w.heap.size+2]?=some (.cells #[.bool v.there,.slice a q c,.int .i64 v.whole] 95 (0,0)):=hvb5;generalize (w4.setCell ⟨w.heap.size+1+1,1,none⟩ (.slice a q c))=w5 at*;obtain⟨k0,k1,k2⟩:=ver_cells hvb6;obtain⟨r0,r1,r2⟩:=ver_cells hr5;have f0:=frozen_row (i:=0) hr5;have f1:=frozen_row (i:=1) hr5;have f2:=frozen_row (i:=2) hr5;have hB6:=((hB5.setCell (p:=⟨w.heap.size+1,0,none⟩) (by show _≤w.heap.size+1;omega) (.bool v.there)).setCell (p:=⟨w.heap.size+1,1,none⟩) (by show _≤w.heap.size+1;omega) (.slice a q c)).setCell (p:=⟨w.heap.size+1,2,none⟩) (by show _≤w.heap.size+1;omega) (.int .i64 v.whole);have hs6:((((w5.setCell ⟨w.heap.size+1,0,none⟩ (.bool v.there)).setCell ⟨w.heap.size+1,1,none⟩ (.slice a q c)).setCell ⟨w.heap.size+1,2,none⟩ (.int .i64 v.whole))).heap[w.heap.size+1]?=some (.cells #[.bool v.there,.slice a q c,.int .i64 v.whole] 95 (0,0)):=cells_set (cells_set (cells_set hr5 0 _) 1 _) 2 _;have HB6:=hid hB6;have HS6:=hid hs6;clear hvb hvb4 hvb5 hvb6 hr5 hB5 hB6 hs6;go_wp2
    obtain⟨z0,z1,z2⟩:=ver_cells HS6.out;generalize (((w5.setCell ⟨w.heap.size+1,0,none⟩ (.bool v.there)).setCell ⟨w.heap.size+1,1,none⟩ (.slice a q c)).setCell ⟨w.heap.size+1,2,none⟩ (.int .i64 v.whole))=w6 at*;clear k0 k1 k2 r0 r1 r2 f0 f1 f2;refine bodyPost_ret (v:= .agg #[.bool v.there,.slice a q c,.int .i64 v.whole]) ?_ rfl (torn_end HEND.out HAP.out HQE.out HQ0.out HRW.out HOW.out HB6.out);simp [results,Tryz.results48,go_sem,z0,z1,z2]
   case s3b=>
    rw[if_pos (by rfl)];obtain⟨k0,k1,k2⟩:=ver_cells hvb;go_simp
    refine hK.out _ _ ⟨_,hvb⟩ (fun hHeld=>?_);clear hK K k0 k1 k2;try simp only[Act.put,zsA,zsS,zsZ]
    refine wpAnyH_ready (rs:= [1,6]) (by kernel_rfl) (by simp) ?_;refine AllReadyH.cons (o:=?o4a) ?h4a (fun K hK=>?s4a) (AllReadyH.cons (o:=?o4b) ?h4b (fun K hK=>?s4b) AllReadyH.nil)
    case h4a=>simp only[List.getElem?_toArray,List.getElem?_cons_succ,List.getElem?_cons_zero];rfl
    case h4b=>simp only[List.getElem?_toArray,List.getElem?_cons_succ,List.getElem?_cons_zero];rfl
    case s4a=>
     rw[if_pos (by rfl)];obtain⟨k0,k1,k2⟩:=ver_cells hvb;go_simp
     refine hK.out _ _ ⟨_,hvb⟩ (fun hHeld=>?_);clear hK K k0 k1 k2;try simp only[Act.put,zsA,zsS,zsZ]
     refine zrH 6 (h:=fun K hK=>?_);rw[if_pos (by rfl)];go_simp
     with_reducible refine(HA.out _).mono ?_
     rintro e w4 ⟨rfl,hb4⟩;have hvb4:=(hb4.block (w.heap.size+2) HVS.out).trans hvb;have HB4:=hid hb4;clear hb4;go_wp2_with fail
     refine hK.out _ _ ⟨_,hvb4⟩ (fun hHeld=>?_);clear hK K;try simp only[Act.put,zsA,zsS,zsZ]
     refine zkH 7 (v:=?_) (h2:=?_) (h:=?_);rotate_left;focus (intro W hS;(try dsimp only at hS);obtain⟨u,hu⟩:=hS;obtain⟨k0,k1,k2⟩:=ver_cells hu;go_simp;(try with_reducible rfl))
     try simp only[Act.put,zsA,zsS,zsZ]
     refine zkH 8 (v:=?_) (h2:=?_) (h:=?_);rotate_left;focus (intro W hS;(try dsimp only at hS);obtain⟨u,hu⟩:=hS;obtain⟨k0,k1,k2⟩:=ver_cells hu;go_simp;(try with_reducible rfl))
     try simp only[Act.put,zsA,zsS,zsZ]
     refine zkH 9 (v:=?_) (h2:=?_) (h:=?_);rotate_left;focus (intro W hS;(try dsimp only at hS);obtain⟨u,hu⟩:=hS;obtain⟨k0,k1,k2⟩:=ver_cells hu;go_simp;(try with_reducible rfl))
     try simp only[Act.put,zsA,zsS,zsZ]
     refine zkH 10 (v:=?_) (h2:=?_) (h:=?_);rotate_left;focus (intro W hS;(try dsimp only at hS);obtain⟨u,hu⟩:=hS;obtain⟨k0,k1,k2⟩:=ver_cells hu;go_simp;(try with_reducible rfl))
     try simp only[Act.put,zsA,zsS,zsZ]
     refine zrH 11 (h:=fun K hK=>?_);rw[if_pos (by rfl)];obtain⟨k0,k1,k2⟩:=ver_cells hvb4;have f1:=frozen_row (i:=1) hvb4;have hvb5:(w4.setCell ⟨w.heap.size+2,1,none⟩ (.slice a q c)).heap[w.heap.size+2]?=some (.cells #[.bool v.there,.slice a q c,.int .i64 v.whole] 95 (0,0)):=cells_set hvb4 1 _;go_simp
     refine hK.out _ _ ⟨_,hvb5⟩ (fun hHeld=>?_);clear hK K k0 k1 k2 f1;try simp only[Act.put,zsA,zsS,zsZ]
     refine wpAnyH_done (by kernel_rfl) ?_ _;have hB5:Below w.heap.size w (w4.setCell ⟨w.heap.size+1+1,1,none⟩ (.slice a q c)):=(HBWF.out.drew.trans (HB4.out.mono HBWF.out.size)).setCell (by show _≤w.heap.size+2;omega) _;have hr5:(w4.setCell ⟨w.heap.size+1+1,1,none⟩ (.slice a q c)).heap[w.heap.size+1]?=some (.cells #[.bool false,.slice none 0 0,.int .i64 0] 95 (0,0)):=by
      rw[Below.heap_setCell _ _ _ _ (by simp)];exact(HB4.out.block _ (by show w.heap.size+1<W.heap.size;have:=HSZF.out;omega)).trans HRBF.out
     have hvb6:(w4.setCell ⟨w.heap.size+1+1,1,none⟩ (.slice a q c)).heap[w.heap.size+2]?=some (.cells #[.bool v.there,.slice a q c,.int .i64 v.whole] 95 (0,0)):=hvb5;generalize (w4.setCell ⟨w.heap.size+1+1,1,none⟩ (.slice a q c))=w5 at*;obtain⟨k0,k1,k2⟩:=ver_cells hvb6;obtain⟨r0,r1,r2⟩:=ver_cells hr5;have f0:=frozen_row (i:=0) hr5;have f1:=frozen_row (i:=1) hr5;have f2:=frozen_row (i:=2) hr5;have hB6:=((hB5.setCell (p:=⟨w.heap.size+1,0,none⟩) (by show _≤w.heap.size+1;omega) (.bool v.there)).setCell (p:=⟨w.heap.size+1,1,none⟩) (by show _≤w.heap.size+1;omega) (.slice a q c)).setCell (p:=⟨w.heap.size+1,2,none⟩) (by show _≤w.heap.size+1;omega) (.int .i64 v.whole);have hs6:((((w5.setCell ⟨w.heap.size+1,0,none⟩ (.bool v.there)).setCell ⟨w.heap.size+1,1,none⟩ (.slice a q c)).setCell ⟨w.heap.size+1,2,none⟩ (.int .i64 v.whole))).heap[w.heap.size+1]?=some (.cells #[.bool v.there,.slice a q c,.int .i64 v.whole] 95 (0,0)):=cells_set (cells_set (cells_set hr5 0 _) 1 _) 2 _;have HB6:=hid hB6;have HS6:=hid hs6;clear hvb hvb4 hvb5 hvb6 hr5 hB5 hB6 hs6;go_wp2
     obtain⟨z0,z1,z2⟩:=ver_cells HS6.out;generalize (((w5.setCell ⟨w.heap.size+1,0,none⟩ (.bool v.there)).setCell ⟨w.heap.size+1,1,none⟩ (.slice a q c)).setCell ⟨w.heap.size+1,2,none⟩ (.int .i64 v.whole))=w6 at*;clear k0 k1 k2 r0 r1 r2 f0 f1 f2;refine bodyPost_ret (v:= .agg #[.bool v.there,.slice a q c,.int .i64 v.whole]) ?_ rfl (torn_end HEND.out HAP.out HQE.out HQ0.out HRW.out HOW.out HB6.out);simp [results,Tryz.results48,go_sem,z0,z1,z2]
    case s4b=>
     rw[if_pos (by rfl)];go_simp
     with_reducible refine(HA.out _).mono ?_
     rintro e w4 ⟨rfl,hb4⟩;have hvb4:=(hb4.block (w.heap.size+2) HVS.out).trans hvb;have HB4:=hid hb4;clear hb4;go_wp2_with fail
     refine hK.out _ _ ⟨_,hvb4⟩ (fun hHeld=>?_);clear hK K;try simp only[Act.put,zsA,zsS,zsZ]
     refine zkH 7 (v:=?_) (h2:=?_) (h:=?_);rotate_left;focus (intro W hS;(try dsimp only at hS);obtain⟨u,hu⟩:=hS;obtain⟨k0,k1,k2⟩:=ver_cells hu;go_simp;(try with_reducible rfl))
     try simp only[Act.put,zsA,zsS,zsZ]
     refine zkH 8 (v:=?_) (h2:=?_) (h:=?_);rotate_left;focus (intro W hS;(try dsimp only at hS);obtain⟨u,hu⟩:=hS;obtain⟨k0,k1,k2⟩:=ver_cells hu;go_simp;(try with_reducible rfl))
     try simp only[Act.put,zsA,zsS,zsZ]
     refine zrH 1 (h:=fun K hK=>?_);rw[if_pos (by rfl)];obtain⟨k0,k1,k2⟩:=ver_cells hvb4;go_simp
     refine hK.out _ _ ⟨_,hvb4⟩ (fun hHeld=>?_);clear hK K k0 k1 k2;try simp only[Act.put,zsA,zsS,zsZ]
     refine zkH 9 (v:=?_) (h2:=?_) (h:=?_);rotate_left;focus (intro W hS;(try dsimp only at hS);obtain⟨u,hu⟩:=hS;obtain⟨k0,k1,k2⟩:=ver_cells hu;go_simp;(try with_reducible rfl))
     try simp only[Act.put,zsA,zsS,zsZ]
     refine zkH 10 (v:=?_) (h2:=?_) (h:=?_);rotate_left;focus (intro W hS;(try dsimp only at hS);obtain⟨u,hu⟩:=hS;obtain⟨k0,k1,k2⟩:=ver_cells hu;go_simp;(try with_reducible rfl))
     try simp only[Act.put,zsA,zsS,zsZ]
     refine zrH 11 (h:=fun K hK=>?_);rw[if_pos (by rfl)];obtain⟨k0,k1,k2⟩:=ver_cells hvb4;have f1:=frozen_row (i:=1) hvb4;have hvb5:(w4.setCell ⟨w.heap.size+2,1,none⟩ (.slice a q c)).heap[w.heap.size+2]?=some (.cells #[.bool v.there,.slice a q c,.int .i64 v.whole] 95 (0,0)):=cells_set hvb4 1 _;go_simp
     refine hK.out _ _ ⟨_,hvb5⟩ (fun hHeld=>?_);clear hK K k0 k1 k2 f1;try simp only[Act.put,zsA,zsS,zsZ]
     refine wpAnyH_done (by kernel_rfl) ?_ _;have hB5:Below w.heap.size w (w4.setCell ⟨w.heap.size+1+1,1,none⟩ (.slice a q c)):=(HBWF.out.drew.trans (HB4.out.mono HBWF.out.size)).setCell (by show _≤w.heap.size+2;omega) _;have hr5:(w4.setCell ⟨w.heap.size+1+1,1,none⟩ (.slice a q c)).heap[w.heap.size+1]?=some (.cells #[.bool false,.slice none 0 0,.int .i64 0] 95 (0,0)):=by
      rw[Below.heap_setCell _ _ _ _ (by simp)];exact(HB4.out.block _ (by show w.heap.size+1<W.heap.size;have:=HSZF.out;omega)).trans HRBF.out
     have hvb6:(w4.setCell ⟨w.heap.size+1+1,1,none⟩ (.slice a q c)).heap[w.heap.size+2]?=some (.cells #[.bool v.there,.slice a q c,.int .i64 v.whole] 95 (0,0)):=hvb5;generalize (w4.setCell ⟨w.heap.size+1+1,1,none⟩ (.slice a q c))=w5 at*;obtain⟨k0,k1,k2⟩:=ver_cells hvb6;obtain⟨r0,r1,r2⟩:=ver_cells hr5;have f0:=frozen_row (i:=0) hr5;have f1:=frozen_row (i:=1) hr5;have f2:=frozen_row (i:=2) hr5;have hB6:=((hB5.setCell (p:=⟨w.heap.size+1,0,none⟩) (by show _≤w.heap.size+1;omega) (.bool v.there)).setCell (p:=⟨w.heap.size+1,1,none⟩) (by show _≤w.heap.size+1;omega) (.slice a q c)).setCell (p:=⟨w.heap.size+1,2,none⟩) (by show _≤w.heap.size+1;omega) (.int .i64 v.whole);have hs6:((((w5.setCell ⟨w.heap.size+1,0,none⟩ (.bool v.there)).setCell ⟨w.heap.size+1,1,none⟩ (.slice a q c)).setCell ⟨w.heap.size+1,2,none⟩ (.int .i64 v.whole))).heap[w.heap.size+1]?=some (.cells #[.bool v.there,.slice a q c,.int .i64 v.whole] 95 (0,0)):=cells_set (cells_set (cells_set hr5 0 _) 1 _) 2 _;have HB6:=hid hB6;have HS6:=hid hs6;clear hvb hvb4 hvb5 hvb6 hr5 hB5 hB6 hs6;go_wp2
     obtain⟨z0,z1,z2⟩:=ver_cells HS6.out;generalize (((w5.setCell ⟨w.heap.size+1,0,none⟩ (.bool v.there)).setCell ⟨w.heap.size+1,1,none⟩ (.slice a q c)).setCell ⟨w.heap.size+1,2,none⟩ (.int .i64 v.whole))=w6 at*;clear k0 k1 k2 r0 r1 r2 f0 f1 f2;refine bodyPost_ret (v:= .agg #[.bool v.there,.slice a q c,.int .i64 v.whole]) ?_ rfl (torn_end HEND.out HAP.out HQE.out HQ0.out HRW.out HOW.out HB6.out);simp [results,Tryz.results48,go_sem,z0,z1,z2]
end Go.Proofs.YtalfbcbnljhldaaGreatDoor
