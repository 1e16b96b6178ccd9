/-  -/
import Derived.Test.YtalfbcbnljhldaaGreatDoorMah
import Derived.Maps.AppendAt
namespace Go.Proofs.YtalfbcbnljhldaaGreatDoor
open Go.Lib (hid)
open Go.RowKit Go.Maps Dsk Rd
namespace Rd
theorem run_one (W:World) {B size bytes n:Nat} {t e:TypeId} {z:Value} (ht:Tryz.prog.underlying t=some (.slice e)) (hi:(Tryz.prog.info? e).map (fun i=>(i.zero,i.size,i.bytes))=some (some z,size,bytes)) (hzs:z.cells.size=size) (hsz:0<size)
  {v:Value} {xs:List Value} (hown:W.ownsRow B e size v n xs) (arr:Array Value) (ha:arr.size=size) (h1: ∀u∈arr.toList,u.oneCell'=true) (hn:n≤1000000000) (hb:bytes≤1000) (hB:B≤W.heap.size):
  ∃v' w',(Builtin.append_ #[t,t] t #[v,.slice (some ⟨W.heap.size,0,none⟩) 1 1]).run Tryz.prog (W.alloc (.cells arr e))= .ok v' w'∧w'.ownsRow B e size v' (n+1) (xs++arr.toList)∧(W.alloc (.cells arr e)).grownBy w' v.ownBlock∧(v'.ownBlock=v.ownBlock∨v'.ownBlock=some (W.heap.size+1)):=by
 obtain⟨i0,hi,hz0,hz1,hz2⟩:=info_parts hi;have hown':(W.alloc (.cells arr e)).ownsRow B e size v n xs:=ownsRow_keep hown fun k hk=>Below.heap_alloc _ _ _ (World.ownsRow.lt hown k hk).2;obtain⟨v',w',hrun,ho,hg,hl⟩:=run_append_lies (P:=Tryz.prog) (W.alloc (.cells arr e)) B t t e i0 z size bytes ht hi hz0 hz1 hz2 hzs hsz v n xs hown' (some ⟨W.heap.size,0,none⟩) 1 1 arr.toList (by simp [ha]) (fun e=>by cases e) (fun ad ea j u hu=>by
  cases ea;have e0:((⟨W.heap.size,0,none⟩:Addr).add j)=⟨W.heap.size,j,none⟩:=by unfold Addr.add;split<;>simp_all
  rw[e0,cell_of_row _ _ j _ _ _ (heap_alloc_new _ _)];simpa using hu) h1 (by unfold maxLen;omega) (by have:(n+1)*bytes≤1000000001*1000:=Nat.mul_le_mul (by omega) hb;omega) (by simp;omega)
 exact⟨v',w',hrun,ho,hg,by simpa using hl⟩
theorem info_name:(Tryz.prog.info? 9).map (fun i=>(i.zero,i.size,i.bytes))=some (some (.string ⟨#[]⟩),1,16):=by kernel_rfl
theorem info_part:(Tryz.prog.info? 108).map (fun i=>(i.zero,i.size,i.bytes))=some (some (.agg #[.bool false,.bool false,.slice none 0 0]),3,32):=by kernel_rfl
theorem info_file:(Tryz.prog.info? 106).map (fun i=>(i.zero,i.size,i.bytes))=some (some (.agg #[.string ⟨#[]⟩,.bool false,.slice none 0 0,.slice none 0 0,.bool false]),5,80):=by kernel_rfl
def strs (l:List Name):List Value:=l.map fun n=> .string ⟨n.toArray⟩
def Names1 (w:World) (B:Nat) (v:Value) (l:List Name):Prop:=w.ownsRow B 9 1 v l.length (strs l)
def rdNames (F:List FC):List Name:=(F.filter fun c=>(rdRead F c.n).1).map (·.n)
def rdLoose (F:List FC):List Name:=(F.filter fun c=>c.f.any).map (·.n)
section
variable {w:World} {B g:Nat} {S:Nat→Prop} {F:List FC}
set_option maxRecDepth 100000 in
set_option maxHeartbeats 4000000 in
theorem rdloose_any (h:RDisk w B S g F) (hs:Small F):
  Calls Tryz.prog 45 #[.pointer (some ⟨g,0,none⟩)] w fun e w'=> ∃v,e= .returned v∧Names1 w' w.heap.size v (rdLoose F)∧Below w.heap.size w w':=by
 obtain⟨a,c,hg,hcell⟩:=h.cell;have HC:=hid hcell;have HS:=hid hs;have HG:=hid hg;obtain⟨N,hN⟩: ∃N,N=F.length:=⟨_,rfl⟩;rw[←hN] at hg;have HN:=hid hN;have hgl:=World.block_lt_of_cell? w ⟨g,0,none⟩ hg;have hN9:N≤1000000000:=by have:=hs.1;omega
 clear hcell h hs hN;go_enter Tryz.func45,Tryz.ntmps45
 go_wp2_with fail
 go_loopw [3,4] (fun vo vi wr=> ∃m:Nat,vi= .int .i64 m∧m≤N∧Names1 wr w.heap.size vo (((F.take m).filter fun c=>c.f.any).map (·.n))∧Below w.heap.size w wr) (fun _ vi _=>N - (intOf vi).toNat)
 case atStart=>exact⟨0,rfl,Nat.zero_le _,World.ownsRow_nil _ _ _ _,Below.refl _ _⟩
 case round=>
  obtain⟨m,rfl,hm,hrow,hb⟩:=hrel;have hg':=(hb.cell (p:=⟨g,0,none⟩) hgl).trans hg;obtain⟨oa,oc,rfl,_⟩:=slice_shape hrow;have HB:=hid hb;have HROW:=hid hrow;obtain⟨L,hL⟩: ∃L,L=(((F.take m).filter fun c=>c.f.any).map (·.n)).length:=⟨_,rfl⟩;rw[←hL];have HLL:=hid hL;have hLm:L≤m:=by
   have h1:=List.length_filter_le (fun c:FC=>c.f.any) (F.take m);rw[List.length_take] at h1;rw[hL,List.length_map];omega
  clear hb hrow hL;by_cases hml:m<N
  ·have d1:decide ((m:Int)<(N:Int))=true:=by simp;omega
   have hmF:m<F.length:=by have:=HN.out;omega
   obtain⟨e0,_,_,_,e4⟩:=fileCells_at F m hmF;obtain⟨q,rfl,hq,x0,_⟩:=HC.out _ _ e0;obtain⟨q',eq',_,x4,_⟩:=HC.out _ _ e4;cases eq';replace x0:=(HB.out.cell (p:=⟨q,m*5,none⟩) hq).trans x0;replace x4:=(HB.out.cell (p:=⟨q,m*5+4,none⟩) hq).trans x4;have htk:=List.take_succ_eq_append_getElem hmF;obtain⟨cc,hcc⟩: ∃x,x=F[m]:=⟨_,rfl⟩;rw[←hcc] at x0 x4 htk;obtain⟨cn,hcn⟩: ∃x,x=cc.n:=⟨_,rfl⟩;obtain⟨cy,hcy⟩: ∃x,x=cc.f.any:=⟨_,rfl⟩;rw[←hcn] at x0;rw[←hcy] at x4;have HTK:=hid htk;have HCN:=hid hcn;have HCY:=hid hcy;clear e0 e4 htk hcc hcn hcy;cases cy with
   | false=>
    go_wp2_with fail
    go_roundw
    case rel=>exact⟨m+1,by go_num,by omega,by rw[HTK.out,List.filter_append];simp only[List.filter_cons,←HCY.out,List.filter_nil,Bool.false_eq_true,if_false,List.append_nil];rw[HLL.out];exact HROW.out,HB.out⟩
    case measure=>simp [intOf];omega
   | true=>
    have hbs:=HB.out.size;obtain⟨v',w2,hrun,hown,hg2,hl2⟩:=run_one wr (t:=70) (B:=w.heap.size) (v:= .slice oa L oc) Tryz.underlying70 info_name rfl (by decide) (by rw[HLL.out];exact HROW.out) #[.string ⟨cn.toArray⟩] rfl (by simp [Value.oneCell']) (by rw[←HLL.out];omega) (by decide) hbs;have hb2:=(HB.out.alloc hbs (.cells #[.string ⟨cn.toArray⟩] 9)).grown hg2 (by simp;omega) (fun k e=>(World.ownsRow.lt HROW.out k (by rw[←HLL.out];exact e)).1);obtain⟨na,nc,rfl,_⟩:=slice_shape hown;have HOWN:=hid hown;have HB2:=hid hb2;rw[←HLL.out] at hrun;clear hown hb2 hg2 hl2;go_wp2_with (at_builtin;go_loud (refine Lib.wpList_append_run _ rfl _ _ _ _ rfl _ _ rfl rfl _ _ hrun ?_))
    go_roundw
    case rel=>
     have hl:((F.take (m+1)).filter fun c=>c.f.any).map (·.n)=((F.take m).filter fun c=>c.f.any).map (·.n)++ [cn]:=by
      rw[HTK.out,List.filter_append,List.map_append];simp [←HCY.out,HCN.out]
     refine⟨m+1,by go_num,by omega,?_,HB2.out⟩;rw[hl];unfold Names1 strs;rw[List.length_append,List.map_append,←HLL.out];have:=HOWN.out;rw[←HLL.out] at this;exact this
    case measure=>simp [intOf];omega
  ·have d1:decide ((m:Int)<(N:Int))=false:=by simp;omega
   have e:F.take m=F:=List.take_of_length_le (by have:=HN.out;omega);have HE:=hid e;clear e;go_wp2_with fail
   go_ret
   refine⟨_,rfl,?_,HB.out⟩;have:=HROW.out;rw[←HLL.out,HE.out] at this;exact this
set_option maxRecDepth 100000 in
set_option maxHeartbeats 4000000 in
theorem rdnames_any (h:RDisk w B S g F) (hs:Small F):
  Calls Tryz.prog 27 #[.pointer (some ⟨g,0,none⟩)] w fun e w'=> ∃v,e= .returned v∧Names1 w' w.heap.size v (rdNames F)∧Below w.heap.size w w':=by
 obtain⟨a,c,hg,hcell⟩:=h.cell;have HC:=hid hcell;have HS:=hid hs;have HD:=hid h;obtain⟨N,hN⟩: ∃N,N=F.length:=⟨_,rfl⟩;rw[←hN] at hg;have HN:=hid hN;have HG:=hid hg;have hgl:=World.block_lt_of_cell? w ⟨g,0,none⟩ hg;have hN9:N≤1000000000:=by have:=hs.1;omega
 clear hcell h hs hN hg;go_enter Tryz.func27,Tryz.ntmps27
 go_wp2_with fail
 go_loopw [3,4] (fun vo vi wr=> ∃m:Nat,vi= .int .i64 m∧m≤N∧Names1 wr w.heap.size vo (((F.take m).filter fun c=>(rdRead F c.n).1).map (·.n))∧Below w.heap.size w wr) (fun _ vi _=>N - (intOf vi).toNat)
 case atStart=>exact⟨0,rfl,Nat.zero_le _,World.ownsRow_nil _ _ _ _,Below.refl _ _⟩
 case round=>
  obtain⟨m,rfl,hm,hrow,hb⟩:=hrel;have hg':=(hb.cell (p:=⟨g,0,none⟩) hgl).trans HG.out;obtain⟨oa,oc,rfl,_⟩:=slice_shape hrow;have HB:=hid hb;have HROW:=hid hrow;obtain⟨L,hL⟩: ∃L,L=(((F.take m).filter fun c=>(rdRead F c.n).1).map (·.n)).length:=⟨_,rfl⟩;rw[←hL];have HLL:=hid hL;have hLm:L≤m:=by
   have h1:=List.length_filter_le (fun c:FC=>(rdRead F c.n).1) (F.take m);rw[List.length_take] at h1;rw[hL,List.length_map];omega
  clear hb hrow hL;by_cases hml:m<N
  ·have d1:decide ((m:Int)<(N:Int))=true:=by simp;omega
   have hmF:m<F.length:=by have:=HN.out;omega
   obtain⟨e0,_,_,_,_⟩:=fileCells_at F m hmF;obtain⟨q,rfl,hq,x0,_⟩:=HC.out _ _ e0;have X0:=hid x0;replace x0:=(HB.out.cell (p:=⟨q,m*5,none⟩) hq).trans x0;have htk:=List.take_succ_eq_append_getElem hmF;obtain⟨cc,hcc⟩: ∃x,x=F[m]:=⟨_,rfl⟩;rw[←hcc] at x0 X0 htk;obtain⟨cn,hcn⟩: ∃x,x=cc.n:=⟨_,rfl⟩;rw[←hcn] at x0 X0;have HR:=hid (rdread_any (HD.out.below HB.out) HS.out cn);obtain⟨is,his⟩: ∃x,x=(rdRead F cn).1:=⟨_,rfl⟩;rw[←his] at HR;have HTK:=hid htk;have HCN:=hid hcn;have HIS:=hid his;clear e0 htk hcc hcn his;go_wp2_with fail
   refine HR.out.mono ?_;rintro e w1 ⟨v,rfl,_,hb1⟩;have hbs:=HB.out.size;have hb1':=HB.out.trans (hb1.mono hbs);have hrow1:=HROW.out;replace hrow1:Names1 w1 w.heap.size (.slice oa (((F.take m).filter fun c=>(rdRead F c.n).1).map (·.n)).length oc) (((F.take m).filter fun c=>(rdRead F c.n).1).map (·.n)):=ownsRow_keep hrow1 fun k e=>hb1.block k (World.ownsRow.lt hrow1 k e).2;have HB1:=hid hb1';have HROW1:=hid hrow1;have y0:=(hb1'.cell (p:=⟨q,m*5,none⟩) hq).trans X0.out;have yg:=(hb1'.cell (p:=⟨g,0,none⟩) hgl).trans HG.out;clear hb1 hb1' hrow1 HR HB HROW x0 hg';cases is with
   | false=>
    go_wp2_with fail
    go_roundw
    case rel=>exact⟨m+1,by go_num,by omega,by rw[HTK.out,List.filter_append];simp only[List.filter_cons,←HCN.out,←HIS.out,List.filter_nil,Bool.false_eq_true,if_false,List.append_nil];rw[HLL.out];exact HROW1.out,HB1.out⟩
    case measure=>simp [intOf];omega
   | true=>
    have hbs:=HB1.out.size;obtain⟨v',w2,hrun,hown,hg2,hl2⟩:=run_one w1 (t:=70) (B:=w.heap.size) (v:= .slice oa L oc) Tryz.underlying70 info_name rfl (by decide) (by rw[HLL.out];exact HROW1.out) #[.string ⟨cn.toArray⟩] rfl (by simp [Value.oneCell']) (by rw[←HLL.out];omega) (by decide) hbs;have hb2:=(HB1.out.alloc hbs (.cells #[.string ⟨cn.toArray⟩] 9)).grown hg2 (by simp;omega) (fun k e=>(World.ownsRow.lt HROW1.out k (by rw[←HLL.out];exact e)).1);obtain⟨na,nc,rfl,_⟩:=slice_shape hown;have HOWN:=hid hown;have HB2:=hid hb2;rw[←HLL.out] at hrun;clear hown hb2 hg2 hl2;go_wp2_with (at_builtin;go_loud (refine Lib.wpList_append_run _ rfl _ _ _ _ rfl _ _ rfl rfl _ _ hrun ?_))
    go_roundw
    case rel=>
     have hl:((F.take (m+1)).filter fun c=>(rdRead F c.n).1).map (·.n)=((F.take m).filter fun c=>(rdRead F c.n).1).map (·.n)++ [cn]:=by
      rw[HTK.out,List.filter_append,List.map_append];simp [←HIS.out,←HCN.out]
     refine⟨m+1,by go_num,by omega,?_,HB2.out⟩;rw[hl];unfold Names1 strs;rw[List.length_append,List.map_append,←HLL.out];have:=HOWN.out;rw[←HLL.out] at this;exact this
    case measure=>simp [intOf];omega
  ·have d1:decide ((m:Int)<(N:Int))=false:=by simp;omega
   have e:F.take m=F:=List.take_of_length_le (by have:=HN.out;omega);have HE:=hid e;clear e;go_wp2_with fail
   go_ret
   refine⟨_,rfl,?_,HB.out⟩;have:=HROW.out;rw[←HLL.out,HE.out] at this;exact this
end
end Rd
end Go.Proofs.YtalfbcbnljhldaaGreatDoor

namespace Go.Proofs.YtalfbcbnljhldaaGreatDoor
open Go.RowKit Go.Maps Dsk Rd
namespace Rd
structure Apart (S:Nat→Prop) (w w':World):Prop where
 os:w'.os=w.os
 tape:w'.tape=w.tape
 output:w'.output=w.output
 size:w.heap.size≤w'.heap.size
 block: ∀k,k<w.heap.size→ ¬S k→w'.heap[k]?=w.heap[k]?
def More (S:Nat→Prop) (w w':World) (k:Nat):Prop:=S k∨(w.heap.size≤k∧k<w'.heap.size)
theorem Apart.refl (S:Nat→Prop) (w:World):Apart S w w:=⟨rfl,rfl,rfl,Nat.le_refl _,fun _ _ _=>rfl⟩
theorem Apart.of_below {S:Nat→Prop} {w w':World} (h:Below w.heap.size w w'):Apart S w w':=⟨h.os,h.tape,h.output,h.size,fun k hk _=>h.block k hk⟩
theorem Apart.trans {S S':Nat→Prop} {a b c:World} (h:Apart S a b) (k:Apart S' b c) (hs: ∀i,i<a.heap.size→S' i→S i):Apart S a c:=
 ⟨k.os.trans h.os,k.tape.trans h.tape,k.output.trans h.output,Nat.le_trans h.size k.size,fun i hi hn=>(k.block i (Nat.lt_of_lt_of_le hi h.size) fun e=>hn (hs i hi e)).trans (h.block i hi hn)⟩
theorem ownsRow_keepT {w w':World} {B size n:Nat} {e:TypeId} {v:Value} {xs:List Value} (h:w.ownsRow B e size v n xs) (hk: ∀k cs fr,v.ownBlock=some k→w.heap[k]?=some (.cells cs e fr)→w'.heap[k]?=w.heap[k]?):w'.ownsRow B e size v n xs:=by
 refine⟨h.1,?_⟩;rcases h.2 with hn | ⟨g,cap,cur,rfl,hB,hg,r⟩
 ·exact .inl hn
 ·exact .inr ⟨g,cap,cur,rfl,hB,(hk g _ _ (by simp [Value.ownBlock]) hg).trans hg,r⟩
theorem ownsRow_less {w:World} {B B' size n:Nat} {e:TypeId} {v:Value} {xs:List Value} (h:w.ownsRow B e size v n xs) (hB:B'≤B):w.ownsRow B' e size v n xs:=by
 refine⟨h.1,?_⟩;rcases h.2 with hn | ⟨g,cap,cur,rfl,hb,r⟩
 ·exact .inl hn
 ·exact .inr ⟨g,cap,cur,rfl,Nat.le_trans hB hb,r⟩
section
variable {w w':World} {B g:Nat} {S S':Nat→Prop}
theorem FC.At.keepT {c:FC} (h:c.At w B S) (hk: ∀k cs ty fr,S k→w.heap[k]?=some (.cells cs ty fr)→ty=5∨ty=108→w'.heap[k]?=w.heap[k]?) (hs: ∀k,S k→S' k):c.At w' B S':=by
 obtain⟨ss,h1,h2,h3⟩:=h.row;have hb: ∀ {zs v},RB w B S zs v→RB w' B S' zs v:=fun h=>⟨ownsRow_keepT h.1 fun k cs fr e hc=>hk k cs _ fr (h.2 k e) hc (.inl rfl),fun k e=>hs k (h.2 k e)⟩;exact⟨hb h.bts,⟨ss,h1,ownsRow_keepT h2 fun k cs fr e hc=>hk k cs _ fr (h.own k e) hc (.inr rfl),fun i hi=>hb (h3 i hi)⟩,fun k e=>hs k (h.own k e)⟩
theorem fileCells_take: ∀(F:List FC) (i:Nat),(fileCells F).take (i*5)=fileCells (F.take i)
 | [],i=>by simp [fileCells]
 | c::F,0=>by simp [fileCells]
 | c::F,i+1=>by
  rw[show(i+1)*5=i*5+1+1+1+1+1 by omega];simp only[fileCells,List.take_succ_cons];rw[fileCells_take F i]
theorem fileCells_drop: ∀(F:List FC) (i:Nat),(fileCells F).drop (i*5)=fileCells (F.drop i)
 | [],i=>by simp [fileCells]
 | c::F,0=>by simp [fileCells]
 | c::F,i+1=>by
  rw[show(i+1)*5=i*5+1+1+1+1+1 by omega];simp only[fileCells,List.drop_succ_cons];rw[fileCells_drop F i]
theorem oneF: ∀(F:List FC),(∀c∈F,c.vb.oneCell'=true∧c.vl.oneCell'=true)→ ∀u∈fileCells F,u.oneCell'=true
 | [],_,u,hu=>by cases hu
 | c::F,h,u,hu=>by
  simp only[fileCells,List.mem_cons] at hu;have hc:=h c (by simp);rcases hu with rfl | rfl | rfl | rfl | rfl | hu
  ·rfl
  ·rfl
  ·exact hc.1
  ·exact hc.2
  ·rfl
  ·exact oneF F (fun d hd=>h d (by simp [hd])) u hu
theorem run_files {W:World} {B0:Nat} {v:Value} {F G:List FC} (h:W.ownsRow B0 106 5 v F.length (fileCells F)) (hl:F.length+G.length≤1000000000) (hB:B0≤W.heap.size) {q o c:Nat}
  (hone: ∀c∈G,c.vb.oneCell'=true∧c.vl.oneCell'=true) (hc: ∀j u,(fileCells G)[j]?=some u→W.cell? ⟨q,o+j,none⟩=some u):
  ∃v' W',(Builtin.append_ #[27,27] 27 #[v,.slice (some ⟨q,o,none⟩) G.length c]).run Tryz.prog W= .ok v' W'∧W'.ownsRow B0 106 5 v' (F++G).length (fileCells (F++G))∧W.grownBy W' v.ownBlock:=by
 obtain⟨i0,hi,hz0,hz1,hz2⟩:=info_parts info_file;obtain⟨v',W',hrun,hown,hg,_,_⟩:=run_append_own_at (P:=Tryz.prog) W B0 27 27 106 i0 _ 5 80 Tryz.underlying27 hi hz0 hz1 hz2 rfl (by decide) v F.length _ h ⟨q,o,none⟩ G.length c (fileCells G) (fileCells_len G) (fun j u hu=>by
  have hadd:((⟨q,o,none⟩:Addr).add j)=⟨q,o+j,none⟩:=by
   unfold Addr.add;split
   ·subst j;rfl
   ·rfl
  rw[hadd];exact hc j u hu) (oneF G hone) (by unfold maxLen;omega) (by omega) hB
 refine⟨v',W',hrun,?_,hg⟩;rw[List.length_append,fileCells_append];exact hown
def absF (F:List FC):List (Name×RFil):=F.map fun c=>(c.n,c.f)
theorem RDisk.erase {F:List FC} {i:Nat} {v:Value} (h:RDisk w B S g F) (hap:Apart S w w') (hd:w'.heap[g]?=some (.cells #[v] 29 (0,0)))
  (hrow:w'.ownsRow w.heap.size 106 5 v (F.eraseIdx i).length (fileCells (F.eraseIdx i))) (hk: ∀k,k<w.heap.size→k≠g→w'.heap[k]?=w.heap[k]?):RDisk w' B (More S w w') g (F.eraseIdx i):=by
 have hg:=h.hS g h.hg;have hgc: ∃v0,w.heap[g]?=some (.cells #[v0] 29 (0,0)):=by obtain⟨v0,h1,_⟩:=h.disk;exact⟨v0,h1⟩
 obtain⟨v0,hgc⟩:=hgc;refine⟨⟨v,hd,ownsRow_less hrow (by omega),fun k e=> .inr ?_⟩,fun c hc=>(h.files c ((List.eraseIdx_sublist F i).subset hc)).keepT (fun k cs ty fr hs hcs hty=>hk k (h.hS k hs).2 fun e=>?_) fun k hs=> .inl hs,?_,fun k hs=>?_,.inl h.hg⟩
 ·exact World.ownsRow.lt hrow k e
 ·subst e
  rw[hgc] at hcs;cases hcs;rcases hty with h | h<;>cases h
 ·exact h.apart.sublist (List.eraseIdx_sublist F i)
 ·rcases hs with hs | ⟨h1,h2⟩
  ·exact⟨(h.hS k hs).1,Nat.lt_of_lt_of_le (h.hS k hs).2 hap.size⟩
  ·exact⟨by omega,h2⟩
theorem RDisk.mono {F:List FC} (h:RDisk w B S g F) (hs: ∀k,S k→S' k) (hS: ∀k,S' k→B≤k∧k<w.heap.size):RDisk w B S' g F:=by
 obtain⟨v,h1,h2,h3⟩:=h.disk;exact⟨⟨v,h1,h2,fun k e=>hs k (h3 k e)⟩,fun c hc=>(h.files c hc).keep (fun _ _=>rfl) hs,h.apart,hS,hs g h.hg⟩
theorem fileCells_set: ∀(F:List FC) (i:Nat) (c:FC),i<F.length→((((((fileCells F).set (i*5) (.string ⟨c.n.toArray⟩)).set (i*5+1) (.bool c.f.is)).set (i*5+2) c.vb).set (i*5+3) c.vl).set (i*5+4) (.bool c.f.any))=fileCells (F.set i c)
 | [],i,c,h=>by simp at h
 | d::F,0,c,h=>by simp [fileCells]
 | d::F,i+1,c,h=>by
  rw[show(i+1)*5=i*5+1+1+1+1+1 by omega];have:=fileCells_set F i c (by simpa using h);simp only[fileCells,List.set_cons_succ];rw[←this]
theorem RDisk.put {F:List FC} {i:Nat} {q N cp:Nat} {v:Value} {bs:List Int} {w0:World} (h:RDisk w B S g F) (hi:i<F.length) (hcell:w.cell? ⟨g,0,none⟩=some (.slice (some ⟨q,0,none⟩) N cp)) (hv:Row w w0.heap.size bs v) (hvs: ∀k,v.ownBlock=some k→S k) (hq:q<w0.heap.size) (nm:Name) (hw0:B≤w0.heap.size):
  RDisk (((((w.setCell ⟨q,i*5,none⟩ (.string ⟨nm.toArray⟩)).setCell ⟨q,i*5+1,none⟩ (.bool true)).setCell ⟨q,i*5+2,none⟩ v).setCell ⟨q,i*5+3,none⟩ (.slice none 0 0)).setCell ⟨q,i*5+4,none⟩ (.bool false)) B S g (F.set i ⟨nm,⟨true,bs,[],false⟩,v,.slice none 0 0⟩)∧
   (∀k,k≠q→(((((w.setCell ⟨q,i*5,none⟩ (.string ⟨nm.toArray⟩)).setCell ⟨q,i*5+1,none⟩ (.bool true)).setCell ⟨q,i*5+2,none⟩ v).setCell ⟨q,i*5+3,none⟩ (.slice none 0 0)).setCell ⟨q,i*5+4,none⟩ (.bool false)).heap[k]?=w.heap[k]?)∧S q:=by
 obtain⟨v0,h1,h2,h3⟩:=h.disk;rw[cell_of_row _ _ 0 _ _ _ h1] at hcell;obtain rfl:v0= .slice (some ⟨q,0,none⟩) N cp:=by simpa using hcell
 have hN:N=F.length:=by
  rcases h2.2 with⟨e,_⟩ | ⟨_,_,_,e,_⟩
  ·cases e
  ·cases e;rfl
 subst hN;have hne: ∀k,k≠q→(((((w.setCell ⟨q,i*5,none⟩ (.string ⟨nm.toArray⟩)).setCell ⟨q,i*5+1,none⟩ (.bool true)).setCell ⟨q,i*5+2,none⟩ v).setCell ⟨q,i*5+3,none⟩ (.slice none 0 0)).setCell ⟨q,i*5+4,none⟩ (.bool false)).heap[k]?=w.heap[k]?:=fun k hk=>by
  rw[Below.heap_setCell _ _ _ _ hk,Below.heap_setCell _ _ _ _ hk,Below.heap_setCell _ _ _ _ hk,Below.heap_setCell _ _ _ _ hk,Below.heap_setCell _ _ _ _ hk]
 have hqc: ∃cs,w.heap[q]?=some (.cells cs 106 (0,0)):=by
  rcases h2.2 with⟨e,_⟩ | ⟨g',_,cur,e,_,hg',_⟩
  ·cases e
  ·cases e;exact⟨cur,hg'⟩
 obtain⟨cs,hqc⟩:=hqc;have hgq:g≠q:=fun e=>by
  rw[←e,h1] at hqc;cases hqc
 have hsz:(((((w.setCell ⟨q,i*5,none⟩ (.string ⟨nm.toArray⟩)).setCell ⟨q,i*5+1,none⟩ (.bool true)).setCell ⟨q,i*5+2,none⟩ v).setCell ⟨q,i*5+3,none⟩ (.slice none 0 0)).setCell ⟨q,i*5+4,none⟩ (.bool false)).heap.size=w.heap.size:=by simp [World.setCell]
 have r1:=((((((h2.stored (i*5) (.string ⟨nm.toArray⟩)).1).stored (i*5+1) (.bool true)).1.stored (i*5+2) v).1.stored (i*5+3) (.slice none 0 0)).1.stored (i*5+4) (.bool false)).1;have hset:=fileCells_set F i ⟨nm,⟨true,bs,[],false⟩,v,.slice none 0 0⟩ hi;rw[hset] at r1;refine⟨⟨⟨_,(hne g hgq).trans h1,by rw[List.length_set];exact r1,h3⟩,fun c hc=>?_,?_,fun k hk=>⟨(h.hS k hk).1,by rw[hsz];exact(h.hS k hk).2⟩,h.hg⟩,hne,h3 q rfl⟩
 ·rcases List.mem_or_eq_of_mem_set hc with hc | rfl
  ·refine(h.files c hc).keepT (fun k cs' ty fr _ hcs hty=>hne k fun e=>?_) fun _ h=>h
   rw[e,hqc] at hcs;cases hcs;rcases hty with h | h<;>cases h
  ·refine⟨⟨ownsRow_less (ownsRow_keepT hv fun k cs' fr e _=>hne k fun e2=>?_) hw0,hvs⟩,⟨[],rfl,World.ownsRow_nil _ _ _ _,fun j hj=>absurd hj (by simp)⟩,fun k e=>by cases e⟩
   have:=(World.ownsRow.lt hv k e).1;omega
 ·rw[List.pairwise_iff_getElem]
  intro x y hx hy hxy k e1 e2;rw[List.getElem_set] at e1 e2;split at e1
  ·cases e1
  ·split at e2
   ·cases e2
   ·rw[List.length_set] at hx hy
    exact(List.pairwise_iff_getElem.1 h.apart) x y hx hy hxy k e1 e2
def rdKeep (L:List (Name×RFil)) (i n:Nat):List (Name×RFil):=match L[i]? with
 | none=>L
 | some (nm,r)=>if (r.after n).1=true then L.set i (nm,⟨true,(r.after n).2,[],false⟩) else L.eraseIdx i
theorem rdKeep_at {F:List FC} {i:Nat} (hi:i<F.length) (n:Nat):rdKeep (absF F) i n=if (F[i].f.after n).1=true then(absF F).set i (F[i].n,⟨true,(F[i].f.after n).2,[],false⟩) else(absF F).eraseIdx i:=by
 unfold rdKeep;have:(absF F)[i]?=some (F[i].n,F[i].f):=by simp [absF,hi]
 rw[this]
end
end Rd
end Go.Proofs.YtalfbcbnljhldaaGreatDoor
