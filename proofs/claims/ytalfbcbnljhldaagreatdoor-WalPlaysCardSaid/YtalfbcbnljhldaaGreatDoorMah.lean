/-  -/
import Derived.Test.YtalfbcbnljhldaaGreatDoorMag
import Derived.IntWalk
import Derived.Test.YtalfbcbnljhldaaGreatDoorMae
namespace Go.Proofs.YtalfbcbnljhldaaGreatDoor
open Go.Lib (hid)
open Go.RowKit Go.Maps Dsk Rd
namespace Rd
theorem ownsRow_cell {w:World} {B size n:Nat} {e:TypeId} {v:Value} {xs:List Value} (h:w.ownsRow B e size v n xs): ∃a c,v= .slice a n c∧ ∀i x,xs[i]?=some x→ ∃g,a=some ⟨g,0,none⟩∧g<w.heap.size∧w.cell? ⟨g,i,none⟩=some x∧w.frozen? ⟨g,i,none⟩=false:=by
 rcases h.2 with⟨he,h0⟩ | ⟨g,cap,cur,he,hB,hg,r1,r2,r3,r4⟩
 ·refine⟨none,0,by rw[he,h0],fun i x hx=>?_⟩
  have h1:=h.1;rw[h0,Nat.zero_mul] at h1;rw[List.eq_nil_of_length_eq_zero h1] at hx;simp at hx
 ·refine⟨_,cap,he,fun i x hx=>⟨g,rfl,lt_of_block hg,?_,frozen_row hg⟩⟩
  have hi:i<n*size:=by
   have:=(List.getElem?_eq_some_iff.1 hx).1;rw[h.1] at this;exact this
  rw[cell_of_row _ _ i _ _ _ hg,←Array.getElem?_toList];rw[←r4,List.getElem?_take_of_lt hi] at hx;exact hx
theorem after_succ (r:RFil) (m:Nat) (h:m<r.l.length):r.after (m+1)=r.l[m].does (r.after m):=by
 unfold RFil.after;rw[List.take_succ_eq_append_getElem h,List.foldl_append];rfl
def weigh (r:RFil):Nat:=r.bs.length+(r.l.map fun p=>p.bytes.length).sum
theorem after_le (r:RFil): ∀m,(r.after m).2.length≤r.bs.length+((r.l.take m).map fun p=>p.bytes.length).sum
 | 0=>by simp [RFil.after]
 | m+1=>by
  by_cases h:m<r.l.length
  ·have ih:=after_le r m
   rw[after_succ r m h,does_is,List.take_succ_eq_append_getElem h];rw[List.map_append,List.sum_append,List.map_cons,List.map_nil,List.sum_cons,List.sum_nil];split
   ·show r.l[m].bytes.length≤_
    omega
   ·show((r.after m).2++r.l[m].bytes).length≤_
    rw[List.length_append];omega
  ·have ih:=after_le r m
   have e:r.l.take (m+1)=r.l.take m:=by rw[List.take_of_length_le (by omega),List.take_of_length_le (by omega)]
   have e2:r.after (m+1)=r.after m:=by unfold RFil.after;rw[e]
   rw[e2,e];exact ih
theorem sum_take_le: ∀(l:List Nat) (m:Nat),(l.take m).sum≤l.sum
 | [],m=>by simp
 | x::l,0=>by simp
 | x::l,m+1=>by
  have:=sum_take_le l m;simp;omega
theorem after_weigh (r:RFil) (m:Nat):(r.after m).2.length≤weigh r:=by
 have h1:=after_le r m;have h2:=sum_take_le (r.l.map fun p=>p.bytes.length) m;rw[←List.map_take] at h2;unfold weigh;omega
theorem part_weigh (r:RFil) (m:Nat) (h:m<r.l.length):(r.l[m].bytes).length≤weigh r:=by
 have: ∀(l:List RPart) (m:Nat) (h:m<l.length),(l[m].bytes).length≤(l.map fun p=>p.bytes.length).sum:=by
  intro l;induction l with
  | nil=>intro m h;simp at h
  | cons p l ih=>
   intro m h;cases m with
   | zero=>simp
   | succ m=>
    have:=ih m (by simpa using h);simp;omega
 have:=this r.l m h;unfold weigh;omega
set_option maxRecDepth 100000 in
set_option maxHeartbeats 4000000 in
theorem after_any {S:Nat→Prop} {B:Nat} (c:FC) (n:Int) (hn: -9223372036854775808≤n∧n≤9223372036854775807) (w:World) (hc:c.At w B S) (hl:c.f.l.length≤1000000000) (hw:weigh c.f≤1000000000):
  Calls Tryz.prog 63 #[.agg #[.string ⟨c.n.toArray⟩,.bool c.f.is,c.vb,c.vl,.bool c.f.any],.int .i64 n] w fun e w'=> ∃v,e= .returned (.tuple #[v,.bool (c.f.after n.toNat).1])∧Row w' w.heap.size (c.f.after n.toNat).2 v∧Below w.heap.size w w':=by
 obtain⟨cn,f,vb0,vl⟩:=c;dsimp only at hc hl hw ⊢;obtain⟨ss,hs1,hs2,hs3⟩:=hc.row;obtain⟨la,lc,hvl,hcell⟩:=ownsRow_cell hs2;dsimp only at hvl hcell hs1 hs2 hs3;subst hvl;have HCELL:=hid (fun i (hi:i<f.l.length)=>partCells_at f.l ss i hi hs1);have HC2:=hid hcell;have HBTS:=hid hc.bts.1;have HS3:=hid hs3;obtain⟨vb',w1,hrun,hrow1,hg1,hlies1⟩:=run_bytes ((w.alloc (.cells #[.string ⟨cn.toArray⟩,.bool f.is,vb0,.slice la f.l.length lc,.bool f.any] 106)).alloc (.cells #[] 5)) (B:=w.heap.size) (v:= .slice (some ⟨w.heap.size+1,0,none⟩) 0 0) (xs:= []) (ys:=f.bs) (u:=vb0) (B':=B)
  (by have:=World.ownsRow_made (base:=w.heap.size) (e:=5) (size:=1) (w.alloc (.cells #[.string ⟨cn.toArray⟩,.bool f.is,vb0,.slice la f.l.length lc,.bool f.any] 106)) #[] 0 (by simp) (by unfold maxLen;omega) rfl
      simpa [Row] using this)
  (HBTS.out.keep fun k e=>by
   have:=(World.ownsRow.lt HBTS.out k e).2;rw[Below.heap_alloc _ _ _ (by simp;omega),Below.heap_alloc _ _ _ this]) (by have:=hw;unfold weigh at this;simp;omega) (by simp;omega)
 have hb0:Below w.heap.size w ((w.alloc (.cells #[.string ⟨cn.toArray⟩,.bool f.is,vb0,.slice la f.l.length lc,.bool f.any] 106)).alloc (.cells #[] 5)):=((Below.refl _ _).alloc (Nat.le_refl _) _).alloc (by simp) _;have hb1:Below w.heap.size w w1:=hb0.grown hg1 (by simp;omega) (fun q e=>by simp [Value.ownBlock] at e;omega);have hob1:w1.heap[w.heap.size]?=some (.cells #[.string ⟨cn.toArray⟩,.bool f.is,vb0,.slice la f.l.length lc,.bool f.any] 106 (0,0)):=by
  rw[hg1.block _ (by simp;omega) (by simp [Value.ownBlock]),Below.heap_alloc _ _ _ (by simp)];exact heap_alloc_new _ _
 obtain⟨va,vc,rfl,_⟩:=slice_shape hrow1;rw[List.nil_append] at hrow1;have HROW1:=hid hrow1;have HB1:=hid hb1;have HOB:=hid hob1;have HW:=hid hw;clear hrow1 hb1 hb0 hob1 hg1 hlies1 hs1 hs2 hs3 hcell hc hw;go_enter Tryz.func63,Tryz.ntmps63
 have q1:w1.cell? ⟨w.heap.size,1,none⟩=some (.bool f.is):=by rw[cell_of_row _ _ 1 _ _ _ HOB.out];rfl
 go_wp2_with (at_builtin;go_loud (refine Lib.wpList_append_run _ rfl _ _ _ _ rfl _ _ rfl rfl _ _ hrun ?_))
 clear hrun q1;go_loopw [6,7,8] (fun vb vs vi wr=> ∃m:Nat,vi= .int .i64 m∧m≤f.l.length∧(m=0∨(m:Int)≤n)∧vs= .bool (f.after m).1∧Row wr w.heap.size (f.after m).2 vb∧Below w.heap.size w wr∧wr.heap[w.heap.size]?=some (.cells #[.string ⟨cn.toArray⟩,.bool f.is,vb0,.slice la f.l.length lc,.bool f.any] 106 (0,0))∧w1.heap.size≤wr.heap.size) (fun _ _ vi _=>f.l.length - (intOf vi).toNat)
 case atStart=>exact⟨0,rfl,Nat.zero_le _,.inl rfl,rfl,HROW1.out,HB1.out,HOB.out,Nat.le_refl _⟩
 case round=>
  obtain⟨m,rfl,hm,hmn,rfl,hrow,hb,hob,hsz⟩:=hrel;have hb1s:=HB1.out.size;have c3:wr.cell? ⟨w.heap.size,3,none⟩=some (.slice la f.l.length lc):=by rw[cell_of_row _ _ 3 _ _ _ hob];rfl
  have HOBR:=hid hob;have HBR:=hid hb;obtain⟨aa,ac,rfl,_⟩:=slice_shape hrow;have HROW:=hid hrow;obtain⟨L,hL⟩: ∃L,L=(f.after m).2.length:=⟨_,rfl⟩;rw[←hL];have HLL:=hid hL;clear hob hb hrow hL;by_cases hml:m<f.l.length
  ·by_cases hmn2:(m:Int)<n
   ·obtain⟨e1,e2,e3⟩:=HCELL.out m hml
    obtain⟨g,rfl,hg,x1,_⟩:=HC2.out _ _ e1;obtain⟨g',eg,_,x2,_⟩:=HC2.out _ _ e2;cases eg;obtain⟨g',eg,_,x3,_⟩:=HC2.out _ _ e3;cases eg;replace x1:=(HBR.out.cell (p:=⟨g,m*3,none⟩) hg).trans x1;replace x2:=(HBR.out.cell (p:=⟨g,m*3+1,none⟩) hg).trans x2;replace x3:=(HBR.out.cell (p:=⟨g,m*3+2,none⟩) hg).trans x3;obtain⟨fl,hfl⟩: ∃b,b=f.l[m].flag:=⟨_,rfl⟩;obtain⟨gn,hgn⟩: ∃b,b=f.l[m].gone:=⟨_,rfl⟩;obtain⟨sv,hsv⟩: ∃b,b=ss.getD m undef:=⟨_,rfl⟩;rw[←hfl] at x1;rw[←hgn] at x2;rw[←hsv] at x3;have hd:=after_succ f m hml;rw[does_is,←hfl,←hgn] at hd;have HD:=hid hd;have HFL:=hid hfl;have hsr:=(HS3.out m hml).1;rw[←hsv] at hsr;obtain⟨sva,svc,hsvv,_⟩:=slice_shape hsr;obtain⟨sl,hsl⟩: ∃L,L=f.l[m].bytes.length:=⟨_,rfl⟩;rw[←hsl] at hsvv;subst hsvv;have HSR:=hid hsr;have hw1:=after_weigh f m;have hw2:=part_weigh f m hml;have hw3:=HW.out;have HWW:=hid (show(f.after m).2.length+(f.l[m].bytes).length≤2000000000 by omega);have HBW:=hid (show(f.l[m].bytes).length≤1000000000 by omega);clear e1 e2 e3 hfl hgn hsv hd hsr hsl hw1 hw2 hw3;have d1:decide ((m:Int)<(f.l.length:Int))=true:=by simp;omega
    have d2:decide ((m:Int)<n)=true:=by simp;omega
    have hrs:=HBR.out.size;have hW1:Below w.heap.size w (wr.alloc (.cells #[.bool fl,.bool gn,.slice sva sl svc] 108)):=HBR.out.alloc hrs _;have hob1:=(Below.heap_alloc wr (.cells #[.bool fl,.bool gn,.slice sva sl svc] 108) w.heap.size (lt_of_block HOBR.out)).trans HOBR.out;have hpo:=heap_alloc_new wr (.cells #[.bool fl,.bool gn,.slice sva sl svc] 108);cases fl with
    | true=>
     simp only[if_true] at HD;obtain⟨vn,w2,hrun,hrow2,hg2,hlies2⟩:=run_bytes ((wr.alloc (.cells #[.bool true,.bool gn,.slice sva sl svc] 108)).alloc (.cells #[] 5)) (B:=w.heap.size) (v:= .slice (some ⟨wr.heap.size+1,0,none⟩) 0 0) (xs:= []) (ys:=f.l[m].bytes) (u:= .slice sva sl svc) (B':=B)
      (by have:=World.ownsRow_made (base:=w.heap.size) (e:=5) (size:=1) (wr.alloc (.cells #[.bool true,.bool gn,.slice sva sl svc] 108)) #[] 0 (by simp;omega) (by unfold maxLen;omega) rfl
          simpa [Row] using this)
      (HSR.out.keep fun k e=>by
       have:=(World.ownsRow.lt HSR.out k e).2;rw[Below.heap_alloc _ _ _ (by simp;omega),Below.heap_alloc _ _ _ (by omega)];exact HBR.out.block _ this) (by have:=HBW.out;simp;omega) (by simp;omega)
     have hb2:Below w.heap.size w w2:=(hW1.alloc (by simp;omega) _).grown hg2 (by simp;omega) (fun q e=>by simp [Value.ownBlock] at e;omega);have hob2:=(hg2.block w.heap.size (by simp;omega) (by simp [Value.ownBlock];omega)).trans ((Below.heap_alloc _ (.cells #[] 5) w.heap.size (by simp;omega)).trans hob1);have hp2:=(hg2.block wr.heap.size (by simp;omega) (by simp [Value.ownBlock])).trans ((Below.heap_alloc _ (.cells #[] 5) wr.heap.size (by simp)).trans hpo);have hsz2:=hg2.size;simp at hsz2;have y1:w2.cell? ⟨wr.heap.size,1,none⟩=some (.bool gn):=by rw[cell_of_row _ _ 1 _ _ _ hp2];rfl
     obtain⟨na,nc,rfl,_⟩:=slice_shape hrow2;rw[List.nil_append] at hrow2;have HROW2:=hid hrow2;have HB2:=hid hb2;have HOB2:=hid hob2;clear hrow2 hb2 hob2 hp2 hg2 hlies2 hW1 hob1 hpo;obtain⟨L2,hL2⟩: ∃L,L=f.l[m].bytes.length:=⟨_,rfl⟩;have HL2:=hid hL2;simp only[List.nil_append] at hrun;rw[←hL2] at hrun;clear hL2;go_wp2_with (at_builtin;go_loud (refine Lib.wpList_append_run _ rfl _ _ _ _ rfl _ _ rfl rfl _ _ hrun ?_))
     go_roundw
     case rel=>exact⟨m+1,by go_num,by omega,.inr (by omega),by rw[HD.out],by rw[HD.out,HL2.out];exact HROW2.out,HB2.out,HOB2.out,by omega⟩
     case measure=>simp [intOf];omega
    | false=>
     simp only[Bool.false_eq_true,if_false] at HD;obtain⟨vn,w2,hrun,hrow2,hg2,hlies2⟩:=run_bytes (wr.alloc (.cells #[.bool false,.bool gn,.slice sva sl svc] 108)) (B:=w.heap.size) (v:= .slice aa L ac) (xs:=(f.after m).2) (ys:=f.l[m].bytes) (u:= .slice sva sl svc) (B':=B)
      (by rw[HLL.out];exact HROW.out.below ((Below.refl _ _).alloc (Nat.le_refl _) _))
      (HSR.out.keep fun k e=>by
       have:=(World.ownsRow.lt HSR.out k e).2;rw[Below.heap_alloc _ _ _ (by omega)];exact HBR.out.block _ this) (by have:=HWW.out;omega) (by simp;omega)
     have hnb: ∀q,(Value.slice aa L ac).ownBlock=some q→w.heap.size≤q∧q<wr.heap.size∧q≠w.heap.size:=fun q e=>by
      have h1:=World.ownsRow.lt HROW.out q (by rw[←HLL.out];exact e);refine⟨h1.1,h1.2,fun e'=>?_⟩;subst e';rcases HROW.out.2 with⟨he,_⟩ | ⟨g',cap,cur,he,_,hg',_⟩
      ·rw[←HLL.out] at he;rw[he] at e;cases e
      ·rw[←HLL.out] at he
       rw[he] at e;obtain rfl:g'=w.heap.size:=by simpa [Value.ownBlock] using e
       rw[HOBR.out] at hg';simp at hg'
     have hb2:Below w.heap.size w w2:=hW1.grown hg2 (by simp;omega) (fun q e=>(hnb q e).1);have hob2:=(hg2.block w.heap.size (by simp;omega) (fun e=>(hnb _ e.symm).2.2 rfl)).trans hob1;have hsz2:=hg2.size;simp at hsz2;obtain⟨na,nc,rfl,_⟩:=slice_shape hrow2;have HROW2:=hid hrow2;have HB2:=hid hb2;have HOB2:=hid hob2;clear hrow2 hb2 hob2 hg2 hlies2 hW1 hob1 hpo hnb;obtain⟨L2,hL2⟩: ∃L,L=((f.after m).2++f.l[m].bytes).length:=⟨_,rfl⟩;have HL2:=hid hL2;rw[←hL2] at hrun;clear hL2;go_wp2_with (at_builtin;go_loud (refine Lib.wpList_append_run _ rfl _ _ _ _ rfl _ _ rfl rfl _ _ hrun ?_))
     go_roundw
     case rel=>exact⟨m+1,by go_num,by omega,.inr (by omega),by rw[HD.out],by rw[HD.out,HL2.out];exact HROW2.out,HB2.out,HOB2.out,by omega⟩
     case measure=>simp [intOf];omega
   ·have d1:decide ((m:Int)<(f.l.length:Int))=true:=by simp;omega
    have d2:decide ((m:Int)<n)=false:=by simp;omega
    go_wp2_with fail
    go_ret2
    rw[show n.toNat=m by omega];exact⟨_,rfl,by rw[HLL.out];exact HROW.out,HBR.out⟩
  ·have d1:decide ((m:Int)<(f.l.length:Int))=false:=by simp;omega
   have e:f.after n.toNat=f.after m:=by
    unfold RFil.after;rcases hmn with h0 | h0
    ·have:f.l= []:=List.eq_nil_of_length_eq_zero (by omega)
     rw[this];simp
    ·rw[List.take_of_length_le (by omega),List.take_of_length_le (by omega)]
   go_wp2_with fail
   go_ret2
   rw[e];exact⟨_,rfl,by rw[HLL.out];exact HROW.out,HBR.out⟩
end Rd
end Go.Proofs.YtalfbcbnljhldaaGreatDoor

set_option linter.unusedSimpArgs false
namespace Go.Proofs.YtalfbcbnljhldaaGreatDoor
open Go.RowKit Go.Maps Dsk Rd
namespace Rd
def placeOf (F:List FC) (nm:Name):Int:=match F.findIdx? (fun c=>c.n == nm) with
 | some i=>i
 | none=> -1
theorem placeOf_cases (F:List FC) (nm:Name):(placeOf F nm= -1∧ ∀c∈F,c.n≠nm)∨ ∃i,∃h:i<F.length,placeOf F nm=(i:Int)∧F[i].n=nm∧ ∀j (hj:j<i),F[j].n≠nm:=by
 unfold placeOf;cases h:F.findIdx? (fun c=>c.n == nm) with
 | none=>
  left
  refine⟨rfl,fun c hc=>?_⟩;have:=List.findIdx?_eq_none_iff.1 h c hc;simpa using this
 | some i=>
  right
  obtain⟨h1,h2,h3⟩:=List.findIdx?_eq_some_iff_getElem.1 h;exact⟨i,h1,rfl,by simpa using h2,fun j hj=>by simpa using h3 j hj⟩
section
variable {w:World} {B g:Nat} {S:Nat→Prop} {F:List FC}
theorem RDisk.cell (h:RDisk w B S g F): ∃a c,w.cell? ⟨g,0,none⟩=some (.slice a F.length c)∧ ∀i x,(fileCells F)[i]?=some x→ ∃q,a=some ⟨q,0,none⟩∧q<w.heap.size∧w.cell? ⟨q,i,none⟩=some x∧w.frozen? ⟨q,i,none⟩=false:=by
 obtain⟨v,h1,h2,_⟩:=h.disk;obtain⟨a,c,rfl,hc⟩:=ownsRow_cell h2;exact⟨a,c,by rw[cell_of_row _ _ 0 _ _ _ h1];rfl,hc⟩
set_option maxRecDepth 100000 in
set_option maxHeartbeats 4000000 in
theorem place_any (h:RDisk w B S g F) (hF:F.length≤1000000000) (nm:Name):
  Calls Tryz.prog 56 #[.pointer (some ⟨g,0,none⟩),.string ⟨nm.toArray⟩] w fun e w'=>e= .returned (.int .i64 (placeOf F nm))∧w'=w:=by
 obtain⟨a,c,hg,hcell⟩:=h.cell;have HC:=Lib.hid hcell;have HP:=Lib.hid (placeOf_cases F nm);obtain⟨r,hr⟩: ∃r,r=placeOf F nm:=⟨_,rfl⟩;rw[←hr] at HP ⊢;clear hcell h hr;go_enter Tryz.func56,Tryz.ntmps56
 go_wp2_with fail
 go_loopw [5] (fun vi wr=> ∃m:Nat,vi= .int .i64 m∧m≤F.length∧wr=w∧ ∀j (hj:j<F.length),j<m→F[j].n≠nm) (fun vi _=>F.length - (intOf vi).toNat)
 case atStart=>exact⟨0,rfl,Nat.zero_le _,rfl,fun j _ hj=>by omega⟩
 case round=>
  obtain⟨m,rfl,hm,rfl,hno⟩:=hrel;have HNO:=Lib.hid hno;clear hno;by_cases hml:m<F.length
  ·have d1:decide ((m:Int)<(F.length:Int))=true:=by simp;omega
   obtain⟨q,rfl,hq,x1,_⟩:=HC.out _ _ (fileCells_at F m hml).1;by_cases hn:F[m].n=nm
   ·rw[hn] at x1
    go_wp2_with fail
    go_ret
    refine⟨?_,rfl⟩;rcases HP.out with⟨_,h2⟩ | ⟨i,hi,h1,h2,h3⟩
    ·exact absurd hn (h2 _ (List.getElem_mem hml))
    ·have:i=m:=by
      rcases Nat.lt_trichotomy i m with h' | h' | h'
      ·exact absurd h2 (HNO.out i hi h')
      ·exact h'
      ·exact absurd hn (h3 m h')
     rw[h1,this];rfl
   ·obtain⟨y,hy⟩: ∃y,y=F[m].n:=⟨_,rfl⟩
    have HNM:=Lib.hid hn;rw[←hy] at x1 hn;have dn:(y == nm)=false:=by simpa using hn
    clear hy hn;go_wp2_with fail
    go_roundw
    case rel=>exact⟨m+1,by go_num,by omega,trivial,fun j hj h'=>by
     rcases Nat.lt_succ_iff_lt_or_eq.1 h' with h' | rfl
     ·exact HNO.out j hj h'
     ·exact HNM.out⟩
    case measure=>simp [intOf];omega
  ·have d1:decide ((m:Int)<(F.length:Int))=false:=by simp;omega
   go_wp2_with fail
   go_ret
   refine⟨?_,rfl⟩;rcases HP.out with⟨h1,_⟩ | ⟨i,hi,h1,h2,h3⟩
   ·rw[h1];rfl
   ·exact absurd h2 (HNO.out i hi (by omega))
def rdRead (F:List FC) (nm:Name):Bool×List Int:=match F.find? (fun c=>c.n == nm) with
 | some c=>if (c.f.after c.f.l.length).1=true then(true,(c.f.after c.f.l.length).2) else(false,[])
 | none=>(false,[])
theorem find_at {F:List FC} {nm:Name} {i:Nat} (hi:i<F.length) (h1:F[i].n=nm) (h2: ∀j (hj:j<i),F[j].n≠nm):F.find? (fun c=>c.n == nm)=some F[i]:=by
 rw[List.find?_eq_some_iff_getElem];exact⟨by simpa using h1,i,hi,rfl,fun j hj=>by simpa using h2 j hj⟩
theorem find_no {F:List FC} {nm:Name} (h: ∀c∈F,c.n≠nm):F.find? (fun c=>c.n == nm)=none:=by
 rw[List.find?_eq_none];exact fun c hc=>by simpa using h c hc
def Small (F:List FC):Prop:=F.length≤1000000000∧ ∀c∈F,c.f.l.length≤1000000000∧weigh c.f≤1000000000
set_option maxRecDepth 100000 in
set_option maxHeartbeats 4000000 in
theorem rdread_any (h:RDisk w B S g F) (hs:Small F) (nm:Name):
  Calls Tryz.prog 30 #[.pointer (some ⟨g,0,none⟩),.string ⟨nm.toArray⟩] w fun e w'=> ∃v,e= .returned (.tuple #[v,.bool (rdRead F nm).1])∧Row w' w.heap.size (rdRead F nm).2 v∧Below w.heap.size w w':=by
 have HPL:=Lib.hid (place_any h hs.1 nm);have HD:=Lib.hid h;have HS:=Lib.hid hs;rcases placeOf_cases F nm with⟨h1,h2⟩ | ⟨i,hi,h1,h2,h3⟩
 ·rw[h1] at HPL
  have hr:rdRead F nm=(false,[]):=by unfold rdRead;rw[find_no h2]
  rw[hr];clear h hs h1 h2 hr;go_enter Tryz.func30,Tryz.ntmps30
  go_wp2_with fail
  refine HPL.out.mono ?_;rintro e w1 ⟨rfl,rfl⟩;go_wp2_with fail
  go_ret2
  exact⟨_,rfl,World.ownsRow_nil _ _ _ _,Below.refl _ _⟩
 ·rw[h1] at HPL
  obtain⟨c,hc⟩: ∃c,c=F[i]:=⟨_,rfl⟩;have hcF:c∈F:=by rw[hc];exact List.getElem_mem hi
  have hr:rdRead F nm=if (c.f.after c.f.l.length).1=true then(true,(c.f.after c.f.l.length).2) else(false,[]):=by unfold rdRead;rw[find_at hi h2 h3,←hc]
  obtain⟨a,cp,hg,hcell⟩:=h.cell;obtain⟨e0,e1,e2,e3,e4⟩:=fileCells_at F i hi;rw[←hc] at e0 e1 e2 e3 e4;obtain⟨q,rfl,hq,x0,_⟩:=hcell _ _ e0;obtain⟨q',eq',_,x1,_⟩:=hcell _ _ e1;cases eq';obtain⟨q',eq',_,x2,_⟩:=hcell _ _ e2;cases eq';obtain⟨q',eq',_,x3,_⟩:=hcell _ _ e3;cases eq';obtain⟨q',eq',_,x4,_⟩:=hcell _ _ e4;cases eq';obtain⟨la,lc,hvl,_⟩:=slice_shape (h.files c hcF).row.choose_spec.2.1;obtain⟨ba,bc,hvb,_⟩:=slice_shape (h.files c hcF).bts.1;have hca:=after_any (S:=S) (B:=B) c c.f.l.length (by have:=(hs.2 c hcF).1;omega) w.drew ((h.files c hcF).keep (w':=w.drew) (S':=S) (fun _ _=>rfl) (fun _ h'=>h')) (hs.2 c hcF).1 (hs.2 c hcF).2;rw[Int.toNat_natCast,hvl,hvb] at hca;rw[hvb] at x2;rw[hvl] at x3;have HCA:=Lib.hid hca;have HR:=Lib.hid hr;obtain⟨cn,hcn⟩: ∃x,x=c.n:=⟨_,rfl⟩;obtain⟨ci,hci⟩: ∃x,x=c.f.is:=⟨_,rfl⟩;obtain⟨cl,hcl⟩: ∃x,x=c.f.l.length:=⟨_,rfl⟩;obtain⟨cb,hcb⟩: ∃x,x=c.f.bs.length:=⟨_,rfl⟩;obtain⟨cy,hcy⟩: ∃x,x=c.f.any:=⟨_,rfl⟩;obtain⟨rs,hrs⟩: ∃x,x=c.f.after c.f.l.length:=⟨_,rfl⟩;rw[←hrs] at HCA HR;rw[←hcn] at x0 HCA;rw[←hci] at x1 HCA;rw[←hcb] at x2 HCA;rw[←hcl] at x3 HCA;rw[←hcy] at x4 HCA;obtain⟨fl,hfl⟩: ∃n,n=F.length:=⟨_,rfl⟩;have hi':i<fl:=by omega
  have hfl2:fl≤1000000000:=by have:=hs.1;omega
  rw[←hfl] at hg;clear h hs h1 h2 h3 hc hcF hr hcell e0 e1 e2 e3 e4 hvl hvb hca hcn hci hcl hcb hcy hrs hi hfl;have z1:decide ((i:Int)<0)=false:=by simp
  have z2:decide ((i:Int)<(fl:Int))=true:=by simp;omega
  go_enter Tryz.func30,Tryz.ntmps30
  go_wp2_with fail
  refine HPL.out.mono ?_;rintro e w1 ⟨rfl,rfl⟩;go_upto_region 4 with fail
  refine wp_region_held_drew (S:=fun W=>W.cell? ⟨g,0,none⟩=some (.slice (some ⟨q,0,none⟩) fl cp)∧W.cell? ⟨q,i*5,none⟩=some (.string ⟨cn.toArray⟩)∧W.cell? ⟨q,i*5+1,none⟩=some (.bool ci)∧W.cell? ⟨q,i*5+2,none⟩=some (.slice ba cb bc)∧W.cell? ⟨q,i*5+3,none⟩=some (.slice la cl lc)∧W.cell? ⟨q,i*5+4,none⟩=some (.bool cy)) (by kernel_rfl) ⟨hg,x0,x1,x2,x3,x4⟩ (fun hHeld=>?_);refine zkH 0 (v:=?_) (h2:=?_) (h:=?_);rotate_left;focus (rintro W ⟨q1,q2,q3,q4,q5,q6⟩;go_simp;(try with_reducible rfl))
  try simp only[Act.put,zsA,zsS,zsZ]
  refine zkH 1 (v:=?_) (h2:=?_) (h:=?_);rotate_left;focus (rintro W ⟨q1,q2,q3,q4,q5,q6⟩;go_simp;(try with_reducible rfl))
  try simp only[Act.put,zsA,zsS,zsZ]
  refine zkH 2 (v:=?_) (h2:=?_) (h:=?_);rotate_left;focus (rintro W ⟨q1,q2,q3,q4,q5,q6⟩;go_simp;(try with_reducible rfl))
  try simp only[Act.put,zsA,zsS,zsZ]
  refine zkH 3 (v:=?_) (h2:=?_) (h:=?_);rotate_left;focus (rintro W ⟨q1,q2,q3,q4,q5,q6⟩;go_simp;(try with_reducible rfl))
  try simp only[Act.put,zsA,zsS,zsZ]
  refine zkH 4 (v:=?_) (h2:=?_) (h:=?_);rotate_left;focus (rintro W ⟨q1,q2,q3,q4,q5,q6⟩;go_simp;(try with_reducible rfl))
  try simp only[Act.put,zsA,zsS,zsZ]
  refine zkH 5 (v:=?_) (h2:=?_) (h:=?_);rotate_left;focus (rintro W ⟨q1,q2,q3,q4,q5,q6⟩;go_simp;(try with_reducible rfl))
  try simp only[Act.put,zsA,zsS,zsZ]
  refine zkH 6 (v:=?_) (h2:=?_) (h:=?_);rotate_left;focus (rintro W ⟨q1,q2,q3,q4,q5,q6⟩;go_simp;(try with_reducible rfl))
  try simp only[Act.put,zsA,zsS,zsZ]
  refine zkH 7 (v:=?_) (h2:=?_) (h:=?_);rotate_left;focus (rintro W ⟨q1,q2,q3,q4,q5,q6⟩;go_simp;(try with_reducible rfl))
  try simp only[Act.put,zsA,zsS,zsZ]
  refine zkH 8 (v:=?_) (h2:=?_) (h:=?_);rotate_left;focus (rintro W ⟨q1,q2,q3,q4,q5,q6⟩;go_simp;(try with_reducible rfl))
  try simp only[Act.put,zsA,zsS,zsZ]
  refine zkH 9 (v:=?_) (h2:=?_) (h:=?_);rotate_left;focus (rintro W ⟨q1,q2,q3,q4,q5,q6⟩;go_simp;(try with_reducible rfl))
  try simp only[Act.put,zsA,zsS,zsZ]
  refine zkH 10 (v:=?_) (h2:=?_) (h:=?_);rotate_left;focus (rintro W ⟨q1,q2,q3,q4,q5,q6⟩;go_simp;(try with_reducible rfl))
  try simp only[Act.put,zsA,zsS,zsZ]
  refine zkH 11 (v:=?_) (h2:=?_) (h:=?_);rotate_left;focus (rintro W ⟨q1,q2,q3,q4,q5,q6⟩;go_simp;(try with_reducible rfl))
  try simp only[Act.put,zsA,zsS,zsZ]
  refine zkH 12 (v:=?_) (h2:=?_) (h:=?_);rotate_left;focus (rintro W ⟨q1,q2,q3,q4,q5,q6⟩;go_simp;(try with_reducible rfl))
  try simp only[Act.put,zsA,zsS,zsZ]
  refine zkH 13 (v:=?_) (h2:=?_) (h:=?_);rotate_left;focus (rintro W ⟨q1,q2,q3,q4,q5,q6⟩;go_simp;(try with_reducible rfl))
  try simp only[Act.put,zsA,zsS,zsZ]
  refine zkH 14 (v:=?_) (h2:=?_) (h:=?_);rotate_left;focus (rintro W ⟨q1,q2,q3,q4,q5,q6⟩;go_simp;(try with_reducible rfl))
  try simp only[Act.put,zsA,zsS,zsZ]
  refine zkH 15 (v:=?_) (h2:=?_) (h:=?_);rotate_left;focus (rintro W ⟨q1,q2,q3,q4,q5,q6⟩;go_simp;(try with_reducible rfl))
  try simp only[Act.put,zsA,zsS,zsZ]
  refine zrH 16 (h:=fun K hK=>?_);rw[if_pos (by rfl)];go_simp
  refine HCA.out.mono ?_;rintro e w2 ⟨v,rfl,hrow,hb⟩;have hbb:Below w1.heap.size w1 w2:=(Below.refl _ _).drew.trans hb;have hgl:=World.block_lt_of_cell? w1 ⟨g,0,none⟩ hg;have HROW:=Lib.hid hrow;have HBB:=Lib.hid hbb;clear hrow hb hbb;go_wp2_with fail
  refine hK.out _ _ ⟨(HBB.out.cell (p:=⟨g,0,none⟩) hgl).trans hg,(HBB.out.cell (p:=⟨q,i*5,none⟩) hq).trans x0,(HBB.out.cell (p:=⟨q,i*5+1,none⟩) hq).trans x1,(HBB.out.cell (p:=⟨q,i*5+2,none⟩) hq).trans x2,(HBB.out.cell (p:=⟨q,i*5+3,none⟩) hq).trans x3,(HBB.out.cell (p:=⟨q,i*5+4,none⟩) hq).trans x4⟩ (fun hHeld=>?_);clear hK K;try simp only[Act.put,zsA,zsS,zsZ]
  refine zkH 17 (v:=?_) (h2:=?_) (h:=?_);rotate_left;focus (rintro W ⟨q1,q2,q3,q4,q5,q6⟩;go_simp;(try with_reducible rfl))
  try simp only[Act.put,zsA,zsS,zsZ]
  refine zkH 18 (v:=?_) (h2:=?_) (h:=?_);rotate_left;focus (rintro W ⟨q1,q2,q3,q4,q5,q6⟩;go_simp;(try with_reducible rfl))
  try simp only[Act.put,zsA,zsS,zsZ]
  refine zkH 19 (v:=?_) (h2:=?_) (h:=?_);rotate_left;focus (rintro W ⟨q1,q2,q3,q4,q5,q6⟩;go_simp;(try with_reducible rfl))
  try simp only[Act.put,zsA,zsS,zsZ]
  refine zkH 20 (v:=?_) (h2:=?_) (h:=?_);rotate_left;focus (rintro W ⟨q1,q2,q3,q4,q5,q6⟩;go_simp;(try with_reducible rfl))
  try simp only[Act.put,zsA,zsS,zsZ]
  refine zkH 21 (v:=?_) (h2:=?_) (h:=?_);rotate_left;focus (rintro W ⟨q1,q2,q3,q4,q5,q6⟩;go_simp;(try with_reducible rfl))
  try simp only[Act.put,zsA,zsS,zsZ]
  refine wpAnyH_done (by kernel_rfl) ?_ _;clear hHeld HCA HPL;obtain⟨ri,rb⟩:=rs;try dsimp only at HROW
  try dsimp only at HR
  try dsimp only
  cases ri with
  | true=>
   go_wp2_with fail
   go_ret2
   rw[HR.out];exact⟨_,rfl,HROW.out,HBB.out⟩
  | false=>
   go_wp2_with fail
   go_ret2
   rw[HR.out];exact⟨_,rfl,World.ownsRow_nil _ _ _ _,HBB.out⟩
end
end Rd
end Go.Proofs.YtalfbcbnljhldaaGreatDoor
