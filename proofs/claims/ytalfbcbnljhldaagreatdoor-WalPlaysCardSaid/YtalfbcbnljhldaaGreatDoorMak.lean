/-  -/
import Derived.Test.YtalfbcbnljhldaaGreatDoorRdJ
import Derived.Test.YtalfbcbnljhldaaGreatDoorMae
namespace Go.Proofs.YtalfbcbnljhldaaGreatDoor
open Go.RowKit Go.Maps Dsk Rd
namespace Rd
section
variable {w w':World} {B g:Nat} {S S':Nat→Prop} {F F':List FC}
def AtIs (F:List FC) (nm:Name) (F':List FC) (i:Nat):Prop:=(placeOf F nm=(i:Int)∧F'=F)∨(placeOf F nm= -1∧F'=insF F nm∧i=posL (absF F) nm)
theorem AtIs.at_ {nm:Name} {i:Nat} (h:AtIs F nm F' i): ∃hi:i<F'.length,F'[i].n=nm:=by
 rcases h with⟨h1,rfl⟩ | ⟨h1,rfl,rfl⟩
 ·rcases placeOf_cases F' nm with⟨h2,_⟩ | ⟨j,hj,h2,h3,_⟩
  ·rw[h1] at h2;omega
  ·rw[h1] at h2
   obtain rfl:i=j:=by omega
   exact⟨hj,h3⟩
 ·obtain⟨hp,e⟩:=ins_at (absF F) nm
  have e2:=insF_abs F nm;have hl:posL (absF F) nm<(insF F nm).length:=by
   have:=congrArg List.length e2;simp only[absF,List.length_map] at this;rw[this];exact hp
  refine⟨hl,?_⟩;have e3:(absF (insF F nm))[posL (absF F) nm]'(by simpa [absF] using hl)=(nm,RFil.zero):=by
   rw[List.getElem_of_eq e2];exact e
  have:=congrArg Prod.fst e3;simpa [absF] using this
theorem at_any (h:RDisk w B S g F) (hF:F.length≤900000000) (nm:Name):
  Calls Tryz.prog 55 #[.pointer (some ⟨g,0,none⟩),.string ⟨nm.toArray⟩] w fun e w'=> ∃(F':List FC) (i:Nat),e= .returned (.int .i64 (i:Int))∧Apart S w w'∧RDisk w' B (More S w w') g F'∧AtIs F nm F' i:=by
 rcases placeOf_cases F nm with⟨h1,_⟩ | ⟨i,hi,h1,_⟩
 ·refine(at_new h hF nm h1).mono ?_
  rintro e w' ⟨rfl,h2,h3⟩;exact⟨_,_,rfl,h2,h3,.inr ⟨h1,rfl,rfl⟩⟩
 ·refine(at_old h (by omega) nm i h1).mono ?_
  rintro e w' ⟨rfl,rfl⟩;exact⟨F,i,rfl,Apart.refl _ _,h.more,.inl ⟨h1,rfl⟩⟩
theorem FC.At.keepV {c:FC} (h:c.At w B S) (hu: ∀k cs fr,S k→w.heap[k]?=some (.cells cs 5 fr)→w'.heap[k]?=w.heap[k]?) (hv: ∀k,c.vl.ownBlock=some k→w'.heap[k]?=w.heap[k]?) (hs: ∀k,S k→S' k):c.At w' B S':=by
 obtain⟨ss,h1,h2,h3⟩:=h.row;have hb: ∀ {zs v},RB w B S zs v→RB w' B S' zs v:=fun h=>⟨ownsRow_keepT h.1 fun k cs fr e hc=>hu k cs fr (h.2 k e) hc,fun k e=>hs k (h.2 k e)⟩;exact⟨hb h.bts,⟨ss,h1,ownsRow_keep h2 fun k e=>hv k e,fun i hi=>hb (h3 i hi)⟩,fun k e=>hs k (h.own k e)⟩
theorem FC.At.vl_type {c:FC} (h:c.At w B S) {k:Nat} (e:c.vl.ownBlock=some k): ∃cs,w.heap[k]?=some (.cells cs 108 (0,0)):=by
 obtain⟨ss,h1,h2,h3⟩:=h.row;rcases h2.2 with⟨e2,_⟩ | ⟨g,cap,cur,e2,_,hg,_⟩
 ·rw[e2] at e;cases e
 ·rw[e2] at e;cases e;exact⟨_,hg⟩
theorem RDisk.q_type {q cp:Nat} (h:RDisk w B S g F) (hcell:w.cell? ⟨g,0,none⟩=some (.slice (some ⟨q,0,none⟩) F.length cp)):(∃cs,w.heap[q]?=some (.cells cs 106 (0,0)))∧S q∧ ∃v,v=Value.slice (some ⟨q,0,none⟩) F.length cp∧w.heap[g]?=some (.cells #[v] 29 (0,0))∧w.ownsRow B 106 5 v F.length (fileCells F):=by
 obtain⟨v0,h1,h2,h3⟩:=h.disk;rw[cell_of_row _ _ 0 _ _ _ h1] at hcell;obtain rfl:v0= .slice (some ⟨q,0,none⟩) F.length cp:=by simpa using hcell
 refine⟨?_,h3 q rfl,_,rfl,h1,h2⟩;rcases h2.2 with⟨e,_⟩ | ⟨g',cap,cur,e,_,hg,_⟩
 ·cases e
 ·cases e;exact⟨_,hg⟩
theorem fileCells_set1 (F:List FC) (i:Nat) (hi:i<F.length) (b:Bool):(fileCells F).set (i*5+4) (.bool b)=fileCells (F.set i ⟨F[i].n,{F[i].f with any:=b},F[i].vb,F[i].vl⟩):=by
 have h:=fileCells_set F i ⟨F[i].n,{F[i].f with any:=b},F[i].vb,F[i].vl⟩ hi;obtain⟨e0,e1,e2,e3,_⟩:=fileCells_at F i hi;have hs: ∀ {j:Nat} {x:Value},(fileCells F)[j]?=some x→(fileCells F).set j x=fileCells F:=fun {j x} e=>by
  obtain⟨hj,e⟩:=List.getElem?_eq_some_iff.1 e;rw[←e,List.set_getElem_self]
 rw[←h];simp only[];rw[hs e0,hs e1,hs e2,hs e3]
theorem fileCells_set3 (F:List FC) (i:Nat) (hi:i<F.length) (l:List RPart) (v:Value):(fileCells F).set (i*5+3) v=fileCells (F.set i ⟨F[i].n,{F[i].f with l:=l},F[i].vb,v⟩):=by
 have h:=fileCells_set F i ⟨F[i].n,{F[i].f with l:=l},F[i].vb,v⟩ hi;obtain⟨e0,e1,e2,_,e4⟩:=fileCells_at F i hi;have hs: ∀ {L:List Value} {j:Nat} {x:Value},L[j]?=some x→L.set j x=L:=fun {L j x} e=>by
  obtain⟨hj,e⟩:=List.getElem?_eq_some_iff.1 e;rw[←e,List.set_getElem_self]
 rw[←h];simp only[];rw[hs e0,hs e1,hs e2,hs (L:=(fileCells F).set (i*5+3) v) (by rw[List.getElem?_set_ne (by omega)];exact e4)]
theorem pair_set {F:List FC} {i:Nat} {c:FC} (h:F.Pairwise fun c d=> ∀k,c.vl.ownBlock=some k→d.vl.ownBlock≠some k) (hc: ∀j (hj:j<F.length),j≠i→ ∀k,c.vl.ownBlock=some k→F[j].vl.ownBlock≠some k):(F.set i c).Pairwise fun c d=> ∀k,c.vl.ownBlock=some k→d.vl.ownBlock≠some k:=by
 rw[List.pairwise_iff_getElem] at h ⊢;intro a b ha hb hab k e1 e2;rw[List.length_set] at ha hb;rw[List.getElem_set] at e1 e2;split at e1
 ·rename_i ea
  subst ea;rw[if_neg (by omega)] at e2;exact hc b hb (by omega) k e1 e2
 ·split at e2
  ·rename_i eb
   subst eb;exact hc a ha (by omega) k e2 e1
  ·exact h a b ha hb hab k e1 e2
theorem RDisk.any {i q cp:Nat} (h:RDisk w B S g F) (hi:i<F.length) (hcell:w.cell? ⟨g,0,none⟩=some (.slice (some ⟨q,0,none⟩) F.length cp)):
  RDisk (w.setCell ⟨q,i*5+4,none⟩ (.bool true)) B S g (F.set i ⟨F[i].n,{F[i].f with any:=true},F[i].vb,F[i].vl⟩)∧ ∀k,k≠q→(w.setCell ⟨q,i*5+4,none⟩ (.bool true)).heap[k]?=w.heap[k]?:=by
 obtain⟨⟨cs,hq⟩,hSq,v,rfl,h1,h2⟩:=h.q_type hcell;obtain⟨v0,hd1,hd2,hd3⟩:=h.disk;have hne: ∀k,k≠q→(w.setCell ⟨q,i*5+4,none⟩ (.bool true)).heap[k]?=w.heap[k]?:=fun k hk=>Below.heap_setCell _ _ _ _ hk;have hgq:g≠q:=fun e=>by subst e;rw[h1] at hq;cases hq
 have hsz:(w.setCell ⟨q,i*5+4,none⟩ (.bool true)).heap.size=w.heap.size:=by simp [World.setCell]
 have hk: ∀c∈F,c.At (w.setCell ⟨q,i*5+4,none⟩ (.bool true)) B S:=fun c hc=>(h.files c hc).keepT (fun k cs' ty fr hs hcs hty=>hne k fun e=>by
  subst e;rw[hq] at hcs;cases hcs;rcases hty with h | h<;>cases h) fun _ h=>h
 have hst:=(h2.stored (i*5+4) (.bool true)).1;rw[fileCells_set1 F i hi] at hst;refine⟨⟨⟨_,(hne g hgq).trans h1,by rw[List.length_set];exact hst,fun k e=>by cases e;exact hSq⟩,fun c hc=>?_,pair_set h.apart fun j hj hji k e1 e2=>?_,fun k hs=>⟨(h.hS k hs).1,by rw[hsz];exact(h.hS k hs).2⟩,h.hg⟩,hne⟩
 ·rcases List.mem_or_eq_of_mem_set hc with hc | rfl
  ·exact hk c hc
  ·have:=hk F[i] (List.getElem_mem hi)
   exact⟨this.bts,this.row,this.own⟩
 ·have:=List.pairwise_iff_getElem.1 h.apart
  rcases Nat.lt_trichotomy i j with h3 | h3 | h3
  ·exact this i j hi hj h3 k e1 e2
  ·exact hji h3.symm
  ·exact this j i hj hi h3 k e2 e1
theorem RDisk.part {i q cp:Nat} (h:RDisk w B S g F) (hi:i<F.length) (hcell:w.cell? ⟨g,0,none⟩=some (.slice (some ⟨q,0,none⟩) F.length cp)) {U U':World} (hU:Below w.heap.size w U) {v' s:Value} {p:RPart} {ss:List Value}
  (hss:ss.length=F[i].f.l.length∧ ∀j (hj:j<F[i].f.l.length),RB w B S F[i].f.l[j].bytes (ss.getD j undef)) (hrow:U'.ownsRow B 108 3 v' (F[i].f.l.length+1) (partCells (F[i].f.l++ [p]) (ss++ [s])))
  (hgr:U.grownBy U' F[i].vl.ownBlock) (hlies:v'.ownBlock=F[i].vl.ownBlock∨v'.ownBlock=some U.heap.size∧U.heap.size<U'.heap.size) (hs:Row U' w.heap.size p.bytes s):
  Apart S w (U'.setCell ⟨q,i*5+3,none⟩ v')∧RDisk (U'.setCell ⟨q,i*5+3,none⟩ v') B (More S w (U'.setCell ⟨q,i*5+3,none⟩ v')) g (F.set i ⟨F[i].n,{F[i].f with l:=F[i].f.l++ [p]},F[i].vb,v'⟩):=by
 obtain⟨⟨cs,hq⟩,hSq,v,rfl,h1,h2⟩:=h.q_type hcell;have hqw:=(h.hS q hSq).2;have hBw:B≤w.heap.size:=by have:=h.hS q hSq;omega
 have hne: ∀k,k≠q→(U'.setCell ⟨q,i*5+3,none⟩ v').heap[k]?=U'.heap[k]?:=fun k hk=>Below.heap_setCell _ _ _ _ hk;have hsz:(U'.setCell ⟨q,i*5+3,none⟩ v').heap.size=U'.heap.size:=by simp [World.setCell]
 have hci:=h.files F[i] (List.getElem_mem hi);have hvS: ∀k,F[i].vl.ownBlock=some k→S k:=hci.own;have hold: ∀k,k<w.heap.size→F[i].vl.ownBlock≠some k→U'.heap[k]?=w.heap[k]?:=fun k hk hn=>(hgr.block k (Nat.lt_of_lt_of_le hk hU.size) fun e=>hn e.symm).trans (hU.block k hk);have hqv:F[i].vl.ownBlock≠some q:=fun e=>by
  obtain⟨cs',e2⟩:=hci.vl_type e;rw[hq] at e2;cases e2
 have hgq:g≠q:=fun e=>by subst e;rw[h1] at hq;cases hq
 have hgv:F[i].vl.ownBlock≠some g:=fun e=>by
  obtain⟨cs',e2⟩:=hci.vl_type e;rw[h1] at e2;cases e2
 have hgw:=h.hS g h.hg;have hsize:w.heap.size≤U'.heap.size:=Nat.le_trans hU.size hgr.size;have hap:Apart S w (U'.setCell ⟨q,i*5+3,none⟩ v'):=⟨hgr.os.trans hU.os,hgr.tape.trans hU.tape,hgr.output.trans hU.output,by rw[hsz];exact hsize,fun k hk hn=>(hne k fun e=>hn (e ▸ hSq)).trans (hold k hk fun e=>hn (hvS k e))⟩;have hu8: ∀k cs fr,S k→w.heap[k]?=some (.cells cs 5 fr)→(U'.setCell ⟨q,i*5+3,none⟩ v').heap[k]?=w.heap[k]?:=fun k cs' fr hSk hc=>(hne k fun e=>by subst e;rw[hq] at hc;cases hc).trans (hold k (h.hS k hSk).2 fun e=>by
  obtain⟨cs2,e2⟩:=hci.vl_type e;rw[hc] at e2;cases e2)
 have hrq:U'.ownsRow B 106 5 (.slice (some ⟨q,0,none⟩) F.length cp) F.length (fileCells F):=ownsRow_keep h2 fun k e=>by
  cases e;exact hold q hqw hqv
 have hst:=(hrq.stored (i*5+3) v').1;rw[fileCells_set3 F i hi (F[i].f.l++ [p])] at hst;have hpw:=List.pairwise_iff_getElem.1 h.apart;have hother: ∀j (hj:j<F.length),j≠i→ ∀k,F[j].vl.ownBlock=some k→F[i].vl.ownBlock≠some k:=fun j hj hji k e1 e2=>by
  rcases Nat.lt_trichotomy i j with h3 | h3 | h3
  ·exact hpw i j hi hj h3 k e2 e1
  ·exact hji h3.symm
  ·exact hpw j i hj hi h3 k e1 e2
 have hvB: ∀k,v'.ownBlock=some k→S k∨(w.heap.size≤k∧k<U'.heap.size):=fun k e=>by
  rcases hlies with e2 | ⟨e2,e3⟩
  ·exact .inl (hvS k (by rw[←e2];exact e))
  ·rw[e2] at e;cases e;exact .inr ⟨hU.size,e3⟩
 have hmore: ∀k,S k→More S w (U'.setCell ⟨q,i*5+3,none⟩ v') k:=fun k hk=> .inl hk;refine⟨hap,⟨⟨_,(hne g hgq).trans ((hold g hgw.2 hgv).trans h1),by rw[List.length_set];exact hst,fun k e=>by cases e;exact .inl hSq⟩,fun c hc=>?_,pair_set h.apart fun j hj hji k e1 e2=>?_,fun k hk=>?_,.inl h.hg⟩⟩
 ·obtain⟨j,hj,ej⟩:=List.getElem_of_mem hc
  rw[List.length_set] at hj;rw[List.getElem_set] at ej;split at ej
  ·subst ej
   have hb: ∀ {zs x},RB w B S zs x→RB (U'.setCell ⟨q,i*5+3,none⟩ v') B (More S w (U'.setCell ⟨q,i*5+3,none⟩ v')) zs x:=fun hx=>⟨ownsRow_keepT hx.1 fun k cs fr e hc=>hu8 k cs fr (hx.2 k e) hc,fun k e=> .inl (hx.2 k e)⟩;refine⟨hb hci.bts,⟨ss++ [s],by simp [hss.1],?_,fun m hm=>?_⟩,fun k e=>?_⟩
   ·simp only[List.length_append,List.length_singleton]
    refine ownsRow_keepT hrow fun k cs' fr e hc=>hne k fun e2=>?_;subst e2;have hq':=(hold k hqw hqv).trans hq;rw[hq'] at hc;cases hc
   ·simp only[List.length_append,List.length_singleton] at hm
    by_cases hml:m<F[i].f.l.length
    ·have e1:(F[i].f.l++ [p])[m]'(by simp;omega)=F[i].f.l[m]:=List.getElem_append_left hml
     have e2:(ss++ [s]).getD m undef=ss.getD m undef:=by
      rw[List.getD_eq_getElem?_getD,List.getD_eq_getElem?_getD,List.getElem?_append_left (by rw[hss.1];exact hml)]
     simp only[e1,e2];exact hb (hss.2 m hml)
    ·obtain rfl:m=F[i].f.l.length:=by omega
     have e1:(F[i].f.l++ [p])[F[i].f.l.length]'(by simp)=p:=by simp
     have e2:(ss++ [s]).getD F[i].f.l.length undef=s:=by
      rw[List.getD_eq_getElem?_getD,List.getElem?_append_right (by rw[hss.1];exact Nat.le_refl _),hss.1];simp
     simp only[e1,e2];refine⟨ownsRow_less (ownsRow_keepT hs fun k cs fr e hc=>hne k fun e2=>?_) hBw,fun k e=>?_⟩
     ·subst e2
      have:=(World.ownsRow.lt hs k e).1;omega
     ·have:=World.ownsRow.lt hs k e
      exact .inr ⟨this.1,by rw[hsz];exact this.2⟩
   ·rcases hvB k e with h3 | h3
    ·exact .inl h3
    ·exact .inr ⟨h3.1,by rw[hsz];exact h3.2⟩
  ·rename_i hij
   subst ej;refine(h.files F[j] (List.getElem_mem hj)).keepV hu8 (fun k e=>?_) hmore;have hSk:=(h.files F[j] (List.getElem_mem hj)).own k e;exact(hne k fun e2=>by
    subst e2;obtain⟨cs',e3⟩:=(h.files F[j] (List.getElem_mem hj)).vl_type e;rw[hq] at e3;cases e3).trans (hold k (h.hS k hSk).2 (hother j hj (fun e=>hij e.symm) k e))
 ·rcases hlies with e3 | ⟨e3,_⟩
  ·exact hother j hj hji k e2 (by rw[←e3];exact e1)
  ·rw[e3] at e1
   cases e1;have:=(h.hS _ ((h.files F[j] (List.getElem_mem hj)).own _ e2)).2;have:=hU.size;omega
 ·rcases hk with hk | ⟨h3,h4⟩
  ·exact⟨(h.hS k hk).1,by rw[hsz];exact Nat.lt_of_lt_of_le (h.hS k hk).2 hsize⟩
  ·exact⟨by omega,h4⟩
end
end Rd
end Go.Proofs.YtalfbcbnljhldaaGreatDoor

namespace Go.Proofs.YtalfbcbnljhldaaGreatDoor
open Go.RowKit Go.Maps Dsk Rd
namespace Rd
structure Ex (S:Nat→Prop) (w w':World) (S':Nat→Prop):Prop where
 ap:Apart S w w'
 sub: ∀k,S' k→More S w w' k
theorem Ex.trans {S S1 S2:Nat→Prop} {a b c:World} (h:Ex S a b S1) (k:Ex S1 b c S2):Ex S a c S2:=
 ⟨h.ap.trans k.ap fun i hi hs=>by
  rcases h.sub i hs with h1 | ⟨h1,_⟩
  ·exact h1
  ·omega,fun i hi=>by
  have:=h.ap.size;have:=k.ap.size;rcases k.sub i hi with h1 | ⟨h1,h2⟩
  ·rcases h.sub i h1 with h3 | ⟨h3,h4⟩
   ·exact .inl h3
   ·exact .inr ⟨h3,by omega⟩
  ·exact .inr ⟨by omega,h2⟩⟩
theorem Ex.of_more {S:Nat→Prop} {w w':World} (h:Apart S w w'):Ex S w w' (More S w w'):=⟨h,fun _ h=>h⟩
theorem Ex.of_below {S:Nat→Prop} {w w':World} (h:Below w.heap.size w w'):Ex S w w' S:=⟨Apart.of_below h,fun _ hk=> .inl hk⟩
theorem RDisk.ex {w0 w':World} {B g:Nat} {S S':Nat→Prop} {F0 F:List FC} (h0:RDisk w0 B S g F0) (h:RDisk w' B S' g F) (he:Ex S w0 w' S'):RDisk w' B (More S w0 w') g F:=
 h.mono he.sub fun k hk=>by
  have hg:=h0.hS g h0.hg;rcases hk with hk | ⟨h1,h2⟩
  ·exact⟨(h0.hS k hk).1,Nat.lt_of_lt_of_le (h0.hS k hk).2 he.ap.size⟩
  ·exact⟨by omega,h2⟩
theorem Ex.store {S:Nat→Prop} {w:World} {q j:Nat} {v:Value} (hq:S q):Ex S w (w.setCell ⟨q,j,none⟩ v) S:=
 ⟨⟨rfl,rfl,rfl,by simp [World.setCell],fun k _ hn=>Below.heap_setCell _ _ _ _ fun e=>hn (e ▸ hq)⟩,fun _ hk=> .inl hk⟩
theorem run_bytesR (w:World) {B:Nat} {v:Value} {xs ys:List Int} {a:Option Addr} {c:Nat} (hv:Row w B xs v) (hu:Reads w a ys) (hn:a=none→c=0) (hl:xs.length+ys.length≤1000000000000) (hB:B≤w.heap.size):
  ∃v' w',(Builtin.append_ #[39,39] 39 #[v,.slice a ys.length c]).run Tryz.prog w= .ok v' w'∧Row w' B (xs++ys) v'∧w.grownBy w' v.ownBlock∧(v'.ownBlock=v.ownBlock∨v'.ownBlock=some w.heap.size):=by
 obtain⟨i0,hi,hz0,hz1,hz2⟩:=info_parts info5;obtain⟨v',w',hrun,hown,hg,hlies⟩:=run_append_lies (P:=Tryz.prog) w B 39 39 5 i0 (.int .u8 0) 1 1 Tryz.underlying39 hi hz0 hz1 hz2 rfl (by decide) v xs.length _ hv a ys.length c (ys.map (Value.int .u8)) (by simp) (fun e=>⟨(by
  rcases Nat.eq_zero_or_pos ys.length with h | h
  ·exact h
  ·obtain⟨x,hx,_⟩:=hu.cell 0 h
   rw[e] at hx;cases hx),hn e⟩) (fun ad e j x hx=>by
  subst e;have hj:j<ys.length:=by
   have:=(List.getElem?_eq_some_iff.1 hx).1;simpa using this
  rw[hu.at hj,←hx];simp [List.getElem?_eq_getElem hj,List.getD]) (fun u hu=>by obtain⟨x,_,rfl⟩:=List.mem_map.1 hu;rfl) (by unfold maxLen;omega) (by omega) hB
 refine⟨v',w',hrun,?_,hg,hlies⟩;unfold Row;rw[List.length_append,List.map_append];exact hown
def putF (F:List FC) (i:Nat) (p:RPart):RL:=match F[i]? with
 | none=>absF F
 | some c=>(absF F).set i (c.n,⟨c.f.is,c.f.bs,c.f.l++ [p],true⟩)
theorem putF_at {F:List FC} {i:Nat} (hi:i<F.length) (p:RPart):putF F i p=(absF F).set i (F[i].n,⟨F[i].f.is,F[i].f.bs,F[i].f.l++ [p],true⟩):=by
 unfold putF;rw[List.getElem?_eq_getElem hi]
theorem Rel.put {M:Files} {F F1:List FC} {nm:Name} {i:Nat} (h:Rel M (absF F)) (ha:AtIs F nm F1 i) {f:Fil} {p:RPart} (hf:f.ref=⟨(M.at nm).ref.is,(M.at nm).ref.bs,(M.at nm).ref.l++ [p],true⟩):Rel (upd M nm (some f)) (putF F1 i p):=by
 obtain⟨hi,hn⟩:=ha.at_;rw[putF_at hi,hn];rcases ha with⟨h1,rfl⟩ | ⟨h1,rfl,rfl⟩
 ·rcases h.place nm with⟨h2,_⟩ | ⟨j,hj,h2,h3,q,hq,he⟩
  ·rw[h1] at h2;omega
  ·rw[h1] at h2
   obtain rfl:i=j:=by omega
   have hs:=h.set (i:=i) (by simpa [absF] using hi) hf;have e1:(absF F1)[i]'(by simpa [absF] using hi)=(F1[i].n,F1[i].f):=by simp [absF]
   rw[e1] at hs;simp only[hn] at hs;have hat:M.at nm=q:=by simp [Files.at,hq]
   rw[hat,←he] at hs;exact hs
 ·have hno:M nm=none:=by
   rcases h.place nm with⟨_,h3⟩ | ⟨j,hj,h2,_⟩
   ·exact h3
   ·rw[h1] at h2;omega
  have hs:=h.ins hno hf;rw[insF_abs];have e3:(absF (insF F nm))[posL (absF F) nm]'(by simpa [absF] using hi)=(nm,RFil.zero):=by
   rw[List.getElem_of_eq (insF_abs F nm)];exact(ins_at (absF F) nm).2
  have e4:(insF F nm)[posL (absF F) nm].f=RFil.zero:=by
   have:=congrArg Prod.snd e3;simpa [absF] using this
  have hat:(M.at nm).ref=RFil.zero:=by simp [Files.at,hno,zero_ref]
  rw[hat] at hs;rw[e4];exact hs
theorem RDisk.open3 {w:World} {B g q fl dc i:Nat} {S:Nat→Prop} {F:List FC} (h:RDisk w B S g F) (hdc:w.cell? ⟨g,0,none⟩=some (.slice (some ⟨q,0,none⟩) fl dc)) (hi:i<F.length):
  ∃la ll lc ss,F[i].vl= .slice la ll lc∧ll=F[i].f.l.length∧ss.length=F[i].f.l.length∧w.ownsRow B 108 3 (.slice la ll lc) ll (partCells F[i].f.l ss)∧(∀j (hj:j<F[i].f.l.length),RB w B S F[i].f.l[j].bytes (ss.getD j undef))∧
   w.cell? ⟨q,i*5+3,none⟩=some (.slice la ll lc)∧w.frozen? ⟨q,i*5+3,none⟩=false:=by
 obtain⟨da,dc',hdc',hcells⟩:=h.cell;rw[hdc] at hdc';obtain⟨e0,e1,e2,e3,e4⟩:=fileCells_at F i hi;obtain⟨q',eq,hq,x3,f3⟩:=hcells _ _ e3;subst eq;obtain⟨rfl,rfl,rfl⟩:q=q'∧fl=F.length∧dc=dc':=by simpa using hdc'
 obtain⟨ss,h1,h2,h3⟩:=(h.files F[i] (List.getElem_mem hi)).row;obtain⟨la,lc,e,_⟩:=slice_shape h2;rw[e] at h2 x3;exact⟨la,_,lc,ss,e,rfl,h1,h2,h3,x3,f3⟩
def anyF (F:List FC) (i:Nat):List FC:=match F[i]? with
 | none=>F
 | some c=>F.set i ⟨c.n,{c.f with any:=true},c.vb,c.vl⟩
theorem anyF_at {F:List FC} {i:Nat} (hi:i<F.length):anyF F i=F.set i ⟨F[i].n,{F[i].f with any:=true},F[i].vb,F[i].vl⟩:=by
 unfold anyF;rw[List.getElem?_eq_getElem hi]
theorem anyF_len (F:List FC) (i:Nat):(anyF F i).length=F.length:=by
 unfold anyF;split
 ·rfl
 ·exact List.length_set
theorem anyF_get {F:List FC} {i:Nat} (hi:i<F.length):(anyF F i)[i]'(by rw[anyF_len];exact hi)=⟨F[i].n,{F[i].f with any:=true},F[i].vb,F[i].vl⟩:=by
 rw[List.getElem_of_eq (anyF_at hi)];simp
theorem anyF_put {F:List FC} {i:Nat} (hi:i<F.length) (p:RPart) (v:Value) {c:FC} (hc:c=(anyF F i)[i]'(by rw[anyF_len];exact hi)):absF ((anyF F i).set i ⟨c.n,{c.f with l:=c.f.l++ [p]},c.vb,v⟩)=putF F i p:=by
 rw[anyF_get hi] at hc;subst hc;rw[putF_at hi,anyF_at hi,List.set_set];unfold absF;rw[List.map_set]
theorem RDisk.vl_ne {w:World} {B g q fl dc i:Nat} {S:Nat→Prop} {F:List FC} (h:RDisk w B S g F) (hdc:w.cell? ⟨g,0,none⟩=some (.slice (some ⟨q,0,none⟩) fl dc)) (hi:i<F.length):F[i].vl.ownBlock≠some g∧F[i].vl.ownBlock≠some q:=by
 obtain⟨da,dc',hdc',hcells⟩:=h.cell;rw[hdc] at hdc';obtain⟨e0,-⟩:=fileCells_at F i hi;obtain⟨q',eq,-⟩:=hcells _ _ e0;subst eq;obtain⟨rfl,rfl,rfl⟩:q=q'∧fl=F.length∧dc=dc':=by simpa using hdc'
 obtain⟨⟨cs,hq⟩,-,v,rfl,h1,-⟩:=h.q_type hdc;refine⟨fun e=>?_,fun e=>?_⟩
 ·obtain⟨cs',e2⟩:=(h.files F[i] (List.getElem_mem hi)).vl_type e
  rw[h1] at e2;cases e2
 ·obtain⟨cs',e2⟩:=(h.files F[i] (List.getElem_mem hi)).vl_type e
  rw[hq] at e2;cases e2
theorem cell_grown {w U U':World} {a:Addr} {v:Value} {vb:Option Nat} (hb:Below w.heap.size w U) (hg:U.grownBy U' vb) (hc:w.cell? a=some v) (hne:vb≠some a.block):U'.cell? a=some v:=
 hg.cell (stays' hb hc) fun e=>hne e.symm
theorem RDisk.anyx {w:World} {B g q cp i:Nat} {S:Nat→Prop} {F:List FC} (h:RDisk w B S g F) (hi:i<F.length) (hcell:w.cell? ⟨g,0,none⟩=some (.slice (some ⟨q,0,none⟩) F.length cp)):
  RDisk (w.setCell ⟨q,i*5+4,none⟩ (.bool true)) B S g (anyF F i)∧(w.setCell ⟨q,i*5+4,none⟩ (.bool true)).cell? ⟨g,0,none⟩=some (.slice (some ⟨q,0,none⟩) F.length cp)∧S q:=by
 obtain⟨h1,h2⟩:=h.any hi hcell;obtain⟨⟨cs,hqt⟩,hSq,-⟩:=h.q_type hcell;have hgq:g≠q:=fun e=>by
  subst e;obtain⟨v9,h3,_⟩:=h.disk;rw[hqt] at h3;cases h3
 refine⟨by rw[anyF_at hi];exact h1,?_,hSq⟩;rw[←hcell];exact World.cell?_of_block (a:=⟨g,0,none⟩) (h2 g hgq)
end Rd
end Go.Proofs.YtalfbcbnljhldaaGreatDoor

set_option linter.unusedSimpArgs false
namespace Go.Proofs.YtalfbcbnljhldaaGreatDoor
open Go.Lib (hid)
open Go.RowKit Go.Maps Dsk Rd
namespace Rd
section
variable {w:World} {B g:Nat} {S:Nat→Prop} {F:List FC}
set_option maxRecDepth 100000 in
set_option maxHeartbeats 8000000 in
theorem remove_some (h:RDisk w B S g F) (hs:Small F) (hF:F.length≤900000000) (nm:Name) (h0:nm.length≠0) (h1:nm.length≤64) (hr:(rdRead F nm).1=true) (hsm: ∀c∈F,c.f.l.length≤900000000):
  Calls Tryz.prog 29 #[.pointer (some ⟨g,0,none⟩),.string ⟨nm.toArray⟩] w fun e w'=>e= .returned (.int .i64 0)∧Apart S w w'∧ ∃F' F1 i,AtIs F nm F1 i∧RDisk w' B (More S w w') g F'∧absF F'=putF F1 i (.whole true []):=by
 have hsz:(⟨nm.toArray⟩:ByteArray).size=nm.length:=rfl;have HR:=hid (rdread_any h hs nm);rw[hr] at HR;have z1:((nm.length:Int) == 0)=false:=by simp;intro e;exact h0 (by rw[e];rfl)
 have z2:decide ((64:Int)<(nm.length:Int))=false:=by simp;omega
 have HD:=hid h;have HFL9:=hid hF;have HSM:=hid hsm;clear h hs hr hF hsm;go_enter Tryz.func29,Tryz.ntmps29
 go_wp2_with fail
 refine HR.out.mono ?_;rintro e w1 ⟨v,rfl,_,hb⟩;have HB:=hid hb;clear hb HR;go_wp2_with fail
 refine(at_any (HD.out.below HB.out) HFL9.out nm).mono ?_;rintro e w2 ⟨F1,i,rfl,hap,hda,hat⟩;have HAT:=hid hat;have HDA:=hid hda;have HE:=hid ((Ex.of_below HB.out).trans (Ex.of_more hap));have HF1:=hid (show F1.length≤1000000000 by
  rcases hat with⟨_,rfl⟩ | ⟨_,rfl,_⟩
  ·have:=HFL9.out;omega
  ·have:=HFL9.out
   have:=posL_le (absF F) nm;simp only[absF,List.length_map] at this;unfold insF;simp;omega)
 have HSMF:=hid (show∀F2,F2=anyF F1 i→ ∀(hi:i<F2.length),F2[i].f.l.length≤900000000 from fun F2 e hi=>by
  subst e;rw[anyF_len] at hi;rw[anyF_get hi];show F1[i].f.l.length≤900000000;rcases hat with⟨_,rfl⟩ | ⟨_,rfl,rfl⟩
  ·exact HSM.out _ (List.getElem_mem hi)
  ·rcases insF_mem (List.getElem_mem hi) with h | ⟨n,h⟩
   ·exact HSM.out _ h
   ·rw[h];simp [FC.zero,RFil.zero])
 clear hap hda hat;obtain⟨hi1,hn1⟩:=HAT.out.at_;obtain⟨da,dc,hdc,hcells⟩:=HDA.out.cell;obtain⟨-,-,-,-,e4⟩:=fileCells_at F1 i hi1;obtain⟨q,eq,hq,x4,f4⟩:=hcells _ _ e4;subst eq;obtain⟨oa,hoa⟩: ∃b,b=F1[i].f.any:=⟨_,rfl⟩;rw[←hoa] at x4;clear hoa;obtain⟨hany,hdc3,hSq⟩:=HDA.out.anyx hi1 hdc;have HEA:=hid (HE.out.trans (Ex.store (j:=i*5+4) (v:= .bool true) hSq));obtain⟨fl,hfl⟩: ∃x,x=F1.length:=⟨_,rfl⟩;rw[←hfl] at hdc hdc3;have hfl9:fl≤1000000000:=by rw[hfl];exact HF1.out
 have hif:(i:Int)<(fl:Int):=by omega
 have hif2:i<fl:=by omega
 have hif3:decide ((i:Int)<(fl:Int))=true:=decide_eq_true hif;have hib:(i:Int)≤1000000000:=by omega
 have hi0:(0:Int)≤i:=by omega
 have hi0d:decide ((i:Int)<0)=false:=by simp
 obtain⟨w3,hw3⟩: ∃W,W=w2.setCell ⟨q,i*5+4,none⟩ (.bool true):=⟨_,rfl⟩;rw[←hw3] at hany hdc3 HEA;obtain⟨F2,hF2⟩: ∃x,x=anyF F1 i:=⟨_,rfl⟩;rw[←hF2] at hany;have hi2:i<F2.length:=by rw[hF2,anyF_len];exact hi1
 have HPUT:=hid (fun(p:RPart) (v:Value)=>anyF_put hi1 p v (c:=F2[i]) (by simp only[hF2]));rw[←hF2] at HPUT;obtain⟨la,ll,lc,ss,hvl,hll,hssl,hprow,hpb,x3,f3⟩:=hany.open3 hdc3 hi2;have HAN:=hid hany;have HW3:=hid hw3;have HFL:=hid hfl;have HC3:=hid hdc3;have HX3:=hid x3;have HF3:=hid f3;have HVL:=hid hvl;have HLL:=hid hll;have HSSL:=hid hssl;have HPROW:=hid hprow;have HPB:=hid hpb;have HLM:=hid (show ll≤1000000000 by rw[hll];exact Nat.le_trans (HSMF.out F2 hF2 hi2) (by decide));have HNE:=hid (hany.vl_ne hdc3 hi2);have HGQ:=hid (show q<w3.heap.size by rw[hw3];simpa [World.setCell] using hq);have HF2L:=hid (show fl=F2.length by rw[hF2,anyF_len,hfl]);clear hany hSq hw3 hdc3 hcells e4 hfl hi1 hn1 hq hF2 hvl hll hssl hprow hpb x3 f3 hfl9;go_wp2_with fail
 rw[←HW3.out];clear hdc x4 f4;obtain⟨u,hu⟩: ∃u,u=w3.drew:=⟨_,rfl⟩;have HBu:=hid (show Below w3.heap.size w3 u by rw[hu];exact(Below.refl _ _).drew);refine wp_region_heldM_drew 18 (S:=fun W=>W.cell? ⟨g,0,none⟩=some (.slice (some ⟨q,0,none⟩) fl dc)∧W.cell? ⟨q,i*5+3,none⟩=some (.slice la ll lc)) (by kernel_rfl) (by rw[←hu];exact⟨stays' HBu.out HC3.out,stays' HBu.out HX3.out⟩) (fun hHeld=>?_);rw[←hu] at hHeld ⊢;clear hu;have HUu:=hid (Below.refl u.heap.size u);have HCK:=hid (fun W (hW:Below u.heap.size u W)=>(⟨stays' hW (stays' HBu.out HC3.out),stays' hW (stays' HBu.out HX3.out)⟩:W.cell? ⟨g,0,none⟩=some (.slice (some ⟨q,0,none⟩) fl dc)∧W.cell? ⟨q,i*5+3,none⟩=some (.slice la ll lc)));have HPRu:=hid (fun W (hW:Below u.heap.size u W)=>(ownsRow_keep HPROW.out fun k e=>(hW.block k (Nat.lt_of_lt_of_le (World.ownsRow.lt HPROW.out k e).2 HBu.out.size)).trans (HBu.out.block k (World.ownsRow.lt HPROW.out k e).2):W.ownsRow B 108 3 (.slice la ll lc) ll (partCells F2[i].f.l ss)));refine zkM 0 (v:=?_) (h2:=?_) (h:=?_);rotate_left;focus (rintro W ⟨q1,q2⟩;go_simp;(try with_reducible rfl))
 try simp only[Act.put,zsA,zsS,zsZ]
 refine zkM 1 (v:=?_) (h2:=?_) (h:=?_);rotate_left;focus (rintro W ⟨q1,q2⟩;go_simp;(try with_reducible rfl))
 try simp only[Act.put,zsA,zsS,zsZ]
 refine zkM 2 (v:=?_) (h2:=?_) (h:=?_);rotate_left;focus (rintro W ⟨q1,q2⟩;go_simp;(try with_reducible rfl))
 try simp only[Act.put,zsA,zsS,zsZ]
 refine zkM 3 (v:=?_) (h2:=?_) (h:=?_);rotate_left;focus (rintro W ⟨q1,q2⟩;go_simp;(try with_reducible rfl))
 try simp only[Act.put,zsA,zsS,zsZ]
 refine zkM 4 (v:=?_) (h2:=?_) (h:=?_);rotate_left;focus (rintro W ⟨q1,q2⟩;go_simp;(try with_reducible rfl))
 try simp only[Act.put,zsA,zsS,zsZ]
 refine zkM 5 (v:=?_) (h2:=?_) (h:=?_);rotate_left;focus (rintro W ⟨q1,q2⟩;go_simp;(try with_reducible rfl))
 try simp only[Act.put,zsA,zsS,zsZ]
 refine zkM 6 (v:=?_) (h2:=?_) (h:=?_);rotate_left;focus (rintro W ⟨q1,q2⟩;go_simp;(try with_reducible rfl))
 try simp only[Act.put,zsA,zsS,zsZ]
 refine zkM 7 (v:=?_) (h2:=?_) (h:=?_);rotate_left;focus (rintro W ⟨q1,q2⟩;go_simp;(try with_reducible rfl))
 try simp only[Act.put,zsA,zsS,zsZ]
 refine zkM 8 (v:=?_) (h2:=?_) (h:=?_);rotate_left;focus (rintro W ⟨q1,q2⟩;go_simp;(try with_reducible rfl))
 try simp only[Act.put,zsA,zsS,zsZ]
 refine zkM 9 (v:=?_) (h2:=?_) (h:=?_);rotate_left;focus (rintro W ⟨q1,q2⟩;go_simp;(try with_reducible rfl))
 try simp only[Act.put,zsA,zsS,zsZ]
 refine zkM 10 (v:=?_) (h2:=?_) (h:=?_);rotate_left;focus (rintro W ⟨q1,q2⟩;go_simp;(try with_reducible rfl))
 try simp only[Act.put,zsA,zsS,zsZ]
 refine zkM 11 (v:=?_) (h2:=?_) (h:=?_);rotate_left;focus (rintro W ⟨q1,q2⟩;go_simp;(try with_reducible rfl))
 try simp only[Act.put,zsA,zsS,zsZ]
 refine zkM 12 (v:=?_) (h2:=?_) (h:=?_);rotate_left;focus (rintro W ⟨q1,q2⟩;go_simp;(try with_reducible rfl))
 try simp only[Act.put,zsA,zsS,zsZ]
 refine zkM 13 (v:=?_) (h2:=?_) (h:=?_);rotate_left;focus (rintro W ⟨q1,q2⟩;go_simp;(try with_reducible rfl))
 try simp only[Act.put,zsA,zsS,zsZ]
 refine zrM 14 (h:=fun K hK=>?_);rw[if_pos (by rfl)];go_simp
 obtain⟨pv,hpv⟩: ∃x:Array Value,x= #[.bool true,.bool true,.slice none 0 0]:=⟨_,rfl⟩;rw[←hpv];have hal:Below u.heap.size u (u.alloc (.cells pv 108)):=(Below.refl _ _).alloc (Nat.le_refl _) _;have HUal:=hid (HUu.out.trans (hal.mono HUu.out.size));have hs:=HCK.out _ HUal.out;have HPV:=hid hpv;clear hpv hal;refine hK.out _ _ hs (fun hHeld=>?_);clear hK K;try simp only[Act.put,zsA,zsS,zsZ]
 refine zrM 15 (h:=fun K hK=>?_);rw[if_pos (by rfl)];have hpsz:pv.size=3:=by rw[HPV.out];rfl
 obtain⟨v2,wp,hrun,ho2,hg2,hlies2⟩:=run_one u (t:=104) Tryz.underlying104 info_part rfl (by decide) (HPRu.out _ HUu.out) pv hpsz (fun x hx=>by rw[HPV.out] at hx;simp at hx;rcases hx with rfl | rfl | rfl<;>rfl) HLM.out (by decide) (by have:=(HAN.out.hS g HAN.out.hg);have:=HBu.out.size;have:=HUu.out.size;omega);refine wp_append_runR rfl rfl rfl hrun ?_;have HG2:=hid hg2;have HO2:=hid ho2;have HLIES:=hid hlies2;have hbu3:=HBu.out.trans (HUal.out.mono HBu.out.size);have hne1:(Value.slice la ll lc).ownBlock≠some g:=by rw[←HVL.out];exact HNE.out.1
 have hne2:(Value.slice la ll lc).ownBlock≠some q:=by rw[←HVL.out];exact HNE.out.2
 have HSK:=hid (⟨cell_grown hbu3 HG2.out HC3.out hne1,cell_grown hbu3 HG2.out HX3.out hne2⟩:wp.cell? ⟨g,0,none⟩=some (.slice (some ⟨q,0,none⟩) fl dc)∧wp.cell? ⟨q,i*5+3,none⟩=some (.slice la ll lc));have hs2:=HSK.out;clear hbu3 hne1 hne2;clear hrun ho2 hg2 hlies2 hpsz;refine hK.out _ _ hs2 (fun hHeld=>?_);clear hK K;try simp only[Act.put,zsA,zsS,zsZ]
 refine zrM 16 (h:=fun K hK=>?_);rw[if_pos (by rfl)];have q1:=HSK.out.1;go_simp
 clear q1;have hs3:=HSK.out;refine hK.out _ _ hs3 (fun hHeld=>?_);clear hK K;try simp only[Act.put,zsA,zsS,zsZ]
 refine zkM 17 (v:=?_) (h2:=?_) (h:=?_);rotate_left;focus (rintro W ⟨q1,q2⟩;go_simp;(try with_reducible rfl))
 try simp only[Act.put,zsA,zsS,zsZ]
 refine zrL 18 (h:=fun K hK=>?_);rw[if_pos (by rfl)];have hmemo:(Value.slice la ll lc).ownBlock=F2[i].vl.ownBlock:=by rw[HVL.out]
 have ho3:=HO2.out;have hpc:partCells F2[i].f.l ss++pv.toList=partCells (F2[i].f.l++ [.whole true []]) (ss++ [.slice none 0 0]):=by rw[partCells_snoc _ _ _ _ HSSL.out,HPV.out];rfl
 rw[hpc,HLL.out] at ho3;have hbu3:Below w3.heap.size w3 (u.alloc (.cells pv 108)):=HBu.out.trans (HUal.out.mono HBu.out.size);have hvS: ∀k,(Value.slice la ll lc).ownBlock=some k→k<w3.heap.size:=fun k e=>(World.ownsRow.lt HPROW.out k e).2;have HEND:=hid (HAN.out.part hi2 (by rw[←HF2L.out];exact HC3.out) hbu3 (v':=v2) (s:= .slice none 0 0) (p:= .whole true []) ⟨HSSL.out,HPB.out⟩ ho3 (by rw[←hmemo];exact HG2.out) (by
  rw[←hmemo];rcases HLIES.out with e | e
  ·exact .inl e
  ·refine .inr ⟨by rw[e];simp,?_⟩
   have:=(World.ownsRow.lt HO2.out _ e).2;simp;exact this) (World.ownsRow_nil _ _ _ _))
 have hgf:wp.frozen? ⟨q,i*5+3,none⟩=false:=by
  have hqb:=HG2.out.block q (Nat.lt_of_lt_of_le HGQ.out hbu3.size) (fun e=>by
   rw[hmemo] at e;exact HNE.out.2 e.symm)
  have h1:=hqb.trans (hbu3.block q HGQ.out);rw[World.frozen?_of_block (w:=w3) (a:=⟨q,i*5+3,none⟩) h1];exact HF3.out
 obtain⟨a2,c2,hv2,_⟩:=slice_shape ho3;subst hv2;obtain⟨nn,hnn⟩: ∃x,F2[i].f.l.length+1=x:=⟨_,rfl⟩;rw[hnn] at HEND ⊢;go_simp
 clear hgf hnn ho3 hpc hbu3 hvS hmemo;refine hK.out _ _ ?_;clear hK K;try simp only[Act.put,zsA,zsS,zsZ]
 go_wp2_with fail
 go_ret
 exact⟨rfl,(HEA.out.trans (Ex.of_more HEND.out.1)).ap,_,F1,i,HAT.out,HD.out.ex HEND.out.2 (HEA.out.trans (Ex.of_more HEND.out.1)),HPUT.out _ _⟩
end
end Rd
end Go.Proofs.YtalfbcbnljhldaaGreatDoor
