/-  -/
import Derived.Test.YtalfbcbnljhldaaGreatDoorMai
import Derived.RangeFuncBox
import Derived.Test.YtalfbcbnljhldaaGreatDoorMae
set_option linter.unusedSimpArgs false
namespace Go.Proofs.YtalfbcbnljhldaaGreatDoor
open Go.Lib (hid)
open Go.RowKit Go.Maps Dsk Rd
namespace Rd
theorem wp_append_runR {P:Program} {o:Oper} {a:Act} {w w':World} {v v' x:Value} {s y:Operand} {t:TypeId} {K:Act→World→Prop} {Q:Exit→Act→World→Prop}
  (ho:o.op= .call {callee:= .builtin .append,args:= #[s,y],argTypes:= #[t,t]}) (hs:a.eval s=v) (hx:a.eval y=x) (hr:(Builtin.append_ #[t,t] o.type #[v,x]).run P w= .ok v' w') (hk:K (a.put o.dst v') w'):o.wp P a w K Q:=by
 unfold Oper.wp execOp;simp only[ho,resolve,invoke,builtin,Sem.run_bind,Sem.run_pure,Result.andThen_ok,List.map_toArray,List.map_cons,List.map_nil,hs,hx,hr];exact hk
theorem absF_erase: ∀(F:List FC) (i:Nat),absF (F.eraseIdx i)=(absF F).eraseIdx i
 | [],i=>by simp [absF]
 | c::F,0=>by simp [absF]
 | c::F,i+1=>by
  have:=absF_erase F i;simp only[absF,List.eraseIdx_cons_succ,List.map_cons] at this ⊢;rw[this]
theorem keep_gone {w u3:World} {B g base i:Nat} {S:Nat→Prop} {F:List FC} {v2 v00:Value} (h:RDisk w B S g F) (hb:Below w.heap.size w u3) (hgd:w.heap[g]?=some (.cells #[v00] 29 (0,0)))
  (hr:u3.ownsRow base 106 5 v2 (F.eraseIdx i).length (fileCells (F.eraseIdx i))) (hbase:w.heap.size≤base):
  Apart S w (u3.setCell ⟨g,0,none⟩ v2)∧RDisk (u3.setCell ⟨g,0,none⟩ v2) B (More S w (u3.setCell ⟨g,0,none⟩ v2)) g (F.eraseIdx i):=by
 have hg:=h.hS g h.hg;have hne: ∀k,k≠g→(u3.setCell ⟨g,0,none⟩ v2).heap[k]?=u3.heap[k]?:=fun k hk=>Below.heap_setCell _ _ _ _ hk;have hsz:(u3.setCell ⟨g,0,none⟩ v2).heap.size=u3.heap.size:=by simp [World.setCell]
 have hap:Apart S w (u3.setCell ⟨g,0,none⟩ v2):=⟨hb.os,hb.tape,hb.output,by rw[hsz];exact hb.size,fun k hk hn=>(hne k fun e=>hn (e ▸ h.hg)).trans (hb.block k hk)⟩;have hg3:Boxed u3 g 29 v00:=(hb.block g hg.2).trans hgd;refine⟨hap,h.erase hap (Boxed.set v2 hg3) (ownsRow_keepT (ownsRow_less hr hbase) fun k cs fr e hc=>hne k fun e2=>?_) fun k hk hkg=>(hne k hkg).trans (hb.block k hk)⟩;subst e2;have:=(World.ownsRow.lt (ownsRow_less hr hbase) k e).1;omega
theorem stays' {w w':World} {p:Addr} {v:Value} (hb:Below w.heap.size w w') (h:w.cell? p=some v):w'.cell? p=some v:=(hb.cell (World.block_lt_of_cell? w p h)).trans h
theorem frz {w w':World} {q i:Nat} (hb:Below w.heap.size w w') (hq:q<w.heap.size) (h:w.frozen? ⟨q,i,none⟩=false):w'.frozen? ⟨q,i,none⟩=false:=(World.frozen?_of_block (w:=w) (a:=⟨q,i,none⟩) (hb.block q hq)).trans h
section
variable {w:World} {B g:Nat} {S:Nat→Prop} {F:List FC}
set_option maxRecDepth 100000 in
set_option maxHeartbeats 4000000 in
theorem keep_any (h:RDisk w B S g F) (hs:Small F) {i:Nat} (hi:i<F.length) (hp:placeOf F F[i].n=(i:Int)) (n:Int) (hn: -9223372036854775808≤n∧n≤9223372036854775807):
  Calls Tryz.prog 49 #[.pointer (some ⟨g,0,none⟩),.string ⟨F[i].n.toArray⟩,.int .i64 n] w fun e w'=>e= .returned (.tuple #[])∧Apart S w w'∧ ∃F',RDisk w' B (More S w w') g F'∧absF F'=rdKeep (absF F) i n.toNat:=by
 have hBw:B≤w.heap.size:=by have:=h.hS g h.hg;omega
 have hgw:=(h.hS g h.hg).2;obtain⟨v00,hgd,_,hvS⟩:=h.disk;obtain⟨c,hc⟩: ∃c,c=F[i]:=⟨_,rfl⟩;have hcF:c∈F:=by rw[hc];exact List.getElem_mem hi
 have hk:=rdKeep_at hi n.toNat;rw[←hc] at hk hp ⊢;have HPL:=hid (place_any h hs.1 c.n);rw[hp] at HPL;obtain⟨a,cp,hg,hcell⟩:=h.cell;obtain⟨e0,e1,e2,e3,e4⟩:=fileCells_at F i hi;rw[←hc] at e0 e1 e2 e3 e4;obtain⟨q,rfl,hq,x0,f0⟩:=hcell _ _ e0;obtain⟨q',eq',_,x1,f1⟩:=hcell _ _ e1;cases eq';obtain⟨q',eq',_,x2,f2⟩:=hcell _ _ e2;cases eq';obtain⟨q',eq',_,x3,f3⟩:=hcell _ _ e3;cases eq';obtain⟨q',eq',_,x4,f4⟩:=hcell _ _ e4;cases eq';have hv00:v00= .slice (some ⟨q,0,none⟩) F.length cp:=by
  rw[cell_of_row _ _ 0 _ _ _ hgd] at hg;simpa using hg
 have hfc0:F.length≤cp:=by
  have h2:=h.disk;obtain⟨v1,k1,k2,_⟩:=h2;rw[hgd] at k1;cases k1;rw[hv00] at k2;rcases k2.2 with⟨e,_⟩ | ⟨_,_,_,e,_,_,k3,_⟩
  ·cases e
  ·cases e;exact k3
 have hSq:S q:=hvS q (by rw[hv00];rfl);obtain⟨la,lc,hvl,_⟩:=slice_shape (h.files c hcF).row.choose_spec.2.1;obtain⟨ba,bc,hvb,_⟩:=slice_shape (h.files c hcF).bts.1;have hca:=after_any (S:=S) (B:=B) c n hn w (h.files c hcF) (hs.2 c hcF).1 (hs.2 c hcF).2;rw[hvl,hvb] at hca;rw[hvb] at x2;rw[hvl] at x3;have HCA:=hid hca;have HKK:=hid hk;have HCELL:=hid hcell;have HD:=hid h;have HS:=hid hs;have HCC:=hid hc;have HCF:=hid hcF;have HGD:=hid hgd;have HF0:=hid f0;have HF1:=hid f1;have HF2:=hid f2;have HF3:=hid f3;have HF4:=hid f4;have HX0:=hid x0;have HX1:=hid x1;have HX2:=hid x2;have HX3:=hid x3;have HX4:=hid x4;obtain⟨cn,hcn⟩: ∃x,x=c.n:=⟨_,rfl⟩;obtain⟨ci,hci⟩: ∃x,x=c.f.is:=⟨_,rfl⟩;obtain⟨cl,hcl⟩: ∃x,x=c.f.l.length:=⟨_,rfl⟩;obtain⟨cb,hcb⟩: ∃x,x=c.f.bs.length:=⟨_,rfl⟩;obtain⟨cy,hcy⟩: ∃x,x=c.f.any:=⟨_,rfl⟩;obtain⟨rs,hrs⟩: ∃x,x=c.f.after n.toNat:=⟨_,rfl⟩;rw[←hrs] at HCA HKK;rw[←hcn] at x0 HX0 HCA HKK HPL ⊢;rw[←hci] at x1 HX1 HCA;rw[←hcb] at x2 HX2 HCA;rw[←hcl] at x3 HX3 HCA;rw[←hcy] at x4 HX4 HCA;obtain⟨fl,hfl⟩: ∃n,n=F.length:=⟨_,rfl⟩;have hi':i<fl:=by omega
 have hfl2:fl≤1000000000:=by have:=hs.1;omega
 rw[←hfl] at hg hfc0;have HFC:=hid hfc0;have HFL:=hid hfl;have HG0:=hid hg;have hFN: ∀d∈F,d.vb.oneCell'=true∧d.vl.oneCell'=true:=fun d hd=>by
  obtain⟨a1,c1,z1,_⟩:=slice_shape (HD.out.files d hd).row.choose_spec.2.1;obtain⟨a2,c2,z2,_⟩:=slice_shape (HD.out.files d hd).bts.1;rw[z1,z2];exact⟨rfl,rfl⟩
 have HFN:=hid hFN;have HV00:=hid hv00;have HVS:=hid hvS;clear hfc0 h hs hp hc hcF hk hcell e0 e1 e2 e3 e4 hvl hvb hca hcn hci hcl hcb hcy hrs hfl f0 f1 f2 f3 f4 hgd hFN hv00 hvS;have z2:decide ((i:Int)<(fl:Int))=true:=by simp;omega
 have z3:(i:Int)<(fl:Int):=by omega
 go_enter Tryz.func49,Tryz.ntmps49
 go_wp2_with fail
 refine HPL.out.mono ?_;rintro e w1 ⟨rfl,rfl⟩;clear HPL;go_wp2_with fail
 refine HCA.out.mono ?_;rintro e w2 ⟨v,rfl,hrow,hb⟩;have hg2:=stays' hb HG0.out;clear HCA hg x0 x1 x2 x3 x4;obtain⟨va,vc,rfl,_⟩:=slice_shape hrow;obtain⟨vn,hvn⟩: ∃m,m=rs.2.length:=⟨_,rfl⟩;rw[←hvn];have HROW:=hid hrow;have HB:=hid hb;have HVN:=hid hvn;clear hrow hb hvn;obtain⟨r1,hr1⟩: ∃r,rs.1=r:=⟨_,rfl⟩;rw[hr1];have HR1:=hid hr1;clear hr1;cases r1 with
 | true=>
  have y0:=stays' HB.out HX0.out;have y1:=stays' HB.out HX1.out;have y2:=stays' HB.out HX2.out;have y3:=stays' HB.out HX3.out;have y4:=stays' HB.out HX4.out;have g0:=frz HB.out hq HF0.out;have g1:=frz HB.out hq HF1.out;have g2:=frz HB.out hq HF2.out;have g3:=frz HB.out hq HF3.out;have g4:=frz HB.out hq HF4.out;go_wp2_with fail
  have hd2:RDisk w2 B (More S w1 w2) g F:=(HD.out.below HB.out).mono (fun k hk=> .inl hk) fun k hk=>by
   rcases hk with hk | ⟨h1,h2⟩
   ·exact⟨(HD.out.hS k hk).1,Nat.lt_of_lt_of_le (HD.out.hS k hk).2 HB.out.size⟩
   ·exact⟨by omega,h2⟩
  have hrow:=HROW.out;rw[←HVN.out] at hrow;obtain⟨p1,p2,p3⟩:=hd2.put hi hg2 hrow (fun k e=> .inr (World.ownsRow.lt hrow k e)) hq cn hBw;have hsz:(((((w2.setCell ⟨q,i*5,none⟩ (.string ⟨cn.toArray⟩)).setCell ⟨q,i*5+1,none⟩ (.bool true)).setCell ⟨q,i*5+2,none⟩ (.slice va vn vc)).setCell ⟨q,i*5+3,none⟩ (.slice none 0 0)).setCell ⟨q,i*5+4,none⟩ (.bool false)).heap.size=w2.heap.size:=by simp [World.setCell]
  go_end0
  refine⟨rfl,⟨HB.out.os,HB.out.tape,HB.out.output,by rw[hsz];exact HB.out.size,fun k hk hn=>(p2 k fun e=>hn (e ▸ hSq)).trans (HB.out.block k hk)⟩,_,p1.mono (fun k hk=>?_) fun k hk=>?_,?_⟩
  ·rcases hk with hk | ⟨h1,h2⟩
   ·exact .inl hk
   ·exact .inr ⟨h1,by rw[hsz];exact h2⟩
  ·rw[hsz]
   rcases hk with hk | ⟨h1,h2⟩
   ·exact⟨(HD.out.hS k hk).1,Nat.lt_of_lt_of_le (HD.out.hS k hk).2 HB.out.size⟩
   ·rw[hsz] at h2
    exact⟨by omega,h2⟩
  ·rw[HKK.out,if_pos HR1.out]
   simp [absF,List.map_set]
 | false=>
  have hfc:fl≤cp:=HFC.out;obtain⟨k1,hk1e⟩: ∃k1,k1=i+1:=⟨_,rfl⟩;have hwk:IntKind.i64.wrap ((i:Int)+1)=(k1:Int):=by rw[IntKind.wrap_i64];omega
  have hk1n:(k1:Int)≤(fl:Int):=by omega
  have hk10:(0:Int)≤(k1:Int):=by omega
  have hic:(i:Int)≤(cp:Int):=by omega
  have hi0:(0:Int)≤(i:Int):=by omega
  have hcp0: ¬cp=0:=by omega
  have hxe: ∃eo:Nat,(if cp=k1 then some (⟨q,0,none⟩:Addr) else some ⟨q,k1*5,none⟩)=some ⟨q,eo,none⟩∧ ∀W,Below w1.heap.size w1 W→ ∀j u,(fileCells (F.drop k1))[j]?=some u→W.cell? ⟨q,eo+j,none⟩=some u:=by
   by_cases hck:cp=k1
   ·refine⟨0,by rw[if_pos hck],fun W _ j u hu=>?_⟩
    have:=(List.getElem?_eq_some_iff.1 hu).1;rw[fileCells_len,List.length_drop] at this;have:=HFL.out;omega
   ·refine⟨k1*5,by rw[if_neg hck],fun W hW j u hu=>?_⟩
    rw[←fileCells_drop,List.getElem?_drop] at hu;obtain⟨q',e,_,hx,_⟩:=HCELL.out _ _ hu;cases e;exact stays' hW hx
  obtain⟨eo,hxe,hxc⟩:=hxe;have HXC:=hid hxc;have HK1:=hid hk1e;have HFC2:=hid hfc;clear hxc hk1e hfc;go_wp2_with fail
  refine wp_region_held_drew (S:=fun _=>True∧True) (by kernel_rfl) ⟨trivial,trivial⟩ (fun hHeld=>?_);have hb0:Below w1.heap.size w1 w2.drew:=HB.out.drew;obtain⟨u0,hu0⟩: ∃u,u=w2.drew:=⟨_,rfl⟩;rw[←hu0] at hb0;rw[←hu0];have HU0:=hid hb0;have hgu:u0.cell? ⟨g,0,none⟩=some (.slice (some ⟨q,0,none⟩) fl cp):=by rw[hu0];exact hg2
  have HG:=hid (fun W (hW:Below u0.heap.size u0 W)=>stays' hW hgu);have HUu0:=hid (Below.refl u0.heap.size u0);have HT:=hid (fun W (hW:Below w1.heap.size w1 W)=>(fun j u hu=>by
   rw[←fileCells_take] at hu;have hu2:(fileCells F)[j]?=some u:=by
    rw[List.getElem?_take] at hu;split at hu
    ·exact hu
    ·cases hu
   obtain⟨q',e,_,hx,_⟩:=HCELL.out _ _ hu2;cases e;rw[Nat.zero_add];exact stays' hW hx: ∀j u,(fileCells (F.take i))[j]?=some u→W.cell? ⟨q,0+j,none⟩=some u))
  clear hb0 hu0 hgu hg2;refine zkH 0 (v:=?_) (h2:=?_) (h:=?_);rotate_left;focus (rintro W ⟨q1,q2⟩;go_simp;(try with_reducible rfl))
  try simp only[Act.put,zsA,zsS,zsZ]
  refine zkH 2 (v:=?_) (h2:=?_) (h:=?_);rotate_left;focus (rintro W ⟨q1,q2⟩;go_simp;(try with_reducible rfl))
  try simp only[Act.put,zsA,zsS,zsZ]
  refine zkH 3 (v:=?_) (h2:=?_) (h:=?_);rotate_left;focus (rintro W ⟨q1,q2⟩;go_simp;(try with_reducible rfl))
  try simp only[Act.put,zsA,zsS,zsZ]
  refine zkH 4 (v:=?_) (h2:=?_) (h:=?_);rotate_left;focus (rintro W ⟨q1,q2⟩;go_simp;(try with_reducible rfl))
  try simp only[Act.put,zsA,zsS,zsZ]
  refine zkH 6 (v:=?_) (h2:=?_) (h:=?_);rotate_left;focus (rintro W ⟨q1,q2⟩;go_simp;(try with_reducible rfl))
  try simp only[Act.put,zsA,zsS,zsZ]
  refine zkH 9 (v:=?_) (h2:=?_) (h:=?_);rotate_left;focus (rintro W ⟨q1,q2⟩;go_simp;(try with_reducible rfl))
  try simp only[Act.put,zsA,zsS,zsZ]
  refine zkH 10 (v:=?_) (h2:=?_) (h:=?_);rotate_left;focus (rintro W ⟨q1,q2⟩;go_simp;(try with_reducible rfl))
  try simp only[Act.put,zsA,zsS,zsZ]
  refine zkH 11 (v:=?_) (h2:=?_) (h:=?_);rotate_left;focus (rintro W ⟨q1,q2⟩;go_simp;(try with_reducible rfl))
  try simp only[Act.put,zsA,zsS,zsZ]
  refine zkH 13 (v:=?_) (h2:=?_) (h:=?_);rotate_left;focus (rintro W ⟨q1,q2⟩;go_simp;(try with_reducible rfl))
  try simp only[Act.put,zsA,zsS,zsZ]
  refine zkH 14 (v:=?_) (h2:=?_) (h:=?_);rotate_left;focus (rintro W ⟨q1,q2⟩;go_simp;(try with_reducible rfl))
  try simp only[Act.put,zsA,zsS,zsZ]
  refine wpAnyH_ready (rs:= [1,5,12]) (by kernel_rfl) (by simp) ?_;refine AllReadyH.cons (o:=?_) ?_ (fun K hK=>?_) ?_;rotate_left;focus (simp only[zgT,zgS,zgZ];rfl)
  ·rw[if_pos (by rfl)]
   go_simp
   have hr0:(u0.alloc (.cells #[] 106)).ownsRow u0.heap.size 106 5 (.slice (some ⟨u0.heap.size,0,none⟩) 0 0) ([]:List FC).length (fileCells []):=World.ownsRow_lit u0 #[] 0 HUu0.out.size (Nat.zero_le _) rfl;have hb1:Below u0.heap.size u0 (u0.alloc (.cells #[] 106)):=HUu0.out.alloc HUu0.out.size _;obtain⟨v0,hv0⟩: ∃v,v=Value.slice (some ⟨u0.heap.size,0,none⟩) 0 0:=⟨_,rfl⟩;obtain⟨u1,hu1⟩: ∃u,u=u0.alloc (.cells #[] 106):=⟨_,rfl⟩;rw[←hv0,←hu1] at hr0;rw[←hu1] at hb1;rw[←hv0,←hu1];have HR0:=hid hr0;have HUu1:=hid hb1;clear hr0 hb1 hv0 hu1;refine hK.out _ _ ⟨trivial,trivial⟩ (fun hHeld=>?_);clear hK K;try simp only[Act.put,zsA,zsS,zsZ]
   refine wpAnyH_ready (rs:= [5,12]) (by kernel_rfl) (by simp) ?_;refine AllReadyH.cons (o:=?_) ?_ (fun K hK=>?_) ?_;rotate_left;focus (simp only[zgT,zgS,zgZ];rfl)
   ·rw[if_pos (by rfl)]
    have hx:=HG.out _ HUu1.out;go_simp
    clear hx;refine hK.out _ _ ⟨trivial,trivial⟩ (fun hHeld=>?_);clear hK K;try simp only[Act.put,zsA,zsS,zsZ]
    refine zkH 7 (v:=?_) (h2:=?_) (h:=?_);rotate_left;focus (rintro W ⟨q1,q2⟩;go_simp;(try with_reducible rfl))
    try simp only[Act.put,zsA,zsS,zsZ]
    refine wpAnyH_ready (rs:= [8,12]) (by kernel_rfl) (by simp) ?_;refine AllReadyH.cons (o:=?_) ?_ (fun K hK=>?_) ?_;rotate_left;focus (simp only[zgT,zgS,zgZ];rfl)
    ·rw[if_pos (by rfl)]
     obtain⟨v1,u2,hrun,hr1,hg1⟩:=run_files (q:=q) (o:=0) (c:=cp) HR0.out (G:=F.take i) (by rw[List.length_take];have:=HFL.out;simp;omega) HUu1.out.size (fun d hd=>HFN.out d (List.mem_of_mem_take hd)) (HT.out u1 (HU0.out.trans (HUu1.out.mono HU0.out.size)));rw[List.length_take,Nat.min_eq_left (Nat.le_of_lt hi)] at hrun;rw[List.nil_append] at hr1;refine wp_append_runR rfl rfl rfl hrun ?_;have HUu2:=hid (HUu1.out.grown hg1 HUu1.out.size fun k e=>(World.ownsRow.lt HR0.out k e).1);have HRR:=hid hr1;clear hrun hr1 hg1;refine hK.out _ _ ⟨trivial,trivial⟩ (fun hHeld=>?_);clear hK K;try simp only[Act.put,zsA,zsS,zsZ]
     refine zrH 12 (h:=fun K hK=>?_);rw[if_pos (by rfl)];have hx:=HG.out _ HUu2.out;go_simp
     clear hx;refine hK.out _ _ ⟨trivial,trivial⟩ (fun hHeld=>?_);clear hK K;try simp only[Act.put,zsA,zsS,zsZ]
     refine zkH 15 (v:=?_) (h2:=?_) (h:=?_);rotate_left;focus (rintro W ⟨q1,q2⟩;go_simp;(try with_reducible rfl))
     try simp only[Act.put,zsA,zsS,zsZ]
     refine zrH 16 (h:=fun K hK=>?_);rw[if_pos (by rfl)];obtain⟨v2,u3,hrun,hr2,hg3⟩:=run_files (q:=q) (o:=eo) (c:=cp - k1) HRR.out (G:=F.drop k1) (by rw[List.length_take,List.length_drop];have:=HFL.out;have:=HK1.out;omega) HUu2.out.size (fun d hd=>HFN.out d (List.mem_of_mem_drop hd)) (HXC.out u2 (HU0.out.trans (HUu2.out.mono HU0.out.size)));rw[List.length_drop,←HFL.out] at hrun;refine wp_append_runR rfl rfl rfl hrun ?_;have HUu3:=hid (HUu2.out.grown hg3 HUu2.out.size fun k e=>(World.ownsRow.lt HRR.out k e).1);have he:F.take i++F.drop k1=F.eraseIdx i:=by rw[HK1.out,List.eraseIdx_eq_take_drop_succ]
     rw[he] at hr2;have HR2:=hid hr2;obtain⟨a2,c2,hv2,_⟩:=slice_shape hr2;clear hrun hr2 hg3 he;refine hK.out _ _ ⟨trivial,trivial⟩ (fun hHeld=>?_);clear hK K;try simp only[Act.put,zsA,zsS,zsZ]
     refine zkH 17 (v:=?_) (h2:=?_) (h:=?_);rotate_left;focus (rintro W ⟨q1,q2⟩;go_simp;(try with_reducible rfl))
     try simp only[Act.put,zsA,zsS,zsZ]
     refine zkH 18 (v:=?_) (h2:=?_) (h:=?_);rotate_left;focus (rintro W ⟨q1,q2⟩;go_simp;(try with_reducible rfl))
     try simp only[Act.put,zsA,zsS,zsZ]
     refine zrH 19 (h:=fun K hK=>?_);rw[if_pos (by rfl)];have hgf:u3.frozen? ⟨g,0,none⟩=false:=by
      have h1:=(HUu3.out.block g (Nat.lt_of_lt_of_le hgw HU0.out.size)).trans ((HU0.out.block g hgw).trans HGD.out);simp [World.frozen?,h1]
     have hgc:=HG.out _ HUu3.out;have HEND:=hid (keep_gone HD.out (HU0.out.trans (HUu3.out.mono HU0.out.size)) HGD.out HR2.out HU0.out.size);subst hv2;obtain⟨n2,hn2⟩: ∃n2,(F.eraseIdx i).length=n2:=⟨_,rfl⟩;rw[hn2] at HEND ⊢;go_simp
     refine hK.out _ _ ⟨trivial,trivial⟩ (fun hHeld=>?_);clear hK K;try simp only[Act.put,zsA,zsS,zsZ]
     refine wpAnyH_done (by kernel_rfl) ?_ _;go_wp2_with fail
     refine bodyPost_ret (results_none rfl _ _ _) rfl ?_;exact⟨rfl,HEND.out.1,_,HEND.out.2,by rw[HKK.out,if_neg (by rw[HR1.out];exact Bool.false_ne_true)];exact absF_erase F i⟩
    refine AllReadyH.cons (o:=?_) ?_ (fun K hK=>?_) AllReadyH.nil;rotate_left;focus (simp only[zgT,zgS,zgZ];rfl)
    rw[if_pos (by rfl)];have hx:=HG.out _ HUu1.out;go_simp
    clear hx;refine hK.out _ _ ⟨trivial,trivial⟩ (fun hHeld=>?_);clear hK K;try simp only[Act.put,zsA,zsS,zsZ]
    refine zkH 15 (v:=?_) (h2:=?_) (h:=?_);rotate_left;focus (rintro W ⟨q1,q2⟩;go_simp;(try with_reducible rfl))
    try simp only[Act.put,zsA,zsS,zsZ]
    refine zrH 8 (h:=fun K hK=>?_);rw[if_pos (by rfl)];obtain⟨v1,u2,hrun,hr1,hg1⟩:=run_files (q:=q) (o:=0) (c:=cp) HR0.out (G:=F.take i) (by rw[List.length_take];have:=HFL.out;simp;omega) HUu1.out.size (fun d hd=>HFN.out d (List.mem_of_mem_take hd)) (HT.out u1 (HU0.out.trans (HUu1.out.mono HU0.out.size)));rw[List.length_take,Nat.min_eq_left (Nat.le_of_lt hi)] at hrun;rw[List.nil_append] at hr1;refine wp_append_runR rfl rfl rfl hrun ?_;have HUu2:=hid (HUu1.out.grown hg1 HUu1.out.size fun k e=>(World.ownsRow.lt HR0.out k e).1);have HRR:=hid hr1;clear hrun hr1 hg1;refine hK.out _ _ ⟨trivial,trivial⟩ (fun hHeld=>?_);clear hK K;try simp only[Act.put,zsA,zsS,zsZ]
    refine zrH 16 (h:=fun K hK=>?_);rw[if_pos (by rfl)];obtain⟨v2,u3,hrun,hr2,hg3⟩:=run_files (q:=q) (o:=eo) (c:=cp - k1) HRR.out (G:=F.drop k1) (by rw[List.length_take,List.length_drop];have:=HFL.out;have:=HK1.out;omega) HUu2.out.size (fun d hd=>HFN.out d (List.mem_of_mem_drop hd)) (HXC.out u2 (HU0.out.trans (HUu2.out.mono HU0.out.size)));rw[List.length_drop,←HFL.out] at hrun;refine wp_append_runR rfl rfl rfl hrun ?_;have HUu3:=hid (HUu2.out.grown hg3 HUu2.out.size fun k e=>(World.ownsRow.lt HRR.out k e).1);have he:F.take i++F.drop k1=F.eraseIdx i:=by rw[HK1.out,List.eraseIdx_eq_take_drop_succ]
    rw[he] at hr2;have HR2:=hid hr2;obtain⟨a2,c2,hv2,_⟩:=slice_shape hr2;clear hrun hr2 hg3 he;refine hK.out _ _ ⟨trivial,trivial⟩ (fun hHeld=>?_);clear hK K;try simp only[Act.put,zsA,zsS,zsZ]
    refine zkH 17 (v:=?_) (h2:=?_) (h:=?_);rotate_left;focus (rintro W ⟨q1,q2⟩;go_simp;(try with_reducible rfl))
    try simp only[Act.put,zsA,zsS,zsZ]
    refine zkH 18 (v:=?_) (h2:=?_) (h:=?_);rotate_left;focus (rintro W ⟨q1,q2⟩;go_simp;(try with_reducible rfl))
    try simp only[Act.put,zsA,zsS,zsZ]
    refine zrH 19 (h:=fun K hK=>?_);rw[if_pos (by rfl)];have hgf:u3.frozen? ⟨g,0,none⟩=false:=by
     have h1:=(HUu3.out.block g (Nat.lt_of_lt_of_le hgw HU0.out.size)).trans ((HU0.out.block g hgw).trans HGD.out);simp [World.frozen?,h1]
    have hgc:=HG.out _ HUu3.out;have HEND:=hid (keep_gone HD.out (HU0.out.trans (HUu3.out.mono HU0.out.size)) HGD.out HR2.out HU0.out.size);subst hv2;obtain⟨n2,hn2⟩: ∃n2,(F.eraseIdx i).length=n2:=⟨_,rfl⟩;rw[hn2] at HEND ⊢;go_simp
    refine hK.out _ _ ⟨trivial,trivial⟩ (fun hHeld=>?_);clear hK K;try simp only[Act.put,zsA,zsS,zsZ]
    refine wpAnyH_done (by kernel_rfl) ?_ _;go_wp2_with fail
    refine bodyPost_ret (results_none rfl _ _ _) rfl ?_;exact⟨rfl,HEND.out.1,_,HEND.out.2,by rw[HKK.out,if_neg (by rw[HR1.out];exact Bool.false_ne_true)];exact absF_erase F i⟩
   refine AllReadyH.cons (o:=?_) ?_ (fun K hK=>?_) AllReadyH.nil;rotate_left;focus (simp only[zgT,zgS,zgZ];rfl)
   rw[if_pos (by rfl)];have hx:=HG.out _ HUu1.out;go_simp
   clear hx;refine hK.out _ _ ⟨trivial,trivial⟩ (fun hHeld=>?_);clear hK K;try simp only[Act.put,zsA,zsS,zsZ]
   refine zkH 15 (v:=?_) (h2:=?_) (h:=?_);rotate_left;focus (rintro W ⟨q1,q2⟩;go_simp;(try with_reducible rfl))
   try simp only[Act.put,zsA,zsS,zsZ]
   refine zrH 5 (h:=fun K hK=>?_);rw[if_pos (by rfl)];have hx:=HG.out _ HUu1.out;go_simp
   clear hx;refine hK.out _ _ ⟨trivial,trivial⟩ (fun hHeld=>?_);clear hK K;try simp only[Act.put,zsA,zsS,zsZ]
   refine zkH 7 (v:=?_) (h2:=?_) (h:=?_);rotate_left;focus (rintro W ⟨q1,q2⟩;go_simp;(try with_reducible rfl))
   try simp only[Act.put,zsA,zsS,zsZ]
   refine zrH 8 (h:=fun K hK=>?_);rw[if_pos (by rfl)];obtain⟨v1,u2,hrun,hr1,hg1⟩:=run_files (q:=q) (o:=0) (c:=cp) HR0.out (G:=F.take i) (by rw[List.length_take];have:=HFL.out;simp;omega) HUu1.out.size (fun d hd=>HFN.out d (List.mem_of_mem_take hd)) (HT.out u1 (HU0.out.trans (HUu1.out.mono HU0.out.size)));rw[List.length_take,Nat.min_eq_left (Nat.le_of_lt hi)] at hrun;rw[List.nil_append] at hr1;refine wp_append_runR rfl rfl rfl hrun ?_;have HUu2:=hid (HUu1.out.grown hg1 HUu1.out.size fun k e=>(World.ownsRow.lt HR0.out k e).1);have HRR:=hid hr1;clear hrun hr1 hg1;refine hK.out _ _ ⟨trivial,trivial⟩ (fun hHeld=>?_);clear hK K;try simp only[Act.put,zsA,zsS,zsZ]
   refine zrH 16 (h:=fun K hK=>?_);rw[if_pos (by rfl)];obtain⟨v2,u3,hrun,hr2,hg3⟩:=run_files (q:=q) (o:=eo) (c:=cp - k1) HRR.out (G:=F.drop k1) (by rw[List.length_take,List.length_drop];have:=HFL.out;have:=HK1.out;omega) HUu2.out.size (fun d hd=>HFN.out d (List.mem_of_mem_drop hd)) (HXC.out u2 (HU0.out.trans (HUu2.out.mono HU0.out.size)));rw[List.length_drop,←HFL.out] at hrun;refine wp_append_runR rfl rfl rfl hrun ?_;have HUu3:=hid (HUu2.out.grown hg3 HUu2.out.size fun k e=>(World.ownsRow.lt HRR.out k e).1);have he:F.take i++F.drop k1=F.eraseIdx i:=by rw[HK1.out,List.eraseIdx_eq_take_drop_succ]
   rw[he] at hr2;have HR2:=hid hr2;obtain⟨a2,c2,hv2,_⟩:=slice_shape hr2;clear hrun hr2 hg3 he;refine hK.out _ _ ⟨trivial,trivial⟩ (fun hHeld=>?_);clear hK K;try simp only[Act.put,zsA,zsS,zsZ]
   refine zkH 17 (v:=?_) (h2:=?_) (h:=?_);rotate_left;focus (rintro W ⟨q1,q2⟩;go_simp;(try with_reducible rfl))
   try simp only[Act.put,zsA,zsS,zsZ]
   refine zkH 18 (v:=?_) (h2:=?_) (h:=?_);rotate_left;focus (rintro W ⟨q1,q2⟩;go_simp;(try with_reducible rfl))
   try simp only[Act.put,zsA,zsS,zsZ]
   refine zrH 19 (h:=fun K hK=>?_);rw[if_pos (by rfl)];have hgf:u3.frozen? ⟨g,0,none⟩=false:=by
    have h1:=(HUu3.out.block g (Nat.lt_of_lt_of_le hgw HU0.out.size)).trans ((HU0.out.block g hgw).trans HGD.out);simp [World.frozen?,h1]
   have hgc:=HG.out _ HUu3.out;have HEND:=hid (keep_gone HD.out (HU0.out.trans (HUu3.out.mono HU0.out.size)) HGD.out HR2.out HU0.out.size);subst hv2;obtain⟨n2,hn2⟩: ∃n2,(F.eraseIdx i).length=n2:=⟨_,rfl⟩;rw[hn2] at HEND ⊢;go_simp
   refine hK.out _ _ ⟨trivial,trivial⟩ (fun hHeld=>?_);clear hK K;try simp only[Act.put,zsA,zsS,zsZ]
   refine wpAnyH_done (by kernel_rfl) ?_ _;go_wp2_with fail
   refine bodyPost_ret (results_none rfl _ _ _) rfl ?_;exact⟨rfl,HEND.out.1,_,HEND.out.2,by rw[HKK.out,if_neg (by rw[HR1.out];exact Bool.false_ne_true)];exact absF_erase F i⟩
  refine AllReadyH.cons (o:=?_) ?_ (fun K hK=>?_) ?_;rotate_left;focus (simp only[zgT,zgS,zgZ];rfl)
  ·rw[if_pos (by rfl)]
   have hx:=HG.out _ HUu0.out;go_simp
   clear hx;refine hK.out _ _ ⟨trivial,trivial⟩ (fun hHeld=>?_);clear hK K;try simp only[Act.put,zsA,zsS,zsZ]
   refine zkH 7 (v:=?_) (h2:=?_) (h:=?_);rotate_left;focus (rintro W ⟨q1,q2⟩;go_simp;(try with_reducible rfl))
   try simp only[Act.put,zsA,zsS,zsZ]
   refine wpAnyH_ready (rs:= [1,12]) (by kernel_rfl) (by simp) ?_;refine AllReadyH.cons (o:=?_) ?_ (fun K hK=>?_) ?_;rotate_left;focus (simp only[zgT,zgS,zgZ];rfl)
   ·rw[if_pos (by rfl)]
    go_simp
    have hr0:(u0.alloc (.cells #[] 106)).ownsRow u0.heap.size 106 5 (.slice (some ⟨u0.heap.size,0,none⟩) 0 0) ([]:List FC).length (fileCells []):=World.ownsRow_lit u0 #[] 0 HUu0.out.size (Nat.zero_le _) rfl;have hb1:Below u0.heap.size u0 (u0.alloc (.cells #[] 106)):=HUu0.out.alloc HUu0.out.size _;obtain⟨v0,hv0⟩: ∃v,v=Value.slice (some ⟨u0.heap.size,0,none⟩) 0 0:=⟨_,rfl⟩;obtain⟨u1,hu1⟩: ∃u,u=u0.alloc (.cells #[] 106):=⟨_,rfl⟩;rw[←hv0,←hu1] at hr0;rw[←hu1] at hb1;rw[←hv0,←hu1];have HR0:=hid hr0;have HUu1:=hid hb1;clear hr0 hb1 hv0 hu1;refine hK.out _ _ ⟨trivial,trivial⟩ (fun hHeld=>?_);clear hK K;try simp only[Act.put,zsA,zsS,zsZ]
    refine wpAnyH_ready (rs:= [8,12]) (by kernel_rfl) (by simp) ?_;refine AllReadyH.cons (o:=?_) ?_ (fun K hK=>?_) ?_;rotate_left;focus (simp only[zgT,zgS,zgZ];rfl)
    ·rw[if_pos (by rfl)]
     obtain⟨v1,u2,hrun,hr1,hg1⟩:=run_files (q:=q) (o:=0) (c:=cp) HR0.out (G:=F.take i) (by rw[List.length_take];have:=HFL.out;simp;omega) HUu1.out.size (fun d hd=>HFN.out d (List.mem_of_mem_take hd)) (HT.out u1 (HU0.out.trans (HUu1.out.mono HU0.out.size)));rw[List.length_take,Nat.min_eq_left (Nat.le_of_lt hi)] at hrun;rw[List.nil_append] at hr1;refine wp_append_runR rfl rfl rfl hrun ?_;have HUu2:=hid (HUu1.out.grown hg1 HUu1.out.size fun k e=>(World.ownsRow.lt HR0.out k e).1);have HRR:=hid hr1;clear hrun hr1 hg1;refine hK.out _ _ ⟨trivial,trivial⟩ (fun hHeld=>?_);clear hK K;try simp only[Act.put,zsA,zsS,zsZ]
     refine zrH 12 (h:=fun K hK=>?_);rw[if_pos (by rfl)];have hx:=HG.out _ HUu2.out;go_simp
     clear hx;refine hK.out _ _ ⟨trivial,trivial⟩ (fun hHeld=>?_);clear hK K;try simp only[Act.put,zsA,zsS,zsZ]
     refine zkH 15 (v:=?_) (h2:=?_) (h:=?_);rotate_left;focus (rintro W ⟨q1,q2⟩;go_simp;(try with_reducible rfl))
     try simp only[Act.put,zsA,zsS,zsZ]
     refine zrH 16 (h:=fun K hK=>?_);rw[if_pos (by rfl)];obtain⟨v2,u3,hrun,hr2,hg3⟩:=run_files (q:=q) (o:=eo) (c:=cp - k1) HRR.out (G:=F.drop k1) (by rw[List.length_take,List.length_drop];have:=HFL.out;have:=HK1.out;omega) HUu2.out.size (fun d hd=>HFN.out d (List.mem_of_mem_drop hd)) (HXC.out u2 (HU0.out.trans (HUu2.out.mono HU0.out.size)));rw[List.length_drop,←HFL.out] at hrun;refine wp_append_runR rfl rfl rfl hrun ?_;have HUu3:=hid (HUu2.out.grown hg3 HUu2.out.size fun k e=>(World.ownsRow.lt HRR.out k e).1);have he:F.take i++F.drop k1=F.eraseIdx i:=by rw[HK1.out,List.eraseIdx_eq_take_drop_succ]
     rw[he] at hr2;have HR2:=hid hr2;obtain⟨a2,c2,hv2,_⟩:=slice_shape hr2;clear hrun hr2 hg3 he;refine hK.out _ _ ⟨trivial,trivial⟩ (fun hHeld=>?_);clear hK K;try simp only[Act.put,zsA,zsS,zsZ]
     refine zkH 17 (v:=?_) (h2:=?_) (h:=?_);rotate_left;focus (rintro W ⟨q1,q2⟩;go_simp;(try with_reducible rfl))
     try simp only[Act.put,zsA,zsS,zsZ]
     refine zkH 18 (v:=?_) (h2:=?_) (h:=?_);rotate_left;focus (rintro W ⟨q1,q2⟩;go_simp;(try with_reducible rfl))
     try simp only[Act.put,zsA,zsS,zsZ]
     refine zrH 19 (h:=fun K hK=>?_);rw[if_pos (by rfl)];have hgf:u3.frozen? ⟨g,0,none⟩=false:=by
      have h1:=(HUu3.out.block g (Nat.lt_of_lt_of_le hgw HU0.out.size)).trans ((HU0.out.block g hgw).trans HGD.out);simp [World.frozen?,h1]
     have hgc:=HG.out _ HUu3.out;have HEND:=hid (keep_gone HD.out (HU0.out.trans (HUu3.out.mono HU0.out.size)) HGD.out HR2.out HU0.out.size);subst hv2;obtain⟨n2,hn2⟩: ∃n2,(F.eraseIdx i).length=n2:=⟨_,rfl⟩;rw[hn2] at HEND ⊢;go_simp
     refine hK.out _ _ ⟨trivial,trivial⟩ (fun hHeld=>?_);clear hK K;try simp only[Act.put,zsA,zsS,zsZ]
     refine wpAnyH_done (by kernel_rfl) ?_ _;go_wp2_with fail
     refine bodyPost_ret (results_none rfl _ _ _) rfl ?_;exact⟨rfl,HEND.out.1,_,HEND.out.2,by rw[HKK.out,if_neg (by rw[HR1.out];exact Bool.false_ne_true)];exact absF_erase F i⟩
    refine AllReadyH.cons (o:=?_) ?_ (fun K hK=>?_) AllReadyH.nil;rotate_left;focus (simp only[zgT,zgS,zgZ];rfl)
    rw[if_pos (by rfl)];have hx:=HG.out _ HUu1.out;go_simp
    clear hx;refine hK.out _ _ ⟨trivial,trivial⟩ (fun hHeld=>?_);clear hK K;try simp only[Act.put,zsA,zsS,zsZ]
    refine zkH 15 (v:=?_) (h2:=?_) (h:=?_);rotate_left;focus (rintro W ⟨q1,q2⟩;go_simp;(try with_reducible rfl))
    try simp only[Act.put,zsA,zsS,zsZ]
    refine zrH 8 (h:=fun K hK=>?_);rw[if_pos (by rfl)];obtain⟨v1,u2,hrun,hr1,hg1⟩:=run_files (q:=q) (o:=0) (c:=cp) HR0.out (G:=F.take i) (by rw[List.length_take];have:=HFL.out;simp;omega) HUu1.out.size (fun d hd=>HFN.out d (List.mem_of_mem_take hd)) (HT.out u1 (HU0.out.trans (HUu1.out.mono HU0.out.size)));rw[List.length_take,Nat.min_eq_left (Nat.le_of_lt hi)] at hrun;rw[List.nil_append] at hr1;refine wp_append_runR rfl rfl rfl hrun ?_;have HUu2:=hid (HUu1.out.grown hg1 HUu1.out.size fun k e=>(World.ownsRow.lt HR0.out k e).1);have HRR:=hid hr1;clear hrun hr1 hg1;refine hK.out _ _ ⟨trivial,trivial⟩ (fun hHeld=>?_);clear hK K;try simp only[Act.put,zsA,zsS,zsZ]
    refine zrH 16 (h:=fun K hK=>?_);rw[if_pos (by rfl)];obtain⟨v2,u3,hrun,hr2,hg3⟩:=run_files (q:=q) (o:=eo) (c:=cp - k1) HRR.out (G:=F.drop k1) (by rw[List.length_take,List.length_drop];have:=HFL.out;have:=HK1.out;omega) HUu2.out.size (fun d hd=>HFN.out d (List.mem_of_mem_drop hd)) (HXC.out u2 (HU0.out.trans (HUu2.out.mono HU0.out.size)));rw[List.length_drop,←HFL.out] at hrun;refine wp_append_runR rfl rfl rfl hrun ?_;have HUu3:=hid (HUu2.out.grown hg3 HUu2.out.size fun k e=>(World.ownsRow.lt HRR.out k e).1);have he:F.take i++F.drop k1=F.eraseIdx i:=by rw[HK1.out,List.eraseIdx_eq_take_drop_succ]
    rw[he] at hr2;have HR2:=hid hr2;obtain⟨a2,c2,hv2,_⟩:=slice_shape hr2;clear hrun hr2 hg3 he;refine hK.out _ _ ⟨trivial,trivial⟩ (fun hHeld=>?_);clear hK K;try simp only[Act.put,zsA,zsS,zsZ]
    refine zkH 17 (v:=?_) (h2:=?_) (h:=?_);rotate_left;focus (rintro W ⟨q1,q2⟩;go_simp;(try with_reducible rfl))
    try simp only[Act.put,zsA,zsS,zsZ]
    refine zkH 18 (v:=?_) (h2:=?_) (h:=?_);rotate_left;focus (rintro W ⟨q1,q2⟩;go_simp;(try with_reducible rfl))
    try simp only[Act.put,zsA,zsS,zsZ]
    refine zrH 19 (h:=fun K hK=>?_);rw[if_pos (by rfl)];have hgf:u3.frozen? ⟨g,0,none⟩=false:=by
     have h1:=(HUu3.out.block g (Nat.lt_of_lt_of_le hgw HU0.out.size)).trans ((HU0.out.block g hgw).trans HGD.out);simp [World.frozen?,h1]
    have hgc:=HG.out _ HUu3.out;have HEND:=hid (keep_gone HD.out (HU0.out.trans (HUu3.out.mono HU0.out.size)) HGD.out HR2.out HU0.out.size);subst hv2;obtain⟨n2,hn2⟩: ∃n2,(F.eraseIdx i).length=n2:=⟨_,rfl⟩;rw[hn2] at HEND ⊢;go_simp
    refine hK.out _ _ ⟨trivial,trivial⟩ (fun hHeld=>?_);clear hK K;try simp only[Act.put,zsA,zsS,zsZ]
    refine wpAnyH_done (by kernel_rfl) ?_ _;go_wp2_with fail
    refine bodyPost_ret (results_none rfl _ _ _) rfl ?_;exact⟨rfl,HEND.out.1,_,HEND.out.2,by rw[HKK.out,if_neg (by rw[HR1.out];exact Bool.false_ne_true)];exact absF_erase F i⟩
   refine AllReadyH.cons (o:=?_) ?_ (fun K hK=>?_) AllReadyH.nil;rotate_left;focus (simp only[zgT,zgS,zgZ];rfl)
   rw[if_pos (by rfl)];have hx:=HG.out _ HUu0.out;go_simp
   clear hx;refine hK.out _ _ ⟨trivial,trivial⟩ (fun hHeld=>?_);clear hK K;try simp only[Act.put,zsA,zsS,zsZ]
   refine zkH 15 (v:=?_) (h2:=?_) (h:=?_);rotate_left;focus (rintro W ⟨q1,q2⟩;go_simp;(try with_reducible rfl))
   try simp only[Act.put,zsA,zsS,zsZ]
   refine zrH 1 (h:=fun K hK=>?_);rw[if_pos (by rfl)];go_simp
   have hr0:(u0.alloc (.cells #[] 106)).ownsRow u0.heap.size 106 5 (.slice (some ⟨u0.heap.size,0,none⟩) 0 0) ([]:List FC).length (fileCells []):=World.ownsRow_lit u0 #[] 0 HUu0.out.size (Nat.zero_le _) rfl;have hb1:Below u0.heap.size u0 (u0.alloc (.cells #[] 106)):=HUu0.out.alloc HUu0.out.size _;obtain⟨v0,hv0⟩: ∃v,v=Value.slice (some ⟨u0.heap.size,0,none⟩) 0 0:=⟨_,rfl⟩;obtain⟨u1,hu1⟩: ∃u,u=u0.alloc (.cells #[] 106):=⟨_,rfl⟩;rw[←hv0,←hu1] at hr0;rw[←hu1] at hb1;rw[←hv0,←hu1];have HR0:=hid hr0;have HUu1:=hid hb1;clear hr0 hb1 hv0 hu1;refine hK.out _ _ ⟨trivial,trivial⟩ (fun hHeld=>?_);clear hK K;try simp only[Act.put,zsA,zsS,zsZ]
   refine zrH 8 (h:=fun K hK=>?_);rw[if_pos (by rfl)];obtain⟨v1,u2,hrun,hr1,hg1⟩:=run_files (q:=q) (o:=0) (c:=cp) HR0.out (G:=F.take i) (by rw[List.length_take];have:=HFL.out;simp;omega) HUu1.out.size (fun d hd=>HFN.out d (List.mem_of_mem_take hd)) (HT.out u1 (HU0.out.trans (HUu1.out.mono HU0.out.size)));rw[List.length_take,Nat.min_eq_left (Nat.le_of_lt hi)] at hrun;rw[List.nil_append] at hr1;refine wp_append_runR rfl rfl rfl hrun ?_;have HUu2:=hid (HUu1.out.grown hg1 HUu1.out.size fun k e=>(World.ownsRow.lt HR0.out k e).1);have HRR:=hid hr1;clear hrun hr1 hg1;refine hK.out _ _ ⟨trivial,trivial⟩ (fun hHeld=>?_);clear hK K;try simp only[Act.put,zsA,zsS,zsZ]
   refine zrH 16 (h:=fun K hK=>?_);rw[if_pos (by rfl)];obtain⟨v2,u3,hrun,hr2,hg3⟩:=run_files (q:=q) (o:=eo) (c:=cp - k1) HRR.out (G:=F.drop k1) (by rw[List.length_take,List.length_drop];have:=HFL.out;have:=HK1.out;omega) HUu2.out.size (fun d hd=>HFN.out d (List.mem_of_mem_drop hd)) (HXC.out u2 (HU0.out.trans (HUu2.out.mono HU0.out.size)));rw[List.length_drop,←HFL.out] at hrun;refine wp_append_runR rfl rfl rfl hrun ?_;have HUu3:=hid (HUu2.out.grown hg3 HUu2.out.size fun k e=>(World.ownsRow.lt HRR.out k e).1);have he:F.take i++F.drop k1=F.eraseIdx i:=by rw[HK1.out,List.eraseIdx_eq_take_drop_succ]
   rw[he] at hr2;have HR2:=hid hr2;obtain⟨a2,c2,hv2,_⟩:=slice_shape hr2;clear hrun hr2 hg3 he;refine hK.out _ _ ⟨trivial,trivial⟩ (fun hHeld=>?_);clear hK K;try simp only[Act.put,zsA,zsS,zsZ]
   refine zkH 17 (v:=?_) (h2:=?_) (h:=?_);rotate_left;focus (rintro W ⟨q1,q2⟩;go_simp;(try with_reducible rfl))
   try simp only[Act.put,zsA,zsS,zsZ]
   refine zkH 18 (v:=?_) (h2:=?_) (h:=?_);rotate_left;focus (rintro W ⟨q1,q2⟩;go_simp;(try with_reducible rfl))
   try simp only[Act.put,zsA,zsS,zsZ]
   refine zrH 19 (h:=fun K hK=>?_);rw[if_pos (by rfl)];have hgf:u3.frozen? ⟨g,0,none⟩=false:=by
    have h1:=(HUu3.out.block g (Nat.lt_of_lt_of_le hgw HU0.out.size)).trans ((HU0.out.block g hgw).trans HGD.out);simp [World.frozen?,h1]
   have hgc:=HG.out _ HUu3.out;have HEND:=hid (keep_gone HD.out (HU0.out.trans (HUu3.out.mono HU0.out.size)) HGD.out HR2.out HU0.out.size);subst hv2;obtain⟨n2,hn2⟩: ∃n2,(F.eraseIdx i).length=n2:=⟨_,rfl⟩;rw[hn2] at HEND ⊢;go_simp
   refine hK.out _ _ ⟨trivial,trivial⟩ (fun hHeld=>?_);clear hK K;try simp only[Act.put,zsA,zsS,zsZ]
   refine wpAnyH_done (by kernel_rfl) ?_ _;go_wp2_with fail
   refine bodyPost_ret (results_none rfl _ _ _) rfl ?_;exact⟨rfl,HEND.out.1,_,HEND.out.2,by rw[HKK.out,if_neg (by rw[HR1.out];exact Bool.false_ne_true)];exact absF_erase F i⟩
  refine AllReadyH.cons (o:=?_) ?_ (fun K hK=>?_) AllReadyH.nil;rotate_left;focus (simp only[zgT,zgS,zgZ];rfl)
  rw[if_pos (by rfl)];have hx:=HG.out _ HUu0.out;go_simp
  clear hx;refine hK.out _ _ ⟨trivial,trivial⟩ (fun hHeld=>?_);clear hK K;try simp only[Act.put,zsA,zsS,zsZ]
  refine zkH 15 (v:=?_) (h2:=?_) (h:=?_);rotate_left;focus (rintro W ⟨q1,q2⟩;go_simp;(try with_reducible rfl))
  try simp only[Act.put,zsA,zsS,zsZ]
  refine wpAnyH_ready (rs:= [1,5]) (by kernel_rfl) (by simp) ?_;refine AllReadyH.cons (o:=?_) ?_ (fun K hK=>?_) ?_;rotate_left;focus (simp only[zgT,zgS,zgZ];rfl)
  ·rw[if_pos (by rfl)]
   go_simp
   have hr0:(u0.alloc (.cells #[] 106)).ownsRow u0.heap.size 106 5 (.slice (some ⟨u0.heap.size,0,none⟩) 0 0) ([]:List FC).length (fileCells []):=World.ownsRow_lit u0 #[] 0 HUu0.out.size (Nat.zero_le _) rfl;have hb1:Below u0.heap.size u0 (u0.alloc (.cells #[] 106)):=HUu0.out.alloc HUu0.out.size _;obtain⟨v0,hv0⟩: ∃v,v=Value.slice (some ⟨u0.heap.size,0,none⟩) 0 0:=⟨_,rfl⟩;obtain⟨u1,hu1⟩: ∃u,u=u0.alloc (.cells #[] 106):=⟨_,rfl⟩;rw[←hv0,←hu1] at hr0;rw[←hu1] at hb1;rw[←hv0,←hu1];have HR0:=hid hr0;have HUu1:=hid hb1;clear hr0 hb1 hv0 hu1;refine hK.out _ _ ⟨trivial,trivial⟩ (fun hHeld=>?_);clear hK K;try simp only[Act.put,zsA,zsS,zsZ]
   refine zrH 5 (h:=fun K hK=>?_);rw[if_pos (by rfl)];have hx:=HG.out _ HUu1.out;go_simp
   clear hx;refine hK.out _ _ ⟨trivial,trivial⟩ (fun hHeld=>?_);clear hK K;try simp only[Act.put,zsA,zsS,zsZ]
   refine zkH 7 (v:=?_) (h2:=?_) (h:=?_);rotate_left;focus (rintro W ⟨q1,q2⟩;go_simp;(try with_reducible rfl))
   try simp only[Act.put,zsA,zsS,zsZ]
   refine zrH 8 (h:=fun K hK=>?_);rw[if_pos (by rfl)];obtain⟨v1,u2,hrun,hr1,hg1⟩:=run_files (q:=q) (o:=0) (c:=cp) HR0.out (G:=F.take i) (by rw[List.length_take];have:=HFL.out;simp;omega) HUu1.out.size (fun d hd=>HFN.out d (List.mem_of_mem_take hd)) (HT.out u1 (HU0.out.trans (HUu1.out.mono HU0.out.size)));rw[List.length_take,Nat.min_eq_left (Nat.le_of_lt hi)] at hrun;rw[List.nil_append] at hr1;refine wp_append_runR rfl rfl rfl hrun ?_;have HUu2:=hid (HUu1.out.grown hg1 HUu1.out.size fun k e=>(World.ownsRow.lt HR0.out k e).1);have HRR:=hid hr1;clear hrun hr1 hg1;refine hK.out _ _ ⟨trivial,trivial⟩ (fun hHeld=>?_);clear hK K;try simp only[Act.put,zsA,zsS,zsZ]
   refine zrH 16 (h:=fun K hK=>?_);rw[if_pos (by rfl)];obtain⟨v2,u3,hrun,hr2,hg3⟩:=run_files (q:=q) (o:=eo) (c:=cp - k1) HRR.out (G:=F.drop k1) (by rw[List.length_take,List.length_drop];have:=HFL.out;have:=HK1.out;omega) HUu2.out.size (fun d hd=>HFN.out d (List.mem_of_mem_drop hd)) (HXC.out u2 (HU0.out.trans (HUu2.out.mono HU0.out.size)));rw[List.length_drop,←HFL.out] at hrun;refine wp_append_runR rfl rfl rfl hrun ?_;have HUu3:=hid (HUu2.out.grown hg3 HUu2.out.size fun k e=>(World.ownsRow.lt HRR.out k e).1);have he:F.take i++F.drop k1=F.eraseIdx i:=by rw[HK1.out,List.eraseIdx_eq_take_drop_succ]
   rw[he] at hr2;have HR2:=hid hr2;obtain⟨a2,c2,hv2,_⟩:=slice_shape hr2;clear hrun hr2 hg3 he;refine hK.out _ _ ⟨trivial,trivial⟩ (fun hHeld=>?_);clear hK K;try simp only[Act.put,zsA,zsS,zsZ]
   refine zkH 17 (v:=?_) (h2:=?_) (h:=?_);rotate_left;focus (rintro W ⟨q1,q2⟩;go_simp;(try with_reducible rfl))
   try simp only[Act.put,zsA,zsS,zsZ]
   refine zkH 18 (v:=?_) (h2:=?_) (h:=?_);rotate_left;focus (rintro W ⟨q1,q2⟩;go_simp;(try with_reducible rfl))
   try simp only[Act.put,zsA,zsS,zsZ]
   refine zrH 19 (h:=fun K hK=>?_);rw[if_pos (by rfl)];have hgf:u3.frozen? ⟨g,0,none⟩=false:=by
    have h1:=(HUu3.out.block g (Nat.lt_of_lt_of_le hgw HU0.out.size)).trans ((HU0.out.block g hgw).trans HGD.out);simp [World.frozen?,h1]
   have hgc:=HG.out _ HUu3.out;have HEND:=hid (keep_gone HD.out (HU0.out.trans (HUu3.out.mono HU0.out.size)) HGD.out HR2.out HU0.out.size);subst hv2;obtain⟨n2,hn2⟩: ∃n2,(F.eraseIdx i).length=n2:=⟨_,rfl⟩;rw[hn2] at HEND ⊢;go_simp
   refine hK.out _ _ ⟨trivial,trivial⟩ (fun hHeld=>?_);clear hK K;try simp only[Act.put,zsA,zsS,zsZ]
   refine wpAnyH_done (by kernel_rfl) ?_ _;go_wp2_with fail
   refine bodyPost_ret (results_none rfl _ _ _) rfl ?_;exact⟨rfl,HEND.out.1,_,HEND.out.2,by rw[HKK.out,if_neg (by rw[HR1.out];exact Bool.false_ne_true)];exact absF_erase F i⟩
  refine AllReadyH.cons (o:=?_) ?_ (fun K hK=>?_) AllReadyH.nil;rotate_left;focus (simp only[zgT,zgS,zgZ];rfl)
  rw[if_pos (by rfl)];have hx:=HG.out _ HUu0.out;go_simp
  clear hx;refine hK.out _ _ ⟨trivial,trivial⟩ (fun hHeld=>?_);clear hK K;try simp only[Act.put,zsA,zsS,zsZ]
  refine zkH 7 (v:=?_) (h2:=?_) (h:=?_);rotate_left;focus (rintro W ⟨q1,q2⟩;go_simp;(try with_reducible rfl))
  try simp only[Act.put,zsA,zsS,zsZ]
  refine zrH 1 (h:=fun K hK=>?_);rw[if_pos (by rfl)];go_simp
  have hr0:(u0.alloc (.cells #[] 106)).ownsRow u0.heap.size 106 5 (.slice (some ⟨u0.heap.size,0,none⟩) 0 0) ([]:List FC).length (fileCells []):=World.ownsRow_lit u0 #[] 0 HUu0.out.size (Nat.zero_le _) rfl;have hb1:Below u0.heap.size u0 (u0.alloc (.cells #[] 106)):=HUu0.out.alloc HUu0.out.size _;obtain⟨v0,hv0⟩: ∃v,v=Value.slice (some ⟨u0.heap.size,0,none⟩) 0 0:=⟨_,rfl⟩;obtain⟨u1,hu1⟩: ∃u,u=u0.alloc (.cells #[] 106):=⟨_,rfl⟩;rw[←hv0,←hu1] at hr0;rw[←hu1] at hb1;rw[←hv0,←hu1];have HR0:=hid hr0;have HUu1:=hid hb1;clear hr0 hb1 hv0 hu1;refine hK.out _ _ ⟨trivial,trivial⟩ (fun hHeld=>?_);clear hK K;try simp only[Act.put,zsA,zsS,zsZ]
  refine zrH 8 (h:=fun K hK=>?_);rw[if_pos (by rfl)];obtain⟨v1,u2,hrun,hr1,hg1⟩:=run_files (q:=q) (o:=0) (c:=cp) HR0.out (G:=F.take i) (by rw[List.length_take];have:=HFL.out;simp;omega) HUu1.out.size (fun d hd=>HFN.out d (List.mem_of_mem_take hd)) (HT.out u1 (HU0.out.trans (HUu1.out.mono HU0.out.size)));rw[List.length_take,Nat.min_eq_left (Nat.le_of_lt hi)] at hrun;rw[List.nil_append] at hr1;refine wp_append_runR rfl rfl rfl hrun ?_;have HUu2:=hid (HUu1.out.grown hg1 HUu1.out.size fun k e=>(World.ownsRow.lt HR0.out k e).1);have HRR:=hid hr1;clear hrun hr1 hg1;refine hK.out _ _ ⟨trivial,trivial⟩ (fun hHeld=>?_);clear hK K;try simp only[Act.put,zsA,zsS,zsZ]
  refine zrH 16 (h:=fun K hK=>?_);rw[if_pos (by rfl)];obtain⟨v2,u3,hrun,hr2,hg3⟩:=run_files (q:=q) (o:=eo) (c:=cp - k1) HRR.out (G:=F.drop k1) (by rw[List.length_take,List.length_drop];have:=HFL.out;have:=HK1.out;omega) HUu2.out.size (fun d hd=>HFN.out d (List.mem_of_mem_drop hd)) (HXC.out u2 (HU0.out.trans (HUu2.out.mono HU0.out.size)));rw[List.length_drop,←HFL.out] at hrun;refine wp_append_runR rfl rfl rfl hrun ?_;have HUu3:=hid (HUu2.out.grown hg3 HUu2.out.size fun k e=>(World.ownsRow.lt HRR.out k e).1);have he:F.take i++F.drop k1=F.eraseIdx i:=by rw[HK1.out,List.eraseIdx_eq_take_drop_succ]
  rw[he] at hr2;have HR2:=hid hr2;obtain⟨a2,c2,hv2,_⟩:=slice_shape hr2;clear hrun hr2 hg3 he;refine hK.out _ _ ⟨trivial,trivial⟩ (fun hHeld=>?_);clear hK K;try simp only[Act.put,zsA,zsS,zsZ]
  refine zkH 17 (v:=?_) (h2:=?_) (h:=?_);rotate_left;focus (rintro W ⟨q1,q2⟩;go_simp;(try with_reducible rfl))
  try simp only[Act.put,zsA,zsS,zsZ]
  refine zkH 18 (v:=?_) (h2:=?_) (h:=?_);rotate_left;focus (rintro W ⟨q1,q2⟩;go_simp;(try with_reducible rfl))
  try simp only[Act.put,zsA,zsS,zsZ]
  refine zrH 19 (h:=fun K hK=>?_);rw[if_pos (by rfl)];have hgf:u3.frozen? ⟨g,0,none⟩=false:=by
   have h1:=(HUu3.out.block g (Nat.lt_of_lt_of_le hgw HU0.out.size)).trans ((HU0.out.block g hgw).trans HGD.out);simp [World.frozen?,h1]
  have hgc:=HG.out _ HUu3.out;have HEND:=hid (keep_gone HD.out (HU0.out.trans (HUu3.out.mono HU0.out.size)) HGD.out HR2.out HU0.out.size);subst hv2;obtain⟨n2,hn2⟩: ∃n2,(F.eraseIdx i).length=n2:=⟨_,rfl⟩;rw[hn2] at HEND ⊢;go_simp
  refine hK.out _ _ ⟨trivial,trivial⟩ (fun hHeld=>?_);clear hK K;try simp only[Act.put,zsA,zsS,zsZ]
  refine wpAnyH_done (by kernel_rfl) ?_ _;go_wp2_with fail
  refine bodyPost_ret (results_none rfl _ _ _) rfl ?_;exact⟨rfl,HEND.out.1,_,HEND.out.2,by rw[HKK.out,if_neg (by rw[HR1.out];exact Bool.false_ne_true)];exact absF_erase F i⟩
end
end Rd
end Go.Proofs.YtalfbcbnljhldaaGreatDoor
