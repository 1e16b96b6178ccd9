/-  -/
import Derived.Test.YtalfbcbnljhldaaGreatDoorRlS
import Derived.Test.YtalfbcbnljhldaaGreatDoorMae
import Derived.BigQuiet
import Derived.Deep.QuietTactic
import Derived.Test.YtalfbcbnljhldaaGreatDoorMaz
import Derived.Test.YtalfbcbnljhldaaGreatDoorMam
import Derived.Test.YtalfbcbnljhldaaGreatDoorMat
import Derived.Test.YtalfbcbnljhldaaGreatDoorApp10
import Derived.Test.YtalfbcbnljhldaaGreatDoorMav
set_option linter.unusedSimpArgs false
namespace Go.Proofs.YtalfbcbnljhldaaGreatDoor
open Go.Lib (hid)
open Go.RowKit Go.Maps Dsk Rd Wl
def sameE (x y:Ent):Bool:=decide (x.ix=y.ix)&&decide (x.term=y.term)&&decide (x.body=y.body)
theorem sameE_iff {x y:Ent} :sameE x y=true↔x=y:=by
 unfold sameE;simp only[Bool.and_eq_true,decide_eq_true_eq];constructor
 ·rintro⟨⟨h1,h2⟩,h3⟩
  cases x;cases y;simp_all
 ·rintro rfl;simp
set_option maxRecDepth 100000 in
set_option maxHeartbeats 1000000 in
theorem refSame_ent (x y:Ent) (a b:Option Addr) (c d:Nat) (w:World) (hx:Reads w a x.body) (hy:Reads w b y.body):
  Calls Tryz.prog 57 #[.agg #[.int .u64 (x.ix:Int),.int .u64 (x.term:Int),.slice a x.body.length c],.agg #[.int .u64 (y.ix:Int),.int .u64 (y.term:Int),.slice b y.body.length d]] w fun r w'=>r= .returned (.bool (sameE x y))∧Below w.heap.size w w':=by
 have hb1:Below w.heap.size w ((w.alloc (.cells #[.int .u64 (x.ix:Int),.int .u64 (x.term:Int),.slice a x.body.length c] 55)).alloc (.cells #[.int .u64 (y.ix:Int),.int .u64 (y.term:Int),.slice b y.body.length d] 55)):=((Below.refl _ _).alloc (Nat.le_refl _) _).alloc (by simp) _;have hcx:=(hx.below hb1).text x.body.length c rfl;have hcy:=(hy.below hb1).text y.body.length d rfl;have HE:=hid (str_eq hx.hr hy.hr);have HB1:=hid hb1;clear hx hy hb1;by_cases h1:x.ix=y.ix
 ·have hd1:((x.ix:Int) == (y.ix:Int))=true:=by rw[beq_iff_eq];omega
  by_cases h2:x.term=y.term
  ·have hd2:((x.term:Int) == (y.term:Int))=true:=by rw[beq_iff_eq];omega
   have HS:=hid (show sameE x y=decide (x.body=y.body) by simp [sameE,h1,h2]);clear h1 h2;go_enter Tryz.func57,Tryz.ntmps57
   go_wp2
   go_ret
   rw[HS.out,←HE.out];exact⟨rfl,HB1.out⟩
  ·have hd2:((x.term:Int) == (y.term:Int))=false:=by rw[beq_eq_false_iff_ne];omega
   have HS:=hid (show sameE x y=false by simp [sameE,h1,h2]);clear h1 h2 hcx hcy;go_enter Tryz.func57,Tryz.ntmps57
   go_wp2
   go_ret
   rw[HS.out];exact⟨rfl,HB1.out⟩
 ·have hd1:((x.ix:Int) == (y.ix:Int))=false:=by rw[beq_eq_false_iff_ne];omega
  have HS:=hid (show sameE x y=false by simp [sameE,h1]);clear h1 hcx hcy;go_enter Tryz.func57,Tryz.ntmps57
  go_wp2
  go_ret
  rw[HS.out];exact⟨rfl,HB1.out⟩
namespace Rl
set_option maxRecDepth 100000 in
set_option maxHeartbeats 4000000 in
theorem refAll_same {w:World} {B:Nat} (es:List Ent) (v:Value) (ps:List EV) (pa:Option Addr) (pc:Nat) (hps:ps.map Prod.fst=es) (h1:EntRow w B es v) (h2:ReadsP w pa ps) (h3: ∀p∈ps,∃ba bc,p.2= .slice ba p.1.body.length bc∧Reads w ba p.1.body) (hl:es.length≤1000000):
  Calls Tryz.prog 21 #[v,.slice pa es.length pc] w fun e w'=>e= .returned (.bool true)∧Below w.heap.size w w':=by
 obtain⟨N,hN⟩: ∃x,x=es.length:=⟨_,rfl⟩;obtain⟨ea,ec,hv,-⟩:=h1.shape;subst hv;have hpl:ps.length=es.length:=by rw[←hps];simp
 have H1:=hid h1;have H2:=hid h2;have H3:=hid h3;have HPS:=hid hps;have HPL:=hid hpl;rw[←hN] at hl ⊢;have HN:=hid hN;have hNi:(N:Int)≤1000000:=by omega
 have HB0:=hid (Below.refl w.heap.size w);clear h1 h2 h3 hps hpl hN;go_enter Tryz.func21,Tryz.ntmps21
 go_wp2_with fail
 go_loopw [5] (fun v5 wr=> ∃(j:Nat),v5= .int .i64 (j:Int)∧j≤N∧Hid (Below w.heap.size w wr)) (fun v5 _=>N - (intOf v5).toNat)
 case atStart=>exact⟨0,rfl,Nat.zero_le _,HB0⟩
 case round=>
  obtain⟨j,rfl,hj,HB⟩:=hrel;by_cases hlt:j<N
  ·have hjl:j<es.length:=by rw[←HN.out];exact hlt
   obtain⟨g1,cap1,xa,xc,hv,-,hg1,c0,c1,c2,hbd,-,-⟩:=H1.out.at_ hjl;cases hv;have hjp:j<ps.length:=by rw[HPL.out];exact hjl
   obtain⟨g2,o2,hpa,-,d0,d1,d2⟩:=H2.out.at_ hjp;subst hpa;have hpe:ps[j].1=es[j]:=by
    have:=HPS.out;subst this;simp
   obtain⟨ya,yc,hpv,hy⟩:=H3.out ps[j] (List.getElem_mem hjp);rw[hpv] at d2;rw[hpe] at d0 d1 d2 hy;have hx:Reads w xa es[j].body:=by
    obtain⟨g9,c9,e9,-,hh,-⟩:=hbd;cases e9;exact hh.reads
   obtain⟨x,hxx⟩: ∃x,x=es[j]:=⟨_,rfl⟩;rw[←hxx] at c0 c1 c2 d0 d1 d2 hx hy;have HX:=hid (hx.below HB.out);have HY:=hid (hy.below HB.out);have HCK:=hid (fun W (hW:Below wr.heap.size wr W)=>have hb:=HB.out.trans (hW.mono HB.out.size);(⟨stays' hb c0,stays' hb c1,stays' hb c2,stays' hb d0,stays' hb d1,stays' hb d2⟩:(fun W=>W.cell? ⟨g1,j*3,none⟩=some (.int .u64 (x.ix:Int))∧W.cell? ⟨g1,j*3+1,none⟩=some (.int .u64 (x.term:Int))∧W.cell? ⟨g1,j*3+2,none⟩=some (.slice xa x.body.length xc)∧W.cell? ⟨g2,o2+j*3,none⟩=some (.int .u64 (x.ix:Int))∧W.cell? ⟨g2,o2+j*3+1,none⟩=some (.int .u64 (x.term:Int))∧W.cell? ⟨g2,o2+j*3+2,none⟩=some (.slice ya x.body.length yc)) W));have dk:decide ((j:Int)<(N:Int))=true:=decide_eq_true (by omega);have dk2:decide (j<N)=true:=decide_eq_true hlt;have dk3:decide ((j:Int)<0)=false:=by simp
   have hk0:(0:Int)≤j:=by omega
   have hk1:(j:Int)≤1000000:=by omega
   have hk2:(j:Int)<(N:Int):=by omega
   clear c0 c1 c2 d0 d1 d2 hx hy hbd hpv hpe hxx;go_upto_region 6 with fail
   obtain⟨u,hu⟩: ∃u,u=wr.drew:=⟨_,rfl⟩;have HDR:=hid (show Below wr.heap.size wr u by rw[hu];exact(Below.refl _ _).drew);refine wp_region_held_drew (S:=fun W=>W.cell? ⟨g1,j*3,none⟩=some (.int .u64 (x.ix:Int))∧W.cell? ⟨g1,j*3+1,none⟩=some (.int .u64 (x.term:Int))∧W.cell? ⟨g1,j*3+2,none⟩=some (.slice xa x.body.length xc)∧W.cell? ⟨g2,o2+j*3,none⟩=some (.int .u64 (x.ix:Int))∧W.cell? ⟨g2,o2+j*3+1,none⟩=some (.int .u64 (x.term:Int))∧W.cell? ⟨g2,o2+j*3+2,none⟩=some (.slice ya x.body.length yc)) (by kernel_rfl) (by rw[←hu];exact HCK.out _ HDR.out) (fun hHeld=>?_);rw[←hu] at hHeld ⊢;clear hu;refine zkH 0 (v:=?_) (h2:=?_) (h:=?_);rotate_left;focus (rintro W ⟨q1,q2,q3,q4,q5,q6⟩;go_simp;(try with_reducible rfl))
   try simp only[Act.put,zsA,zsS,zsZ]
   refine zkH 1 (v:=?_) (h2:=?_) (h:=?_);rotate_left;focus (rintro W ⟨q1,q2,q3,q4,q5,q6⟩;go_simp;(try with_reducible rfl))
   try simp only[Act.put,zsA,zsS,zsZ]
   refine zkH 2 (v:=?_) (h2:=?_) (h:=?_);rotate_left;focus (rintro W ⟨q1,q2,q3,q4,q5,q6⟩;go_simp;(try with_reducible rfl))
   try simp only[Act.put,zsA,zsS,zsZ]
   refine zkH 3 (v:=?_) (h2:=?_) (h:=?_);rotate_left;focus (rintro W ⟨q1,q2,q3,q4,q5,q6⟩;go_simp;(try with_reducible rfl))
   try simp only[Act.put,zsA,zsS,zsZ]
   refine zkH 4 (v:=?_) (h2:=?_) (h:=?_);rotate_left;focus (rintro W ⟨q1,q2,q3,q4,q5,q6⟩;go_simp;(try with_reducible rfl))
   try simp only[Act.put,zsA,zsS,zsZ]
   refine zkH 5 (v:=?_) (h2:=?_) (h:=?_);rotate_left;focus (rintro W ⟨q1,q2,q3,q4,q5,q6⟩;go_simp;(try with_reducible rfl))
   try simp only[Act.put,zsA,zsS,zsZ]
   refine zkH 6 (v:=?_) (h2:=?_) (h:=?_);rotate_left;focus (rintro W ⟨q1,q2,q3,q4,q5,q6⟩;go_simp;(try with_reducible rfl))
   try simp only[Act.put,zsA,zsS,zsZ]
   refine zkH 7 (v:=?_) (h2:=?_) (h:=?_);rotate_left;focus (rintro W ⟨q1,q2,q3,q4,q5,q6⟩;go_simp;(try with_reducible rfl))
   try simp only[Act.put,zsA,zsS,zsZ]
   refine zrH 8 (h:=fun K hK=>?_);rw[if_pos (by rfl)];go_simp
   refine(refSame_ent x x xa ya xc yc u (HX.out.below HDR.out) (HY.out.below HDR.out)).mono ?_;rintro e w5 ⟨rfl,hb5⟩;have hsx:sameE x x=true:=sameE_iff.2 rfl;rw[hsx];have HB5:=hid (HDR.out.trans (hb5.mono HDR.out.size));have HELD:=hid (HCK.out _ HB5.out);clear hb5 hsx;go_wp2_with fail
   refine hK.out _ _ HELD.out (fun hHeld=>?_);clear hK K;try simp only[Act.put,zsA,zsS,zsZ]
   refine zkH 9 (v:=?_) (h2:=?_) (h:=?_);rotate_left;focus (rintro W ⟨q1,q2,q3,q4,q5,q6⟩;go_simp;(try with_reducible rfl))
   try simp only[Act.put,zsA,zsS,zsZ]
   refine wpAnyH_done (by kernel_rfl) ?_ _;go_wp2_with fail
   go_roundw
   case rel=>exact⟨j+1,by go_num,by omega,hid (HB.out.trans (HB5.out.mono HB.out.size))⟩
   case measure=>simp [intOf];omega
  ·have dk:decide ((j:Int)<(N:Int))=false:=decide_eq_false (by omega)
   have dk2:decide (j<N)=false:=decide_eq_false hlt;go_wp2_with fail
   go_ret
   exact⟨rfl,HB.out⟩
end Rl
end Go.Proofs.YtalfbcbnljhldaaGreatDoor

set_option linter.unusedSimpArgs false
namespace Go.Proofs.YtalfbcbnljhldaaGreatDoor
open Go.Lib (hid)
open Go.RowKit Go.Maps Go.Sort Dsk Rd Wl
namespace Rl
set_option maxRecDepth 100000 in
set_option maxHeartbeats 4000000 in
theorem files_same {w:World} {B Bd g gd n N:Nat} {o:Tags} {S:Nat→Prop} {M:Files} (hl:Live w Bd o gd M N) (hd:RM w B S g n M) (hi:Wl.Inv M) (hn:n≤600000):
  Calls Tryz.prog 24 #[.pointer (some ⟨gd,0,none⟩),.pointer (some ⟨g,0,none⟩)] w fun e w'=>e= .returned (.bool true)∧Below w.heap.size w w':=by
 obtain⟨ks,hks,hkl⟩:=hi.fin;have hsm: ∀l f,M l=some f→f.later.length<1000000000:=fun l f hf=>by have:=(hi.file l f hf).few;omega
 have HNA:=hid (names_all gd Bd N o M w hl.disk (by have:=hl.few;omega) hsm);have HL:=hid hl;have HD:=hid hd;have HI:=hid hi;have HKS:=hid hks;have HSM:=hid hsm;obtain⟨kn,hkn⟩: ∃x,x=ks.length:=⟨_,rfl⟩;rw[←hkn] at hkl;have HKN:=hid hkn;have hkni:(kn:Int)≤64:=by omega
 clear hl hd hi hks hsm hkn;go_enter Tryz.func24,Tryz.ntmps24
 go_wp2_with fail
 refine HNA.out.mono ?_;rintro e w1 ⟨ks1,ka,kc,rfl,hks1,hrow1,hb1,-⟩;have he:=NamesOf.one hks1 HKS.out;subst he;rw[←HKN.out];have HROW1:=hid hrow1;have HB1:=hid hb1;clear hks1 hrow1 hb1 HNA;have HRN:=hid (rm_names (HD.out.below HB1.out) (inv_ok HI.out) (inv_slim HI.out) (by omega) HKS.out);go_wp2_with fail
 refine HRN.out.mono ?_;rintro e w2 ⟨v2,rfl,hrow2,hb2⟩;obtain⟨ra,rc,rfl,hcell2⟩:=ownsRow_cell hrow2;rw[←HKN.out];have HB2:=hid (HB1.out.trans (hb2.mono HB1.out.size));have HC2:=hid hcell2;have HROW2:=hid (StrRow.below HROW1.out hb2);clear hrow2 hb2 hcell2 HRN HROW1;have HLA:=hid (loose_all gd Bd N o M w2 (HL.out.disk.below HB2.out) (by have:=HL.out.few;omega) HSM.out);go_wp2_with fail
 refine HLA.out.mono ?_;rintro e w3 ⟨ls,xa,xc,rfl,hls,-,hb3,hlsN⟩;have HB3:=hid (HB2.out.trans (hb3.mono HB2.out.size));have HB23:=hid hb3;have HRL:=hid (rm_loose (HD.out.below HB3.out) (inv_ok HI.out) (inv_slim HI.out) (by omega) hls);have hlln:(ls.length:Int)≤5000:=by have:=HL.out.few;omega
 obtain⟨ln,hln⟩: ∃x,x=ls.length:=⟨_,rfl⟩;have HLN:=hid hln;rw[←hln] at hlln ⊢;clear hls hb3 hlsN HLA hln;go_wp2_with fail
 refine HRL.out.mono ?_;rintro e w4 ⟨v4,rfl,hrow4,hb4⟩;obtain⟨ya,yc,rfl,-⟩:=ownsRow_cell hrow4;rw[←HLN.out];have HB24:=hid (HB23.out.trans (hb4.mono HB23.out.size));have HB4:=hid (HB3.out.trans (hb4.mono HB3.out.size));clear hrow4 hb4 HRL;go_wp2_with fail
 go_loopw [7] (fun v7 wr=> ∃(j:Nat),v7= .int .i64 (j:Int)∧j≤kn∧Hid (Below w2.heap.size w2 wr)) (fun v7 _=>kn - (intOf v7).toNat)
 case atStart=>exact⟨0,rfl,Nat.zero_le _,HB24⟩
 case round=>
  obtain⟨j,rfl,hj,HB⟩:=hrel;by_cases hlt:j<kn
  ·have hjl:j<ks1.length:=by rw[←HKN.out];exact hlt
   obtain⟨nm,hnm⟩: ∃nm,nm=ks1[j]:=⟨_,rfl⟩;obtain⟨b2,rfl,hbl2,hx2,_⟩:=HC2.out j (.string ⟨nm.toArray⟩) (by simp [strs,hjl,hnm]);obtain⟨b1,rfl,hbl1,hx1,_⟩:=(show∃b1,ka=some ⟨b1,0,none⟩∧b1<w2.heap.size∧w2.cell? ⟨b1,j,none⟩=some (.string ⟨nm.toArray⟩)∧True by
    obtain⟨a9,c9,e9,h9⟩:=ownsRow_cell HROW2.out;cases e9;obtain⟨b1,k1,k2,k3,_⟩:=h9 j (.string ⟨nm.toArray⟩) (by simp [hjl,hnm]);exact⟨b1,k1,k2,k3,trivial⟩)
   have x1:=stays' HB.out hx1;have x2:=stays' HB.out hx2;have hth:(M.at nm).now.there=true:=(names_iff HKS.out nm).1 (by rw[hnm];exact List.getElem_mem hjl);have hsz:=(HI.out.at_size nm).1;have hrng:=(Fil.now_ok (HI.out.at_ok nm)).2.2;have hnl:nm.length≤64:=by
    obtain⟨f,hf,_⟩:=at_some hth;exact(HI.out.file nm f hf).name
   have HBR:=hid (HB2.out.trans (HB.out.mono HB2.out.size));have HRP:=hid (read_of _ _ wr Bd o nm (M.at nm) (hid (file_any gd Bd N o M nm wr (HL.out.disk.below HBR.out) hnl)) (hid fun q hq=>((HL.out.disk.below HBR.out).owns q hq).2) (by have:=(HI.out.at_size nm).2;omega));rw[hth] at HRP;have HTH:=hid hth;have HRNG:=hid hrng;have dk:decide ((j:Int)<(kn:Int))=true:=decide_eq_true (by omega);have dk2:decide (j<kn)=true:=decide_eq_true hlt;have dk3:decide ((j:Int)<0)=false:=by simp
   have hk0:(0:Int)≤j:=by omega
   have hk1:(j:Int)≤64:=by omega
   have hk2:(j:Int)<(kn:Int):=by omega
   have HX1:=hid hx1;have HX2:=hid hx2;clear hnm hx1 hx2 hth hrng hnl;go_wp2_with fail
   refine HRP.out.mono ?_;rintro e w5 ⟨pa,pc,rfl,hrow5,hb5⟩;have HB5:=hid (HB.out.trans (hb5.mono HB.out.size));have HBR5:=hid (HBR.out.trans (hb5.mono HBR.out.size));have HPR:=hid (show Reads w5 pa (M.at nm).now.bs by
    obtain⟨a9,c9,e9,h9,-⟩:=hrow5.reads HRNG.out (by omega);cases e9;exact h9)
   have hrr:=rm_read (HD.out.below HBR5.out) (inv_ok HI.out) (inv_slim HI.out) (by omega) nm;rw[HTH.out,if_pos rfl] at hrr;have HRR:=hid hrr;have y1:=stays' HB5.out HX1.out;have y2:=stays' HB5.out HX2.out;obtain⟨bs,hbs⟩: ∃x,x=(M.at nm).now.bs:=⟨_,rfl⟩;rw[←hbs] at HPR HRR HRNG hsz ⊢;clear hrow5 hb5 hrr hbs HRP x1 x2;go_wp2_with fail
   refine HRR.out.mono ?_;rintro e w6 ⟨v6,rfl,hrow6,hb6⟩;obtain⟨qa,qc,rfl,hqr,-,-⟩:=hrow6.reads HRNG.out (by omega);have HB6:=hid (HB5.out.trans (hb6.mono HB5.out.size));have HQ:=hid hqr;have HP6:=hid (HPR.out.below hb6);have z1:=stays' HB6.out HX1.out;have z2:=stays' HB6.out HX2.out;obtain⟨bl,hbl⟩: ∃x,x=bs.length:=⟨_,rfl⟩;have HBL:=hid hbl;clear hrow6 hb6 hqr HRR y1 y2;go_upto_region 9 with fail
   obtain⟨u,hu⟩: ∃u,u=w6.drew:=⟨_,rfl⟩;have hdr:Below w6.heap.size w6 u:=by rw[hu];exact(Below.refl _ _).drew
   have HU:=hid (HB6.out.trans (hdr.mono HB6.out.size));have HCK:=hid (fun W (hW:Below u.heap.size u W)=>(⟨stays' hW (stays' hdr z1),stays' hW (stays' hdr z2),fun t=>((HP6.out.below hdr).below hW).text bs.length t rfl,fun t=>((HQ.out.below hdr).below hW).text bs.length t rfl⟩:(fun W=>W.cell? ⟨b1,j,none⟩=some (.string ⟨nm.toArray⟩)∧W.cell? ⟨b2,j,none⟩=some (.string ⟨nm.toArray⟩)∧(∀t:Nat,(convert 39 9 (.slice pa bs.length t)).run Tryz.prog W= .ok (.string (strOfNums bs)) W)∧(∀t:Nat,(convert 39 9 (.slice qa bs.length t)).run Tryz.prog W= .ok (.string (strOfNums bs)) W)) W));refine wp_region_held_drew (S:=fun W=>W.cell? ⟨b1,j,none⟩=some (.string ⟨nm.toArray⟩)∧W.cell? ⟨b2,j,none⟩=some (.string ⟨nm.toArray⟩)∧(∀t:Nat,(convert 39 9 (.slice pa bs.length t)).run Tryz.prog W= .ok (.string (strOfNums bs)) W)∧(∀t:Nat,(convert 39 9 (.slice qa bs.length t)).run Tryz.prog W= .ok (.string (strOfNums bs)) W)) (by kernel_rfl) (by rw[←hu];exact HCK.out _ (Below.refl _ _)) (fun hHeld=>?_);rw[←hu] at hHeld ⊢;clear hu hdr z1 z2;refine zkH 0 (v:=?_) (h2:=?_) (h:=?_);rotate_left;focus (rintro W ⟨q1,q2,q3,q4⟩;go_simp;(try with_reducible rfl))
   try simp only[Act.put,zsA,zsS,zsZ]
   refine zkH 1 (v:=?_) (h2:=?_) (h:=?_);rotate_left;focus (rintro W ⟨q1,q2,q3,q4⟩;go_simp;(try with_reducible rfl))
   try simp only[Act.put,zsA,zsS,zsZ]
   refine zkH 2 (v:=?_) (h2:=?_) (h:=?_);rotate_left;focus (rintro W ⟨q1,q2,q3,q4⟩;go_simp;(try with_reducible rfl))
   try simp only[Act.put,zsA,zsS,zsZ]
   refine zkH 3 (v:=?_) (h2:=?_) (h:=?_);rotate_left;focus (rintro W ⟨q1,q2,q3,q4⟩;go_simp;(try with_reducible rfl))
   try simp only[Act.put,zsA,zsS,zsZ]
   refine zkH 4 (v:=?_) (h2:=?_) (h:=?_);rotate_left;focus (rintro W ⟨q1,q2,q3,q4⟩;go_simp;(try with_reducible rfl))
   try simp only[Act.put,zsA,zsS,zsZ]
   refine zkH 5 (v:=?_) (h2:=?_) (h:=?_);rotate_left;focus (rintro W ⟨q1,q2,q3,q4⟩;go_simp;(try with_reducible rfl))
   try simp only[Act.put,zsA,zsS,zsZ]
   refine zkH 6 (v:=?_) (h2:=?_) (h:=?_);rotate_left;focus (rintro W ⟨q1,q2,q3,q4⟩;go_simp;(try with_reducible rfl))
   try simp only[Act.put,zsA,zsS,zsZ]
   refine zkH 7 (v:=?_) (h2:=?_) (h:=?_);rotate_left;focus (rintro W ⟨q1,q2,q3,q4⟩;go_simp;(try with_reducible rfl))
   try simp only[Act.put,zsA,zsS,zsZ]
   refine zkH 8 (v:=?_) (h2:=?_) (h:=?_);rotate_left;focus (rintro W ⟨q1,q2,q3,q4⟩;go_simp;(try with_reducible rfl))
   try simp only[Act.put,zsA,zsS,zsZ]
   refine zkH 9 (v:=?_) (h2:=?_) (h:=?_);rotate_left;focus (rintro W ⟨q1,q2,q3,q4⟩;go_simp;(try with_reducible rfl))
   try simp only[Act.put,zsA,zsS,zsZ]
   refine zkH 10 (v:=?_) (h2:=?_) (h:=?_);rotate_left;focus (rintro W ⟨q1,q2,q3,q4⟩;go_simp;(try with_reducible rfl))
   try simp only[Act.put,zsA,zsS,zsZ]
   refine zkH 11 (v:=?_) (h2:=?_) (h:=?_);rotate_left;focus (rintro W ⟨q1,q2,q3,q4⟩;go_simp;(try with_reducible rfl))
   try simp only[Act.put,zsA,zsS,zsZ]
   refine zkH 12 (v:=?_) (h2:=?_) (h:=?_);rotate_left;focus (rintro W ⟨q1,q2,q3,q4⟩;go_simp;(try with_reducible rfl))
   try simp only[Act.put,zsA,zsS,zsZ]
   refine zkH 13 (v:=?_) (h2:=?_) (h:=?_);rotate_left;focus (rintro W ⟨q1,q2,q3,q4⟩;go_simp;(try with_reducible rfl))
   try simp only[Act.put,zsA,zsS,zsZ]
   refine zkH 14 (v:=?_) (h2:=?_) (h:=?_);rotate_left;focus (rintro W ⟨q1,q2,q3,q4⟩;go_simp;(try with_reducible rfl))
   try simp only[Act.put,zsA,zsS,zsZ]
   refine zkH 15 (v:=?_) (h2:=?_) (h:=?_);rotate_left;focus (rintro W ⟨q1,q2,q3,q4⟩;go_simp;(try with_reducible rfl))
   try simp only[Act.put,zsA,zsS,zsZ]
   refine wpAnyH_done (by kernel_rfl) ?_ _;go_wp2_with fail
   go_roundw
   case rel=>exact⟨j+1,by go_num,by omega,HU⟩
   case measure=>simp [intOf];omega
  ·have dk:decide ((j:Int)<(kn:Int))=false:=decide_eq_false (by omega)
   have dk2:decide (j<kn)=false:=decide_eq_false hlt;go_wp2_with fail
   go_ret
   exact⟨rfl,HB2.out.trans (HB.out.mono HB2.out.size)⟩
end Rl
end Go.Proofs.YtalfbcbnljhldaaGreatDoor

namespace Go.Proofs.YtalfbcbnljhldaaGreatDoor
open Go.Lib (hid)
open Go.RowKit Go.Maps Go.Sort Dsk Rd Wl
namespace Rl
set_option maxRecDepth 100000 in
set_option maxHeartbeats 4000000 in
theorem great_any (w:World) (k n:Int) (la:Option Addr) (lc:Nat) (es:List EV) (sa:Option Addr) (sn sc:Nat) (nm:Name) (ba:Option Addr) (bn bc:Nat) (hr:ReadsP w la es) (hb: ∀p∈es,∃a c,p.2= .slice a p.1.body.length c) (hl:es.length≤9223372036854775807) (hbl: ∀p∈es,p.1.body.length≤9223372036854775807) (hs:sn≤9223372036854775807) (hbn:bn≤9223372036854775807) (hnm:nm.length≤9223372036854775807):
  Calls Tryz.prog 8 #[.agg #[.int .i64 k,.slice la es.length lc,.int .u64 n,.slice sa sn sc,.string ⟨nm.toArray⟩,.slice ba bn bc]] w fun e w'=>(e= .returned (.bool true)∨e= .returned (.bool false)∧(∀p∈es,p.1.body.length≤100∨2000≤p.1.body.length∧p.1.body.length≤2100)∧es.length≤30∧sn≤30∧bn≤300∧nm.length≤60)∧Below w.heap.size w w':=by
 obtain⟨N,hN⟩: ∃x,x=es.length:=⟨_,rfl⟩;rw[←hN] at hl ⊢;have hsz:(⟨nm.toArray⟩:ByteArray).size=nm.length:=rfl;obtain⟨nl,hnl⟩: ∃x,x=nm.length:=⟨_,rfl⟩;rw[←hnl] at hsz hnm;obtain⟨w1,hw1⟩: ∃x,x=w.alloc (.cells #[.int .i64 k,.slice la N lc,.int .u64 n,.slice sa sn sc,.string ⟨nm.toArray⟩,.slice ba bn bc] 41):=⟨_,rfl⟩;have hb1:Below w.heap.size w w1:=by rw[hw1];exact(Below.refl _ _).alloc (Nat.le_refl _) _
 have hbx:w1.heap[w.heap.size]?=some (.cells #[.int .i64 k,.slice la N lc,.int .u64 n,.slice sa sn sc,.string ⟨nm.toArray⟩,.slice ba bn bc] 41 (0,0)):=by rw[hw1];exact heap_alloc_new _ _
 have c1:w1.cell? ⟨w.heap.size,1,none⟩=some (.slice la N lc):=by rw[cell_of_row _ _ _ _ _ _ hbx];rfl
 have c3:w1.cell? ⟨w.heap.size,3,none⟩=some (.slice sa sn sc):=by rw[cell_of_row _ _ _ _ _ _ hbx];rfl
 have c4:w1.cell? ⟨w.heap.size,4,none⟩=some (.string ⟨nm.toArray⟩):=by rw[cell_of_row _ _ _ _ _ _ hbx];rfl
 have c5:w1.cell? ⟨w.heap.size,5,none⟩=some (.slice ba bn bc):=by rw[cell_of_row _ _ _ _ _ _ hbx];rfl
 have HN:=hid hN;have HNL:=hid hnl;have HR:=hid (hr.below hb1);have HB:=hid hb;have HBL:=hid hbl;have HB1:=hid hb1;have HL:=hid hl;have HW1:=hid hw1;clear hr hb hbl hbx hb1 hN hnl hw1 hl;go_enter Tryz.func8,Tryz.ntmps8
 go_wp2_with fail
 rw[←HW1.out];go_loopw [3] (fun v3 wr=> ∃(j:Nat),v3= .int .i64 (j:Int)∧j≤N∧Hid (Below w1.heap.size w1 wr)∧Hid (∀i (h:i<es.length),i<j→es[i].1.body.length≤100∨2000≤es[i].1.body.length∧es[i].1.body.length≤2100)) (fun v3 _=>N - (intOf v3).toNat)
 case atStart=>exact⟨0,rfl,Nat.zero_le _,hid (Below.refl _ _),hid fun i _ h=>absurd h (Nat.not_lt_zero _)⟩
 case round=>
  obtain⟨j,rfl,hj,HE,HALL⟩:=hrel;have c1:=stays' HE.out c1;have c3:=stays' HE.out c3;have c4:=stays' HE.out c4;have c5:=stays' HE.out c5;by_cases hlt:j<N
  ·have hjl:j<es.length:=by rw[←HN.out];exact hlt
   obtain⟨q,o,hla,-,-,-,d2⟩:=(HR.out.below HE.out).at_ hjl;subst hla;obtain⟨ea,ec,hpv⟩:=HB.out es[j] (List.getElem_mem hjl);have hbm:=HBL.out es[j] (List.getElem_mem hjl);rw[hpv] at d2;obtain⟨bl,hbl⟩: ∃x,x=es[j].1.body.length:=⟨_,rfl⟩;rw[←hbl] at d2 hbm;have HBB:=hid hbl;have dk:decide ((j:Int)<(N:Int))=true:=decide_eq_true (by omega);have dk2:decide (j<N)=true:=decide_eq_true hlt;have dk3:decide ((j:Int)<0)=false:=by simp
   have hk0:(0:Int)≤j:=by omega
   have hk1:(j:Int)<9223372036854775807:=by have:=HL.out;omega
   have hk2:(j:Int)<(N:Int):=by omega
   clear hpv hbl;by_cases h1:100<bl
   ·have e1:decide ((100:Int)<(bl:Int))=true:=decide_eq_true (by omega)
    by_cases h2:bl<2000
    ·have e2:decide ((bl:Int)<(2000:Int))=true:=decide_eq_true (by omega)
     go_wp2_with fail
     go_ret
     exact⟨.inl rfl,HB1.out.trans (HE.out.mono HB1.out.size)⟩
    ·have e2:decide ((bl:Int)<(2000:Int))=false:=decide_eq_false (by omega)
     by_cases h3:2100<bl
     ·have e3:decide ((2100:Int)<(bl:Int))=true:=decide_eq_true (by omega)
      go_wp2_with fail
      go_ret
      exact⟨.inl rfl,HB1.out.trans (HE.out.mono HB1.out.size)⟩
     ·have e3:decide ((2100:Int)<(bl:Int))=false:=decide_eq_false (by omega)
      go_wp2_with fail
      go_roundw
      case rel=>exact⟨j+1,by go_num,by omega,HE,hid fun i hi h=>by
       by_cases e:i=j
       ·subst e;rw[←HBB.out];omega
       ·exact HALL.out i hi (by omega)⟩
      case measure=>simp [intOf];omega
   ·have e1:decide ((100:Int)<(bl:Int))=false:=decide_eq_false (by omega)
    have e3:decide ((2100:Int)<(bl:Int))=false:=decide_eq_false (by omega);go_wp2_with fail
    go_roundw
    case rel=>exact⟨j+1,by go_num,by omega,HE,hid fun i hi h=>by
     by_cases e:i=j
     ·subst e;rw[←HBB.out];omega
     ·exact HALL.out i hi (by omega)⟩
    case measure=>simp [intOf];omega
  ·have dk:decide ((j:Int)<(N:Int))=false:=decide_eq_false (by omega)
   have dk2:decide (j<N)=false:=decide_eq_false hlt;have HALL2:=hid (show∀p∈es,p.1.body.length≤100∨2000≤p.1.body.length∧p.1.body.length≤2100 from fun p hp=>by
    obtain⟨i,hi,rfl⟩:=List.mem_iff_getElem.1 hp;exact HALL.out i hi (by have:=HN.out;omega))
   by_cases h1:30<N
   ·have e1:decide ((30:Int)<(N:Int))=true:=decide_eq_true (by omega)
    go_wp2_with fail
    go_ret
    exact⟨.inl rfl,HB1.out.trans (HE.out.mono HB1.out.size)⟩
   ·have e1:decide ((30:Int)<(N:Int))=false:=decide_eq_false (by omega)
    by_cases h2:30<sn
    ·have e2:decide ((30:Int)<(sn:Int))=true:=decide_eq_true (by omega)
     go_wp2_with fail
     go_ret
     exact⟨.inl rfl,HB1.out.trans (HE.out.mono HB1.out.size)⟩
    ·have e2:decide ((30:Int)<(sn:Int))=false:=decide_eq_false (by omega)
     by_cases h3:300<bn
     ·have e3:decide ((300:Int)<(bn:Int))=true:=decide_eq_true (by omega)
      go_wp2_with fail
      go_ret
      exact⟨.inl rfl,HB1.out.trans (HE.out.mono HB1.out.size)⟩
     ·have e3:decide ((300:Int)<(bn:Int))=false:=decide_eq_false (by omega)
      by_cases h4:60<nl
      ·have e4:decide ((60:Int)<(nl:Int))=true:=decide_eq_true (by omega)
       go_wp2_with fail
       go_ret
       exact⟨.inl rfl,HB1.out.trans (HE.out.mono HB1.out.size)⟩
      ·have e4:decide ((60:Int)<(nl:Int))=false:=decide_eq_false (by omega)
       go_wp2_with fail
       go_ret
       exact⟨.inr ⟨rfl,HALL2.out,by omega,by omega,by omega,by have:=HNL.out;omega⟩,HB1.out.trans (HE.out.mono HB1.out.size)⟩
end Rl
end Go.Proofs.YtalfbcbnljhldaaGreatDoor

namespace Go.Proofs.YtalfbcbnljhldaaGreatDoor
open Go.RowKit Go.Maps Dsk Rd Wl
namespace Rd
theorem crashGo_len (ss:List Int): ∀(l:List Name) (k:Nat) (L:List (Name×RFil)),(crashGo ss k l L).length≤L.length
 | [],_,_=>Nat.le_refl _
 | nm::l,k,L=>by
  unfold crashGo;exact Nat.le_trans (crashGo_len ss l (k+1) _) (keep_len L _ _)
theorem rm_crash {w:World} {B g n:Nat} {S:Nat→Prop} {M:Files} (h:RM w B S g n M) (ho:AllOk M) (hs:Slim M) (hn:n≤700000) {ks:List Name} (hk:NamesOf M (fun f=>f.loose) ks) (sa:Option Addr) (sc:Nat) (ss:List Int) (hst: ∀k (h:k<ss.length),∃gs of,sa=some ⟨gs,of,none⟩∧gs<B∧w.cell? ⟨gs,of+k,none⟩=some (.int .i64 ss[k]))
  (hsf: ∀x∈ss,-9223372036854775808≤x∧x≤9223372036854775807) (hsl:ss.length≤1000000):
  Calls Tryz.prog 16 #[.pointer (some ⟨g,0,none⟩),.slice sa ss.length sc] w fun e w'=>e= .returned (.tuple #[])∧Apart S w w'∧RM w' B (More S w w') g n (crashed M ks (stayN ss)):=by
 obtain⟨F,hd,hr,hF⟩:=h;have hnd:(F.map (·.n)).Nodup:=by
  have h1:=sort_nodup hr.sort;have h2:(absF F).map (·.1)=F.map (·.n):=by simp [absF,Function.comp]
  rw[h2] at h1;exact h1
 refine(rdcrash_any hd (rel_small hr ho hs (by omega)).1 hnd sa sc ss hst hsf hsl).mono ?_;rintro e w' ⟨rfl,hap,F',hd',hf'⟩;refine⟨rfl,hap,F',hd',?_,?_⟩
 ·rw[hf',hr.loose hk]
  exact hr.crashes ho hk ss
 ·have:=crashGo_len ss (rdLoose F) 0 (absF F)
  rw[←hf',abs_len,abs_len] at this;omega
end Rd
end Go.Proofs.YtalfbcbnljhldaaGreatDoor

namespace Go.Proofs.YtalfbcbnljhldaaGreatDoor.Wl
open Dsk
end Go.Proofs.YtalfbcbnljhldaaGreatDoor.Wl

namespace Go.Proofs.YtalfbcbnljhldaaGreatDoor.Wl
open Dsk
end Go.Proofs.YtalfbcbnljhldaaGreatDoor.Wl

namespace Go.Proofs.YtalfbcbnljhldaaGreatDoor
open Go.RowKit Go.Maps Go.Sort Dsk Wl
section
variable {B g N:Nat} {M:Files} {L:List (Nat×List Ent)} {E E':List Ent} {e:Ent}
theorem appends_any (B g:Nat) (M:Files) (N:Nat) (l:Name) (zs:List Int) (hT:Tame M) (hz:zs.length≤1048576) (ht:(M.at l).now.there=true→(M.at l).now.bs.length+zs.length≤1048576) (h1:1≤l.length) (h2:l.length≤64) (hN:N<64):
  AppendsTo B g M N l zs 0 (upd M l (some (appF (M.at l) zs))) (cntN M l N):=by
 intro w o a cap hd hB hr hna;cases hth:(M.at l).now.there with
 | true=>
  have hap:appF (M.at l) zs=(M.at l).app zs:=if_pos hth;rw[hap];exact append_there g B N o M l a cap zs w hd hr hna hth (ht hth) h1 h2 (by omega) (by have:=hT.at_ l;omega) hB
 | false=>
  have hap:appF (M.at l) zs=(M.at l).chg ⟨true,zs,zs.length⟩:=if_neg (by rw[hth];decide);rw[hap];exact append_new g B N o M l a cap zs w hd hr hna hth hz h1 h2 hN (fun l f hf=>by have:=(hT l f hf).2;omega) hB
theorem app_later (f:Fil) (zs:List Int):(f.app zs).later.length=f.later.length:=by
 by_cases h:f.later= []
 ·rw[Fil.app_nil h,h]
 ·obtain⟨l,v,hl⟩: ∃l v,f.later=l++ [v]:=⟨f.later.dropLast,f.later.getLast h,(List.dropLast_concat_getLast h).symm⟩
  rw[Fil.app_some hl,hl];simp
theorem tame_sync (h:Tame M) (c:Cur):Tame (syncM M c):=by
 unfold syncM;split
 ·refine tame_upd h (by rw[name_len];decide) fun f hf=>?_
  unfold settled at hf;split at hf
  ·cases hf;simp
  ·cases hf
 ·exact h
theorem tame_put {c:Cur} (h:Tame M) (hg:((syncM M c).at (nameOf c.next.num)).now.there=false→syncM M c (nameOf c.next.num)=none) (e:Ent):Tame (putM M c e):=by
 have hs:=tame_sync h c;refine tame_upd hs (by rw[name_len];decide) fun f hf=>?_;cases hf;unfold appF;split
 ·rw[app_later];exact hs.at_ _
 ·rename_i hn
  have hn1:=hg (by simpa using hn);rw[Files.at,hn1];simp [Fil.chg,Fil.zero]
theorem Wl.Whole.next (h:Whole M L E) (hk:(curL L).num<99999999):
  ((((syncM M (curL L)).at (nameOf (curL L).next.num)).now.there=false)→syncM M (curL L) (nameOf (curL L).next.num)=none)∧
  (((syncM M (curL L)).at (nameOf (curL L).next.num)).now.there=true→((syncM M (curL L)).at (nameOf (curL L).next.num)).now.bs.length≤20000):=by
 by_cases hL:L= []
 ·subst hL
  have hs:syncM M (curL [])=M:=rfl;have hn:(curL []).next=⟨1,0⟩:=next_zero 0;rw[hs,hn];have hth:(M.at (nameOf 1)).now.there=false:=by
   cases ht:(M.at (nameOf 1)).now.there with
   | false=>rfl
   | true=>have:=(h.segs.2 1 _).2 ⟨⟨by decide,by decide⟩,ht,rfl⟩;simp at this
  exact⟨fun _=>h.gone 1 (by decide) (by decide) hth,fun e=>by rw[hth] at e;cases e⟩
 ·obtain⟨L,x,rfl⟩: ∃L' x,L=L'++ [x]:=⟨L.dropLast,L.getLast hL,(List.dropLast_concat_getLast hL).symm⟩
  obtain⟨hx1,hx2,hx3,hx4⟩:=h.last;rw[curL_snoc] at hk ⊢;dsimp only at hk;by_cases h8:8≤x.2.length
  ·have hs:syncM M ⟨x.1,x.2.length⟩=upd M (nameOf x.1) (settled (M.at (nameOf x.1)).now):=if_pos h8
   have hne1:nameOf (x.1+1)≠nameOf x.1:=fun e0=>by
    have:=name_inj (j:=x.1+1) (k:=x.1) ⟨by omega,by omega⟩ hx1 e0;omega
   have hth:(M.at (nameOf (x.1+1))).now.there=false:=by
    cases ht:(M.at (nameOf (x.1+1))).now.there with
    | false=>rfl
    | true=>
     have hm:=(h.segs.2 (x.1+1) _).2 ⟨⟨by omega,by omega⟩,ht,rfl⟩;obtain⟨y,hy,hye⟩:=List.mem_map.1 hm;simp only[Prod.mk.injEq] at hye;rcases List.mem_append.1 hy with hy | hy
     ·have:=hx4 y hy;omega
     ·simp at hy;subst hy;omega
   rw[next_full h8,hs];dsimp only;rw[upd_at_other _ _ hne1,upd_other _ _ hne1,hth];exact⟨fun _=>h.gone _ (by omega) (by omega) hth,fun e=>by cases e⟩
  ·have hs:syncM M ⟨x.1,x.2.length⟩=M:=if_neg h8
   rw[next_same (by omega) h8,hs];dsimp only;rw[hx2,←hx3];exact⟨fun e=>(by cases e),fun _=>by have:=(flatE_len (h.ok x (by simp))).2;omega⟩
theorem curL_put (L:List (Nat×List Ent)) (hL: ∀x∈L,1≤x.1) (e:Ent):curL (putL L e)=⟨(curL L).next.num,(curL L).next.n+1⟩:=by
 by_cases hn:L= []
 ·subst hn;rfl
 ·obtain⟨L,x,rfl⟩: ∃L' x,L=L'++ [x]:=⟨L.dropLast,L.getLast hn,(List.dropLast_concat_getLast hn).symm⟩
  have hx:=hL x (by simp);rw[curL_snoc];by_cases h8:8≤x.2.length
  ·rw[putL_full e h8,curL_snoc,next_full h8];rfl
  ·rw[putL_more e h8,curL_snoc,next_same (by omega) h8];simp
theorem Wl.Whole.pos (h:Whole M L E): ∀x∈L,1≤x.1:=fun x hx=>((h.segs.2 x.1 (flatE x.2)).1 (List.mem_map.2 ⟨x,hx,rfl⟩)).1.1
theorem StepU.below {w w':World} {o o':Tags} {u:Nat} (hs:StepU u o w o' w') (ho: ∀k,o k≠none→B≤k) (hu:B≤u) (hB:B≤w.heap.size):Below B w w':=
 ⟨hs.os,hs.tape,hs.output,hs.size,fun k hk=>hs.block k (by omega) (by omega) (by
  cases e:o k with
  | none=>rfl
  | some t=>have:=ho k (by rw[e];simp);omega)⟩
theorem Live.stepU {w w':World} {o o':Tags} {u N':Nat} {M':Files} (h:Live w B o g M N) (hs:StepU u o w o' w') (hu:B≤u) (hd:DiskAt w' B o' g M' N') (hg:Tame M') (hN:N'≤5000):Live w' B o' g M' N':=
 ⟨h.tabs.below (hs.below (fun k e=>(h.disk.owns k e).1) hu h.hB),hd,Nat.le_trans h.hB hs.size,hg,hN⟩
theorem puts_any (h:Whole M L E) (hT:Tame M) (he:e.ok) (hk:(curL L).num<99999999) (hc:(curL L).n≤1000000000) (hN:N<64):
  PutsTo B g M N (curL L) e 0 (putM M (curL L) e) (cntN (syncM M (curL L)) (nameOf (curL L).next.num) N) (curL (putL L e)):=by
 intro w o sb U a cp hl hsb hr hU hB;obtain⟨hn1,hn2⟩:=h.next hk;have hT2:=tame_put hT hn1 e;have hA:=Lib.hid (appends_any B g (syncM M (curL L)) N (nameOf (curL L).next.num) (frm e) (tame_sync hT _) (by have:=(frm_len he).2;omega) (fun ht=>by have:=(frm_len he).2;have:=hn2 ht;omega) (by rw[name_len];decide) (by rw[name_len];decide) hN);have hcnt:=cntN_le (syncM M (curL L)) (nameOf (curL L).next.num) N;rw[curL_put L h.pos e];obtain⟨N2,hN2⟩: ∃N2,N2=cntN (syncM M (curL L)) (nameOf (curL L).next.num) N:=⟨_,rfl⟩;rw[←hN2] at hA hcnt ⊢;obtain⟨M2,hM2⟩: ∃M2,M2=putM M (curL L) e:=⟨_,rfl⟩;have hM3:upd (syncM M (curL L)) (nameOf (curL L).next.num) (some (appF ((syncM M (curL L)).at (nameOf (curL L).next.num)) (frm e)))=M2:=hM2.symm;rw[hM3] at hA;rw[←hM2] at hT2 ⊢;have fin: ∀ {r:Ending} {w':World} {c2:Cur},(r= .returned (.int .i64 0)∧ ∃o',DiskAt w' B o' g M2 N2∧StepU sb o w o' w'∧SBox w' o' sb c2)→r= .returned (.int .i64 0)∧ ∃o',Live w' B o' g M2 N2∧StepU sb o w o' w'∧SBox w' o' sb c2:=by
  rintro r w' c2 ⟨rfl,o',a1,a2,a3⟩;exact⟨rfl,o',hl.stepU a2 hB a1 hT2 (by omega),a2,a3⟩
 by_cases h8:8≤(curL L).n
 ·have hk1:1≤(curL L).num∧(M (nameOf (curL L).num)).isSome=true:=by
   by_cases hL:L= []
   ·subst hL;exact absurd h8 (by decide)
   ·obtain⟨L,x,rfl⟩: ∃L' x,L=L'++ [x]:=⟨L.dropLast,L.getLast hL,(List.dropLast_concat_getLast hL).symm⟩
    obtain⟨hx1,hx2,_,_⟩:=h.last;rw[curL_snoc];exact⟨hx1.1,there_some hx2⟩
  have hnx:(curL L).next=⟨(curL L).num+1,0⟩:=next_full h8;rw[hnx] at hA ⊢;exact(put_full hl sb (curL L) e a cp U hsb ⟨hk1.1,hk⟩ h8 hc hk1.2 hU he hr hB hA).mono fun r w' hh=>fin hh
 ·have hs:syncM M (curL L)=M:=if_neg h8
  rw[hs] at hA;by_cases hk0:(curL L).num=0
  ·have hnx:(curL L).next=⟨(curL L).num+1,0⟩:=by
    have:(curL L).fresh=true:=by simp [Cur.fresh,hk0]
    rw[Cur.next,if_pos this]
   rw[hnx] at hA ⊢;exact(put_first hl sb (curL L) e a cp U hsb hk0 (Nat.lt_of_not_le h8) hU he hr hB hA).mono fun r w' hh=>fin hh
  ·have hnx:(curL L).next=curL L:=next_same hk0 h8
   rw[hnx] at hA ⊢;exact(put_more hl sb (curL L) e a cp U hsb (by simp [Cur.fresh,hk0,h8]) (Nat.le_of_lt hk) he hr hB hA).mono fun r w' hh=>fin hh
end
end Go.Proofs.YtalfbcbnljhldaaGreatDoor

namespace Go.Proofs.YtalfbcbnljhldaaGreatDoor.Wl
open Dsk
end Go.Proofs.YtalfbcbnljhldaaGreatDoor.Wl

namespace Go.Proofs.YtalfbcbnljhldaaGreatDoor.Wl
open Dsk
end Go.Proofs.YtalfbcbnljhldaaGreatDoor.Wl

namespace Go.Proofs.YtalfbcbnljhldaaGreatDoor.Wl
open Dsk
end Go.Proofs.YtalfbcbnljhldaaGreatDoor.Wl

namespace Go.Proofs.YtalfbcbnljhldaaGreatDoor
open Go.RowKit Go.Maps Go.Sort Dsk Wl
section
variable {B g N:Nat} {M:Files} {L:List (Nat×List Ent)} {E E':List Ent} {e:Ent}
theorem next_le {c:Cur} (h:c.n≤8):c.next.num≤c.num+1∧c.next.n+1≤8:=by
 unfold Cur.next;split
 ·exact⟨Nat.le_refl _,by dsimp only;omega⟩
 ·rename_i hf
  unfold Cur.fresh at hf;simp only[Bool.or_eq_true,decide_eq_true_eq,not_or] at hf;exact⟨by omega,by omega⟩
theorem puts_all: ∀(es:List Ent) {M:Files} {L:List (Nat×List Ent)} {E E':List Ent} {N:Nat},Whole M L E→Tame M→(∀e∈es,e.ok)→chain E es=some E'→(curL L).num+es.length<99999999→(curL L).n≤8→N+es.length≤64→
  ∃M2 N2,Puts B g M N (curL L) es 0 M2 N2∧Whole M2 (es.foldl putL L) E'∧Tame M2∧N2≤N+es.length∧(curL (es.foldl putL L)).num≤(curL L).num+es.length∧(curL (es.foldl putL L)).n≤8
 | [],M,L,E,E',N,hW,hT,_,hc,_,hn,_=>by
  cases hc;exact⟨M,N,.nil M N _,hW,hT,Nat.le_refl _,Nat.le_refl _,hn⟩
 | e::es,M,L,E,E',N,hW,hT,hok,hc,hk,hn,hN=>by
  rw[List.length_cons] at hk hN;cases hf:Wl.follow E e with
  | none=>simp [chain,hf] at hc
  | some E1=>
   rw[chain_cons es hf] at hc;have he:=hok e (by simp);have hk1:(curL L).num<99999999:=by omega
   have hW1:=hW.put he hf hk1;have hT1:=tame_put hT (hW.next hk1).1 e;have hp:=puts_any (B:=B) (g:=g) (N:=N) hW hT he hk1 (by omega) (by omega);have hcu:=curL_put L hW.pos e;have hnx:=next_le hn;have hcnt:=(cntN_le (syncM M (curL L)) (nameOf (curL L).next.num) N).2;obtain⟨M2,N2,h1,h2,h3,h4,h5,h6⟩:=puts_all es hW1 hT1 (fun x hx=>hok x (by simp [hx])) hc (N:=cntN (syncM M (curL L)) (nameOf (curL L).next.num) N) (by rw[hcu];dsimp only;omega) (by rw[hcu];exact hnx.2) (by omega);rw[hcu] at h5;dsimp only at h5;exact⟨M2,N2,.step hp h1,h2,h3,by rw[List.length_cons];omega,by rw[List.length_cons];exact Nat.le_trans h5 (by omega),h6⟩
theorem okIx_chain: ∀(es:List Ent) {E E':List Ent},chain E es=some E'→okIx (lastIx E) es=true
 | [],_,_,_=>rfl
 | e::es,E,E',h=>by
  cases hf:Wl.follow E e with
  | none=>simp [chain,hf] at h
  | some E1=>
   rw[chain_cons es hf] at h;have h1:=okIx_chain es h;unfold Wl.follow at hf;split at hf
   ·rename_i hfo
    cases hf;rw[lastIx_snoc] at h1;simp [okIx,hfo,h1]
   ·cases hf
theorem refuse_chain {es:List Ent} (h:chain E es=some E') (hok: ∀e∈es,e.ok):refuse (lastIx E) es=0:=by
 have h2:short es=true:=by
  unfold short;rw[List.all_eq_true];intro e he;simpa using(hok e he).2.2.2.1
 unfold refuse;rw[if_pos (okIx_chain es h),if_pos h2]
theorem curOf_sg (L:List (Nat×List Ent)):curOf (L.map sgOf)=curL L:=by
 by_cases hn:L= []
 ·subst hn;rfl
 ·obtain⟨L,x,rfl⟩: ∃L' x,L=L'++ [x]:=⟨L.dropLast,L.getLast hn,(List.dropLast_concat_getLast hn).symm⟩
  rw[List.map_append,List.map_cons,List.map_nil,curOf_snoc,curL_snoc];rfl
theorem append_whole {w:World} {o:Tags} (h:Live w B o g M N) (hW:Whole M L E) (hb:Nat) (hw:WalAt w o hb g) (es:List Ent) (a:Option Addr) (c:Nat) (U:Nat) (hs:EntsF w o U a es) (hok: ∀e∈es,e.ok) (hc:chain E es=some E') (hE:E.length≤1000000000) (hk:(curL L).num+es.length<99999999) (hn:(curL L).n≤8) (hN:N+es.length≤64):
  Calls Tryz.prog 9 #[.pointer (some ⟨hb,0,none⟩),.slice a es.length c] w fun r w'=>r= .returned (.int .i64 0)∧ ∃o' M2 N2,Live w' B o' g M2 N2∧Step o w o' w'∧Whole M2 (es.foldl putL L) E'∧N2≤N+es.length∧(curL (es.foldl putL L)).num≤(curL L).num+es.length∧(curL (es.foldl putL L)).n≤8:=by
 obtain⟨M2,N2,h1,h2,h3,h4,h5,h6⟩:=puts_all (B:=B) (g:=g) es hW h.tame hok hc hk hn hN;refine(append_puts h hb hw es a c U hs (by omega) 0 M2 N2 fun ks hks=>?_).mono ?_
 ·rw[hW.read hks,curOf_sg]
  exact⟨refuse_chain hc hok,hE,h1⟩
 ·rintro r w' ⟨rfl,o',a1,a2⟩
  exact⟨rfl,o',M2,N2,a1,a2,h2,h4,h5,h6⟩
theorem append_not {w:World} {o:Tags} (h:Live w B o g M N) (hW:Whole M L E) (hb:Nat) (hw:WalAt w o hb g) (es:List Ent) (a:Option Addr) (c:Nat) (U:Nat) (hs:EntsF w o U a es) (hn:es.length<1000000000) (hE:E.length≤1000000000) (hr:refuse (lastIx E) es≠0):
  Calls Tryz.prog 9 #[.pointer (some ⟨hb,0,none⟩),.slice a es.length c] w fun r w'=>r= .returned (.int .i64 (refuse (lastIx E) es))∧Below w.heap.size w w':=by
 refine(append_refused h hb hw es a c U hs hn fun ks hks=>?_).mono ?_
 ·rw[hW.read hks]
  exact⟨hr,hE⟩
 ·rintro r w' ⟨ks,hks,rfl,hbl⟩
  rw[hW.read hks];exact⟨rfl,hbl⟩
theorem entries_whole {w:World} {o:Tags} (h:Live w B o g M N) (hW:Whole M L E) (hb:Nat) (hw:WalAt w o hb g):
  Calls Tryz.prog 22 #[.pointer (some ⟨hb,0,none⟩)] w fun r w'=> ∃v,r= .returned v∧EntRow w' w.heap.size E v∧Below w.heap.size w w':=by
 refine(entries_any h hb hw).mono ?_;rintro r w' ⟨ks,v,hks,rfl,a1,a2⟩;unfold entsAt at a1;rw[hW.read hks] at a1;exact⟨v,rfl,a1,a2⟩
theorem cutAll_whole (M:Files): ∀(L:List (Nat×List Ent)),(∀x∈L,x.2≠ [])→(∀x∈L,∀e∈x.2,e.ok)→cutAll M (L.map sgOf)=M
 | [],_,_=>rfl
 | x::L,h,hok=>by
  have hlen:(flatE x.2).length≠0:=by
   have:=(flatE_len (hok x (by simp))).1;have h1:x.2.length≠0:=fun e=>h x (by simp) (List.length_eq_zero_iff.1 e);omega
  have h1:cutSeg M (sgOf x)=M:=by
   unfold cutSeg;rw[if_neg (show¬(sgOf x).good=0 from hlen),if_neg (show¬(sgOf x).good<(sgOf x).bs.length from Nat.lt_irrefl _)]
  have h2:=cutAll_whole M L (fun y hy=>h y (by simp [hy])) (fun y hy=>hok y (by simp [hy]));unfold cutAll at h2 ⊢;rw[List.map_cons,List.foldl_cons,h1,h2]
theorem open_whole {w:World} {o:Tags} (h:Live w B o g M N) (hW:Whole M L E):
  Calls Tryz.prog 6 #[.pointer (some ⟨g,0,none⟩)] w fun r w'=> ∃hb o',r= .returned (.tuple #[.pointer (some ⟨hb,0,none⟩),.int .i64 0])∧w.heap.size≤hb∧WalAt w' o' hb g∧Live w' B o' g M N∧Step o w o' w':=by
 refine(open_any h).mono ?_;rintro r w' ⟨ks,hb,o',rfl,hks,h1,h2,h3,h4⟩;unfold openOf at h3;rw[hW.read hks,cutAll_whole M L hW.ne hW.ok] at h3;exact⟨hb,o',rfl,h1,h2,h.step h4 h3 h.tame h.few,h4⟩
theorem compact_one {w:World} {o:Tags} {x:Nat×List Ent} (h:Live w B o g M N) (hW:Whole M [x] E) (hb:Nat) (hw:WalAt w o hb g) (ix:Nat):
  Calls Tryz.prog 13 #[.pointer (some ⟨hb,0,none⟩),.int .u64 (ix:Int)] w fun r w'=> ∃o',r= .returned (.int .i64 0)∧Live w' B o' g M N∧Step o w o' w':=by
 refine(compact_any h hb hw ix).mono ?_;rintro r w' ⟨ks,o',hks,rfl,h1,h2⟩;have hsg:segsAt M ks= [sgOf x]:=by
  unfold segsAt;rw[hW.read hks];rfl
 have ho:oldN ix [sgOf x]=0:=by simp [oldN]
 rw[hsg,ho] at h1;exact⟨o',rfl,h1,h2⟩
end
end Go.Proofs.YtalfbcbnljhldaaGreatDoor

namespace Go.Proofs.YtalfbcbnljhldaaGreatDoor
open Dsk Wl
end Go.Proofs.YtalfbcbnljhldaaGreatDoor
