/-  -/
import Derived.Test.YtalfbcbnljhldaaGreatDoorMak
import Derived.Test.YtalfbcbnljhldaaGreatDoorMae
set_option linter.unusedSimpArgs false
namespace Go.Proofs.YtalfbcbnljhldaaGreatDoor
open Go.Lib (hid)
open Go.RowKit Go.Maps Dsk Rd
namespace Rd
def ReadsS (w:World) (S:Nat→Prop) (a:Option Addr) (zs:List Int):Prop:=Reads w a zs∧ ∀x,a=some x→zs≠ []→ ¬S x.block
theorem ReadsS.ex {w w':World} {S S':Nat→Prop} {a:Option Addr} {zs:List Int} (h:ReadsS w S a zs) (he:Ex S w w' S'):ReadsS w' S' a zs:=by
 have hblk: ∀x,a=some x→zs≠ []→x.block<w.heap.size:=fun x e hn=>by
  obtain⟨y,hy,hlt,_⟩:=h.1.cell 0 (List.length_pos_iff.2 hn);rw[e] at hy;cases hy;exact hlt
 refine⟨⟨fun i hi=>?_,h.1.hr,h.1.hl⟩,fun x e hn hs=>?_⟩
 ·obtain⟨x,hx,hlt,hc⟩:=h.1.cell i hi
  have hn:zs≠ []:=fun e=>by rw[e] at hi;simp at hi
  refine⟨x,hx,Nat.lt_of_lt_of_le hlt he.ap.size,?_⟩;rw[←hc];exact World.cell?_of_block (a:=x.add i) (by rw[add_block];exact he.ap.block _ hlt (h.2 x hx hn))
 ·rcases he.sub _ hs with h1 | ⟨h1,_⟩
  ·exact h.2 x e hn h1
  ·have:=hblk x e hn;omega
theorem AtIs.len {F F1:List FC} {nm:Name} {i:Nat} (h:AtIs F nm F1 i) (hF:F.length≤900000000):F1.length≤1000000000:=by
 rcases h with⟨_,rfl⟩ | ⟨_,rfl,_⟩
 ·omega
 ·have:=posL_le (absF F) nm
  simp only[absF,List.length_map] at this;unfold insF;simp;omega
theorem AtIs.small {F F1:List FC} {nm:Name} {i:Nat} (hat:AtIs F nm F1 i) (hsm: ∀c∈F,c.f.l.length≤900000000): ∀F2,F2=anyF F1 i→ ∀(hi:i<F2.length),F2[i].f.l.length≤900000000:=fun F2 e hi=>by
 subst e;rw[anyF_len] at hi;rw[anyF_get hi];show F1[i].f.l.length≤900000000;rcases hat with⟨_,rfl⟩ | ⟨_,rfl,rfl⟩
 ·exact hsm _ (List.getElem_mem hi)
 ·rcases insF_mem (List.getElem_mem hi) with h | ⟨n,h⟩
  ·exact hsm _ h
  ·rw[h];simp [FC.zero,RFil.zero]
section
variable {w:World} {B g:Nat} {S:Nat→Prop} {F:List FC}
set_option maxRecDepth 100000 in
set_option maxHeartbeats 8000000 in
theorem replace_put (h:RDisk w B S g F) (hs:Small F) (hF:F.length≤900000000) (nm:Name) (h0:nm.length≠0) (h1:nm.length≤64) (hsm: ∀c∈F,c.f.l.length≤900000000) (a:Option Addr) (c:Nat) (bs:List Int) (hrd:ReadsS w S a bs) (hnc:a=none→c=0) (hbl:bs.length≤1048576) (hroom:(rdRead F nm).1=true∨(rdNames F).length<64):
  Calls Tryz.prog 18 #[.pointer (some ⟨g,0,none⟩),.string ⟨nm.toArray⟩,.slice a bs.length c] w fun e w'=>e= .returned (.int .i64 0)∧Apart S w w'∧ ∃F' F1 i,AtIs F nm F1 i∧RDisk w' B (More S w w') g F'∧absF F'=putF F1 i (.whole false bs):=by
 have hsz:(⟨nm.toArray⟩:ByteArray).size=nm.length:=rfl;have HR:=hid (rdread_any h hs nm);have z1:((nm.length:Int) == 0)=false:=by simp;intro e;exact h0 (by rw[e];rfl)
 have z2:decide ((64:Int)<(nm.length:Int))=false:=by simp;omega
 have z3:decide ((1048576:Int)<(bs.length:Int))=false:=decide_eq_false (by omega);have HD:=hid h;have HSM0:=hid hs;have HFL9:=hid hF;have HSM:=hid hsm;have HRD:=hid hrd;have HNC:=hid hnc;have HBL:=hid hbl;have HROOM:=hid hroom;clear h hs hF hsm hrd hnc hbl hroom;by_cases hr:(rdRead F nm).1=true
 ·rw[hr] at HR
  clear hr HROOM;go_enter Tryz.func18,Tryz.ntmps18
  go_wp2_with fail
  refine HR.out.mono ?_;rintro e w1 ⟨v,rfl,HROW1,hb⟩;have HB:=hid hb;clear hb HR HROW1;go_wp2_with fail
  refine(at_any (HD.out.below HB.out) HFL9.out nm).mono ?_;rintro e w2 ⟨F1,i,rfl,hap,hda,hat⟩;have HAT:=hid hat;have HDA:=hid hda;have HE:=hid ((Ex.of_below HB.out).trans (Ex.of_more hap));have HF1:=hid (hat.len HFL9.out);have HSMF:=hid (hat.small HSM.out);clear hap hda hat;obtain⟨hi1,hn1⟩:=HAT.out.at_;obtain⟨da,dc,hdc,hcells⟩:=HDA.out.cell;obtain⟨-,-,-,-,e4⟩:=fileCells_at F1 i hi1;obtain⟨q,eq,hq,x4,f4⟩:=hcells _ _ e4;subst eq;obtain⟨oa,hoa⟩: ∃b,b=F1[i].f.any:=⟨_,rfl⟩;rw[←hoa] at x4;clear hoa;obtain⟨hany,hdc3,hSq⟩:=HDA.out.anyx hi1 hdc;have HEA:=hid (HE.out.trans (Ex.store (j:=i*5+4) (v:= .bool true) hSq));obtain⟨fl,hfl⟩: ∃x,x=F1.length:=⟨_,rfl⟩;rw[←hfl] at hdc hdc3;have hfl9:fl≤1000000000:=by rw[hfl];exact HF1.out
  have hif:(i:Int)<(fl:Int):=by omega
  have hif2:i<fl:=by omega
  have hif3:decide ((i:Int)<(fl:Int))=true:=decide_eq_true hif;have hib:(i:Int)≤1000000000:=by omega
  have hi0:(0:Int)≤i:=by omega
  have hi0d:decide ((i:Int)<0)=false:=by simp
  obtain⟨w3,hw3⟩: ∃W,W=w2.setCell ⟨q,i*5+4,none⟩ (.bool true):=⟨_,rfl⟩;rw[←hw3] at hany hdc3 HEA;obtain⟨F2,hF2⟩: ∃x,x=anyF F1 i:=⟨_,rfl⟩;rw[←hF2] at hany;have hi2:i<F2.length:=by rw[hF2,anyF_len];exact hi1
  have HPUT:=hid (fun(p:RPart) (v:Value)=>anyF_put hi1 p v (c:=F2[i]) (by simp only[hF2]));rw[←hF2] at HPUT;obtain⟨la,ll,lc,ss,hvl,hll,hssl,hprow,hpb,x3,f3⟩:=hany.open3 hdc3 hi2;have HAN:=hid hany;have HW3:=hid hw3;have HFL:=hid hfl;have HC3:=hid hdc3;have HX3:=hid x3;have HF3:=hid f3;have HVL:=hid hvl;have HLL:=hid hll;have HSSL:=hid hssl;have HPROW:=hid hprow;have HPB:=hid hpb;have HLM:=hid (show ll≤1000000000 by rw[hll];exact Nat.le_trans (HSMF.out F2 hF2 hi2) (by decide));have HNE:=hid (hany.vl_ne hdc3 hi2);have HGQ:=hid (show q<w3.heap.size by rw[hw3];simpa [World.setCell] using hq);have HF2L:=hid (show fl=F2.length by rw[hF2,anyF_len,hfl]);clear hany hSq hw3 hdc3 hcells e4 hfl hi1 hn1 hq hF2 hvl hll hssl hprow hpb x3 f3 hfl9;go_wp2_with fail
  rw[←HW3.out];clear hdc x4 f4;obtain⟨u,hu⟩: ∃u,u=w3.drew:=⟨_,rfl⟩;have HBu:=hid (show Below w3.heap.size w3 u by rw[hu];exact(Below.refl _ _).drew);refine wp_region_heldM_drew 21 (S:=fun W=>W.cell? ⟨g,0,none⟩=some (.slice (some ⟨q,0,none⟩) fl dc)∧W.cell? ⟨q,i*5+3,none⟩=some (.slice la ll lc)) (by kernel_rfl) (by rw[←hu];exact⟨stays' HBu.out HC3.out,stays' HBu.out HX3.out⟩) (fun hHeld=>?_);rw[←hu] at hHeld ⊢;clear hu;have HUu:=hid (Below.refl u.heap.size u);have HCK:=hid (fun W (hW:Below u.heap.size u W)=>(⟨stays' hW (stays' HBu.out HC3.out),stays' hW (stays' HBu.out HX3.out)⟩:W.cell? ⟨g,0,none⟩=some (.slice (some ⟨q,0,none⟩) fl dc)∧W.cell? ⟨q,i*5+3,none⟩=some (.slice la ll lc)));have HPRu:=hid (fun W (hW:Below u.heap.size u W)=>(ownsRow_keep HPROW.out fun k e=>(hW.block k (Nat.lt_of_lt_of_le (World.ownsRow.lt HPROW.out k e).2 HBu.out.size)).trans (HBu.out.block k (World.ownsRow.lt HPROW.out k e).2):W.ownsRow B 108 3 (.slice la ll lc) ll (partCells F2[i].f.l ss)));refine zkM 0 (v:=?_) (h2:=?_) (h:=?_);rotate_left;focus (rintro W ⟨q1,q2⟩;go_simp;(try with_reducible rfl))
  try simp only[Act.put,zsA,zsS,zsZ]
  refine zkM 1 (v:=?_) (h2:=?_) (h:=?_);rotate_left;focus (rintro W ⟨q1,q2⟩;go_simp;(try with_reducible rfl))
  try simp only[Act.put,zsA,zsS,zsZ]
  refine zkM 2 (v:=?_) (h2:=?_) (h:=?_);rotate_left;focus (rintro W ⟨q1,q2⟩;go_simp;(try with_reducible rfl))
  try simp only[Act.put,zsA,zsS,zsZ]
  refine zkM 3 (v:=?_) (h2:=?_) (h:=?_);rotate_left;focus (rintro W ⟨q1,q2⟩;go_simp;(try with_reducible rfl))
  try simp only[Act.put,zsA,zsS,zsZ]
  refine zkM 4 (v:=?_) (h2:=?_) (h:=?_);rotate_left;focus (rintro W ⟨q1,q2⟩;go_simp;(try with_reducible rfl))
  try simp only[Act.put,zsA,zsS,zsZ]
  refine zkM 5 (v:=?_) (h2:=?_) (h:=?_);rotate_left;focus (rintro W ⟨q1,q2⟩;go_simp;(try with_reducible rfl))
  try simp only[Act.put,zsA,zsS,zsZ]
  refine zkM 6 (v:=?_) (h2:=?_) (h:=?_);rotate_left;focus (rintro W ⟨q1,q2⟩;go_simp;(try with_reducible rfl))
  try simp only[Act.put,zsA,zsS,zsZ]
  refine zkM 7 (v:=?_) (h2:=?_) (h:=?_);rotate_left;focus (rintro W ⟨q1,q2⟩;go_simp;(try with_reducible rfl))
  try simp only[Act.put,zsA,zsS,zsZ]
  refine zkM 8 (v:=?_) (h2:=?_) (h:=?_);rotate_left;focus (rintro W ⟨q1,q2⟩;go_simp;(try with_reducible rfl))
  try simp only[Act.put,zsA,zsS,zsZ]
  refine zkM 9 (v:=?_) (h2:=?_) (h:=?_);rotate_left;focus (rintro W ⟨q1,q2⟩;go_simp;(try with_reducible rfl))
  try simp only[Act.put,zsA,zsS,zsZ]
  refine zkM 10 (v:=?_) (h2:=?_) (h:=?_);rotate_left;focus (rintro W ⟨q1,q2⟩;go_simp;(try with_reducible rfl))
  try simp only[Act.put,zsA,zsS,zsZ]
  refine zkM 11 (v:=?_) (h2:=?_) (h:=?_);rotate_left;focus (rintro W ⟨q1,q2⟩;go_simp;(try with_reducible rfl))
  try simp only[Act.put,zsA,zsS,zsZ]
  refine zkM 12 (v:=?_) (h2:=?_) (h:=?_);rotate_left;focus (rintro W ⟨q1,q2⟩;go_simp;(try with_reducible rfl))
  try simp only[Act.put,zsA,zsS,zsZ]
  refine zkM 14 (v:=?_) (h2:=?_) (h:=?_);rotate_left;focus (rintro W ⟨q1,q2⟩;go_simp;(try with_reducible rfl))
  try simp only[Act.put,zsA,zsS,zsZ]
  refine zrM 13 (h:=fun K hK=>?_);rw[if_pos (by rfl)];go_simp
  obtain⟨g0,hg0⟩: ∃x,x=u.heap.size:=⟨_,rfl⟩;obtain⟨ua,he⟩: ∃x,x=u.alloc (.cells #[] 5):=⟨_,rfl⟩;have hr0:Row ua u.heap.size [] (.slice (some ⟨g0,0,none⟩) 0 0):=by rw[he,hg0];exact World.ownsRow_lit u #[] 0 (Nat.le_refl _) (Nat.zero_le _) rfl
  have hb1:Below u.heap.size u ua:=by rw[he];exact(Below.refl _ _).alloc (Nat.le_refl _) _
  rw[←hg0,←he];have HR0:=hid hr0;have HUua:=hid hb1;have hs:=HCK.out _ hb1;clear hr0 hb1 hg0 he;refine hK.out _ _ hs (fun hHeld=>?_);clear hK K;try simp only[Act.put,zsA,zsS,zsZ]
  refine zrM 15 (h:=fun K hK=>?_);rw[if_pos (by rfl)];obtain⟨v1,ub,hrun,hr1,hg1,-⟩:=run_bytesR ua HR0.out ((((HRD.out.ex HEA.out).1.below HBu.out).below HUua.out)) HNC.out (by have:=HBL.out;simp;omega) HUua.out.size;refine wp_append_runR rfl rfl rfl hrun ?_;have hb1:=HUua.out.grown hg1 HUua.out.size fun k e=>(World.ownsRow.lt HR0.out k e).1;have HUub:=hid hb1;rw[List.nil_append] at hr1;obtain⟨ba,bc,hv1,_⟩:=slice_shape hr1;subst hv1;have HR1:=hid hr1;have hs1:=HCK.out _ hb1;clear hrun hr1 hg1 hb1;refine hK.out _ _ hs1 (fun hHeld=>?_);clear hK K;try simp only[Act.put,zsA,zsS,zsZ]
  refine zkM 16 (v:=?_) (h2:=?_) (h:=?_);rotate_left;focus (rintro W ⟨q1,q2⟩;go_simp;(try with_reducible rfl))
  try simp only[Act.put,zsA,zsS,zsZ]
  refine zrM 17 (h:=fun K hK=>?_);rw[if_pos (by rfl)];go_simp
  obtain⟨pv,hpv⟩: ∃x:Array Value,x= #[.bool true,.bool false,.slice ba bs.length bc]:=⟨_,rfl⟩;rw[←hpv];have hal:Below ub.heap.size ub (ub.alloc (.cells pv 108)):=(Below.refl _ _).alloc (Nat.le_refl _) _;have HUal:=hid (HUub.out.trans (hal.mono HUub.out.size));have hs:=HCK.out _ HUal.out;have HPV:=hid hpv;clear hpv hal;refine hK.out _ _ hs (fun hHeld=>?_);clear hK K;try simp only[Act.put,zsA,zsS,zsZ]
  refine zrM 18 (h:=fun K hK=>?_);rw[if_pos (by rfl)];have hpsz:pv.size=3:=by rw[HPV.out];rfl
  obtain⟨v2,wp,hrun,ho2,hg2,hlies2⟩:=run_one ub (t:=104) Tryz.underlying104 info_part rfl (by decide) (HPRu.out _ HUub.out) pv hpsz (fun x hx=>by rw[HPV.out] at hx;simp at hx;rcases hx with rfl | rfl | rfl<;>rfl) HLM.out (by decide) (by have:=(HAN.out.hS g HAN.out.hg);have:=HBu.out.size;have:=HUub.out.size;omega);refine wp_append_runR rfl rfl rfl hrun ?_;have HG2:=hid hg2;have HO2:=hid ho2;have HLIES:=hid hlies2;have hbu3:=HBu.out.trans (HUal.out.mono HBu.out.size);have hne1:(Value.slice la ll lc).ownBlock≠some g:=by rw[←HVL.out];exact HNE.out.1
  have hne2:(Value.slice la ll lc).ownBlock≠some q:=by rw[←HVL.out];exact HNE.out.2
  have HSK:=hid (⟨cell_grown hbu3 HG2.out HC3.out hne1,cell_grown hbu3 HG2.out HX3.out hne2⟩:wp.cell? ⟨g,0,none⟩=some (.slice (some ⟨q,0,none⟩) fl dc)∧wp.cell? ⟨q,i*5+3,none⟩=some (.slice la ll lc));have hs2:=HSK.out;clear hbu3 hne1 hne2;clear hrun ho2 hg2 hlies2 hpsz;refine hK.out _ _ hs2 (fun hHeld=>?_);clear hK K;try simp only[Act.put,zsA,zsS,zsZ]
  refine zrM 19 (h:=fun K hK=>?_);rw[if_pos (by rfl)];have q1:=HSK.out.1;go_simp
  clear q1;have hs3:=HSK.out;refine hK.out _ _ hs3 (fun hHeld=>?_);clear hK K;try simp only[Act.put,zsA,zsS,zsZ]
  refine zkM 20 (v:=?_) (h2:=?_) (h:=?_);rotate_left;focus (rintro W ⟨q1,q2⟩;go_simp;(try with_reducible rfl))
  try simp only[Act.put,zsA,zsS,zsZ]
  refine zrL 21 (h:=fun K hK=>?_);rw[if_pos (by rfl)];have hmemo:(Value.slice la ll lc).ownBlock=F2[i].vl.ownBlock:=by rw[HVL.out]
  have ho3:=HO2.out;have hpc:partCells F2[i].f.l ss++pv.toList=partCells (F2[i].f.l++ [.whole false bs]) (ss++ [.slice ba bs.length bc]):=by rw[partCells_snoc _ _ _ _ HSSL.out,HPV.out];rfl
  rw[hpc,HLL.out] at ho3;have hbu3:Below w3.heap.size w3 (ub.alloc (.cells pv 108)):=HBu.out.trans (HUal.out.mono HBu.out.size);have hvS: ∀k,(Value.slice la ll lc).ownBlock=some k→k<w3.heap.size:=fun k e=>(World.ownsRow.lt HPROW.out k e).2;have HEND:=hid (HAN.out.part hi2 (by rw[←HF2L.out];exact HC3.out) hbu3 (v':=v2) (s:= .slice ba bs.length bc) (p:= .whole false bs) ⟨HSSL.out,HPB.out⟩ ho3 (by rw[←hmemo];exact HG2.out) (by
   rw[←hmemo];rcases HLIES.out with e | e
   ·exact .inl e
   ·refine .inr ⟨by rw[e];simp,?_⟩
    have:=(World.ownsRow.lt HO2.out _ e).2;simp;exact this) (by
   refine ownsRow_less (ownsRow_keep HR1.out fun k e=>?_) HBu.out.size;have h1:=World.ownsRow.lt HR1.out k e;have h2:=HBu.out.size;refine(HG2.out.block k (by simp;omega) fun e2=>?_).trans (Below.heap_alloc _ _ _ h1.2);have:=hvS k e2.symm;omega))
  have hgf:wp.frozen? ⟨q,i*5+3,none⟩=false:=by
   have hqb:=HG2.out.block q (Nat.lt_of_lt_of_le HGQ.out hbu3.size) (fun e=>by
    rw[hmemo] at e;exact HNE.out.2 e.symm)
   have h1:=hqb.trans (hbu3.block q HGQ.out);rw[World.frozen?_of_block (w:=w3) (a:=⟨q,i*5+3,none⟩) h1];exact HF3.out
  obtain⟨a2,c2,hv2,_⟩:=slice_shape ho3;subst hv2;obtain⟨nn,hnn⟩: ∃x,F2[i].f.l.length+1=x:=⟨_,rfl⟩;rw[hnn] at HEND ⊢;go_simp
  clear hgf hnn ho3 hpc hbu3 hvS hmemo;refine hK.out _ _ ?_;clear hK K;try simp only[Act.put,zsA,zsS,zsZ]
  go_wp2_with fail
  go_ret
  exact⟨rfl,(HEA.out.trans (Ex.of_more HEND.out.1)).ap,_,F1,i,HAT.out,HD.out.ex HEND.out.2 (HEA.out.trans (Ex.of_more HEND.out.1)),HPUT.out _ _⟩
 ·have hr':(rdRead F nm).1=false:=by simpa using hr
  have hroom:(rdNames F).length<64:=HROOM.out.resolve_left hr;rw[hr'] at HR;clear hr hr' HROOM;go_enter Tryz.func18,Tryz.ntmps18
  go_wp2_with fail
  refine HR.out.mono ?_;rintro e w1 ⟨v,rfl,HROW1,hb⟩;have HNM:=hid (rdnames_any (HD.out.below hb) HSM0.out);have HB0:=hid hb;clear hb HR HROW1;go_wp2_with fail
  refine HNM.out.mono ?_;rintro e w1b ⟨vn,rfl,hnames,hb⟩;obtain⟨na,nc,hvn,_⟩:=slice_shape hnames;subst hvn;obtain⟨nl,hnl⟩: ∃x,x=(rdNames F).length:=⟨_,rfl⟩;rw[←hnl];have d64:decide ((64:Int)≤(nl:Int))=false:=decide_eq_false (by omega);have HB:=hid (HB0.out.trans (hb.mono HB0.out.size));clear hb HNM hnames hnl hroom;go_wp2_with fail
  refine(at_any (HD.out.below HB.out) HFL9.out nm).mono ?_;rintro e w2 ⟨F1,i,rfl,hap,hda,hat⟩;have HAT:=hid hat;have HDA:=hid hda;have HE:=hid ((Ex.of_below HB.out).trans (Ex.of_more hap));have HF1:=hid (hat.len HFL9.out);have HSMF:=hid (hat.small HSM.out);clear hap hda hat;obtain⟨hi1,hn1⟩:=HAT.out.at_;obtain⟨da,dc,hdc,hcells⟩:=HDA.out.cell;obtain⟨-,-,-,-,e4⟩:=fileCells_at F1 i hi1;obtain⟨q,eq,hq,x4,f4⟩:=hcells _ _ e4;subst eq;obtain⟨oa,hoa⟩: ∃b,b=F1[i].f.any:=⟨_,rfl⟩;rw[←hoa] at x4;clear hoa;obtain⟨hany,hdc3,hSq⟩:=HDA.out.anyx hi1 hdc;have HEA:=hid (HE.out.trans (Ex.store (j:=i*5+4) (v:= .bool true) hSq));obtain⟨fl,hfl⟩: ∃x,x=F1.length:=⟨_,rfl⟩;rw[←hfl] at hdc hdc3;have hfl9:fl≤1000000000:=by rw[hfl];exact HF1.out
  have hif:(i:Int)<(fl:Int):=by omega
  have hif2:i<fl:=by omega
  have hif3:decide ((i:Int)<(fl:Int))=true:=decide_eq_true hif;have hib:(i:Int)≤1000000000:=by omega
  have hi0:(0:Int)≤i:=by omega
  have hi0d:decide ((i:Int)<0)=false:=by simp
  obtain⟨w3,hw3⟩: ∃W,W=w2.setCell ⟨q,i*5+4,none⟩ (.bool true):=⟨_,rfl⟩;rw[←hw3] at hany hdc3 HEA;obtain⟨F2,hF2⟩: ∃x,x=anyF F1 i:=⟨_,rfl⟩;rw[←hF2] at hany;have hi2:i<F2.length:=by rw[hF2,anyF_len];exact hi1
  have HPUT:=hid (fun(p:RPart) (v:Value)=>anyF_put hi1 p v (c:=F2[i]) (by simp only[hF2]));rw[←hF2] at HPUT;obtain⟨la,ll,lc,ss,hvl,hll,hssl,hprow,hpb,x3,f3⟩:=hany.open3 hdc3 hi2;have HAN:=hid hany;have HW3:=hid hw3;have HFL:=hid hfl;have HC3:=hid hdc3;have HX3:=hid x3;have HF3:=hid f3;have HVL:=hid hvl;have HLL:=hid hll;have HSSL:=hid hssl;have HPROW:=hid hprow;have HPB:=hid hpb;have HLM:=hid (show ll≤1000000000 by rw[hll];exact Nat.le_trans (HSMF.out F2 hF2 hi2) (by decide));have HNE:=hid (hany.vl_ne hdc3 hi2);have HGQ:=hid (show q<w3.heap.size by rw[hw3];simpa [World.setCell] using hq);have HF2L:=hid (show fl=F2.length by rw[hF2,anyF_len,hfl]);clear hany hSq hw3 hdc3 hcells e4 hfl hi1 hn1 hq hF2 hvl hll hssl hprow hpb x3 f3 hfl9;go_wp2_with fail
  rw[←HW3.out];clear hdc x4 f4;obtain⟨u,hu⟩: ∃u,u=w3.drew:=⟨_,rfl⟩;have HBu:=hid (show Below w3.heap.size w3 u by rw[hu];exact(Below.refl _ _).drew);refine wp_region_heldM_drew 21 (S:=fun W=>W.cell? ⟨g,0,none⟩=some (.slice (some ⟨q,0,none⟩) fl dc)∧W.cell? ⟨q,i*5+3,none⟩=some (.slice la ll lc)) (by kernel_rfl) (by rw[←hu];exact⟨stays' HBu.out HC3.out,stays' HBu.out HX3.out⟩) (fun hHeld=>?_);rw[←hu] at hHeld ⊢;clear hu;have HUu:=hid (Below.refl u.heap.size u);have HCK:=hid (fun W (hW:Below u.heap.size u W)=>(⟨stays' hW (stays' HBu.out HC3.out),stays' hW (stays' HBu.out HX3.out)⟩:W.cell? ⟨g,0,none⟩=some (.slice (some ⟨q,0,none⟩) fl dc)∧W.cell? ⟨q,i*5+3,none⟩=some (.slice la ll lc)));have HPRu:=hid (fun W (hW:Below u.heap.size u W)=>(ownsRow_keep HPROW.out fun k e=>(hW.block k (Nat.lt_of_lt_of_le (World.ownsRow.lt HPROW.out k e).2 HBu.out.size)).trans (HBu.out.block k (World.ownsRow.lt HPROW.out k e).2):W.ownsRow B 108 3 (.slice la ll lc) ll (partCells F2[i].f.l ss)));refine zkM 0 (v:=?_) (h2:=?_) (h:=?_);rotate_left;focus (rintro W ⟨q1,q2⟩;go_simp;(try with_reducible rfl))
  try simp only[Act.put,zsA,zsS,zsZ]
  refine zkM 1 (v:=?_) (h2:=?_) (h:=?_);rotate_left;focus (rintro W ⟨q1,q2⟩;go_simp;(try with_reducible rfl))
  try simp only[Act.put,zsA,zsS,zsZ]
  refine zkM 2 (v:=?_) (h2:=?_) (h:=?_);rotate_left;focus (rintro W ⟨q1,q2⟩;go_simp;(try with_reducible rfl))
  try simp only[Act.put,zsA,zsS,zsZ]
  refine zkM 3 (v:=?_) (h2:=?_) (h:=?_);rotate_left;focus (rintro W ⟨q1,q2⟩;go_simp;(try with_reducible rfl))
  try simp only[Act.put,zsA,zsS,zsZ]
  refine zkM 4 (v:=?_) (h2:=?_) (h:=?_);rotate_left;focus (rintro W ⟨q1,q2⟩;go_simp;(try with_reducible rfl))
  try simp only[Act.put,zsA,zsS,zsZ]
  refine zkM 5 (v:=?_) (h2:=?_) (h:=?_);rotate_left;focus (rintro W ⟨q1,q2⟩;go_simp;(try with_reducible rfl))
  try simp only[Act.put,zsA,zsS,zsZ]
  refine zkM 6 (v:=?_) (h2:=?_) (h:=?_);rotate_left;focus (rintro W ⟨q1,q2⟩;go_simp;(try with_reducible rfl))
  try simp only[Act.put,zsA,zsS,zsZ]
  refine zkM 7 (v:=?_) (h2:=?_) (h:=?_);rotate_left;focus (rintro W ⟨q1,q2⟩;go_simp;(try with_reducible rfl))
  try simp only[Act.put,zsA,zsS,zsZ]
  refine zkM 8 (v:=?_) (h2:=?_) (h:=?_);rotate_left;focus (rintro W ⟨q1,q2⟩;go_simp;(try with_reducible rfl))
  try simp only[Act.put,zsA,zsS,zsZ]
  refine zkM 9 (v:=?_) (h2:=?_) (h:=?_);rotate_left;focus (rintro W ⟨q1,q2⟩;go_simp;(try with_reducible rfl))
  try simp only[Act.put,zsA,zsS,zsZ]
  refine zkM 10 (v:=?_) (h2:=?_) (h:=?_);rotate_left;focus (rintro W ⟨q1,q2⟩;go_simp;(try with_reducible rfl))
  try simp only[Act.put,zsA,zsS,zsZ]
  refine zkM 11 (v:=?_) (h2:=?_) (h:=?_);rotate_left;focus (rintro W ⟨q1,q2⟩;go_simp;(try with_reducible rfl))
  try simp only[Act.put,zsA,zsS,zsZ]
  refine zkM 12 (v:=?_) (h2:=?_) (h:=?_);rotate_left;focus (rintro W ⟨q1,q2⟩;go_simp;(try with_reducible rfl))
  try simp only[Act.put,zsA,zsS,zsZ]
  refine zkM 14 (v:=?_) (h2:=?_) (h:=?_);rotate_left;focus (rintro W ⟨q1,q2⟩;go_simp;(try with_reducible rfl))
  try simp only[Act.put,zsA,zsS,zsZ]
  refine zrM 13 (h:=fun K hK=>?_);rw[if_pos (by rfl)];go_simp
  obtain⟨g0,hg0⟩: ∃x,x=u.heap.size:=⟨_,rfl⟩;obtain⟨ua,he⟩: ∃x,x=u.alloc (.cells #[] 5):=⟨_,rfl⟩;have hr0:Row ua u.heap.size [] (.slice (some ⟨g0,0,none⟩) 0 0):=by rw[he,hg0];exact World.ownsRow_lit u #[] 0 (Nat.le_refl _) (Nat.zero_le _) rfl
  have hb1:Below u.heap.size u ua:=by rw[he];exact(Below.refl _ _).alloc (Nat.le_refl _) _
  rw[←hg0,←he];have HR0:=hid hr0;have HUua:=hid hb1;have hs:=HCK.out _ hb1;clear hr0 hb1 hg0 he;refine hK.out _ _ hs (fun hHeld=>?_);clear hK K;try simp only[Act.put,zsA,zsS,zsZ]
  refine zrM 15 (h:=fun K hK=>?_);rw[if_pos (by rfl)];obtain⟨v1,ub,hrun,hr1,hg1,-⟩:=run_bytesR ua HR0.out ((((HRD.out.ex HEA.out).1.below HBu.out).below HUua.out)) HNC.out (by have:=HBL.out;simp;omega) HUua.out.size;refine wp_append_runR rfl rfl rfl hrun ?_;have hb1:=HUua.out.grown hg1 HUua.out.size fun k e=>(World.ownsRow.lt HR0.out k e).1;have HUub:=hid hb1;rw[List.nil_append] at hr1;obtain⟨ba,bc,hv1,_⟩:=slice_shape hr1;subst hv1;have HR1:=hid hr1;have hs1:=HCK.out _ hb1;clear hrun hr1 hg1 hb1;refine hK.out _ _ hs1 (fun hHeld=>?_);clear hK K;try simp only[Act.put,zsA,zsS,zsZ]
  refine zkM 16 (v:=?_) (h2:=?_) (h:=?_);rotate_left;focus (rintro W ⟨q1,q2⟩;go_simp;(try with_reducible rfl))
  try simp only[Act.put,zsA,zsS,zsZ]
  refine zrM 17 (h:=fun K hK=>?_);rw[if_pos (by rfl)];go_simp
  obtain⟨pv,hpv⟩: ∃x:Array Value,x= #[.bool true,.bool false,.slice ba bs.length bc]:=⟨_,rfl⟩;rw[←hpv];have hal:Below ub.heap.size ub (ub.alloc (.cells pv 108)):=(Below.refl _ _).alloc (Nat.le_refl _) _;have HUal:=hid (HUub.out.trans (hal.mono HUub.out.size));have hs:=HCK.out _ HUal.out;have HPV:=hid hpv;clear hpv hal;refine hK.out _ _ hs (fun hHeld=>?_);clear hK K;try simp only[Act.put,zsA,zsS,zsZ]
  refine zrM 18 (h:=fun K hK=>?_);rw[if_pos (by rfl)];have hpsz:pv.size=3:=by rw[HPV.out];rfl
  obtain⟨v2,wp,hrun,ho2,hg2,hlies2⟩:=run_one ub (t:=104) Tryz.underlying104 info_part rfl (by decide) (HPRu.out _ HUub.out) pv hpsz (fun x hx=>by rw[HPV.out] at hx;simp at hx;rcases hx with rfl | rfl | rfl<;>rfl) HLM.out (by decide) (by have:=(HAN.out.hS g HAN.out.hg);have:=HBu.out.size;have:=HUub.out.size;omega);refine wp_append_runR rfl rfl rfl hrun ?_;have HG2:=hid hg2;have HO2:=hid ho2;have HLIES:=hid hlies2;have hbu3:=HBu.out.trans (HUal.out.mono HBu.out.size);have hne1:(Value.slice la ll lc).ownBlock≠some g:=by rw[←HVL.out];exact HNE.out.1
  have hne2:(Value.slice la ll lc).ownBlock≠some q:=by rw[←HVL.out];exact HNE.out.2
  have HSK:=hid (⟨cell_grown hbu3 HG2.out HC3.out hne1,cell_grown hbu3 HG2.out HX3.out hne2⟩:wp.cell? ⟨g,0,none⟩=some (.slice (some ⟨q,0,none⟩) fl dc)∧wp.cell? ⟨q,i*5+3,none⟩=some (.slice la ll lc));have hs2:=HSK.out;clear hbu3 hne1 hne2;clear hrun ho2 hg2 hlies2 hpsz;refine hK.out _ _ hs2 (fun hHeld=>?_);clear hK K;try simp only[Act.put,zsA,zsS,zsZ]
  refine zrM 19 (h:=fun K hK=>?_);rw[if_pos (by rfl)];have q1:=HSK.out.1;go_simp
  clear q1;have hs3:=HSK.out;refine hK.out _ _ hs3 (fun hHeld=>?_);clear hK K;try simp only[Act.put,zsA,zsS,zsZ]
  refine zkM 20 (v:=?_) (h2:=?_) (h:=?_);rotate_left;focus (rintro W ⟨q1,q2⟩;go_simp;(try with_reducible rfl))
  try simp only[Act.put,zsA,zsS,zsZ]
  refine zrL 21 (h:=fun K hK=>?_);rw[if_pos (by rfl)];have hmemo:(Value.slice la ll lc).ownBlock=F2[i].vl.ownBlock:=by rw[HVL.out]
  have ho3:=HO2.out;have hpc:partCells F2[i].f.l ss++pv.toList=partCells (F2[i].f.l++ [.whole false bs]) (ss++ [.slice ba bs.length bc]):=by rw[partCells_snoc _ _ _ _ HSSL.out,HPV.out];rfl
  rw[hpc,HLL.out] at ho3;have hbu3:Below w3.heap.size w3 (ub.alloc (.cells pv 108)):=HBu.out.trans (HUal.out.mono HBu.out.size);have hvS: ∀k,(Value.slice la ll lc).ownBlock=some k→k<w3.heap.size:=fun k e=>(World.ownsRow.lt HPROW.out k e).2;have HEND:=hid (HAN.out.part hi2 (by rw[←HF2L.out];exact HC3.out) hbu3 (v':=v2) (s:= .slice ba bs.length bc) (p:= .whole false bs) ⟨HSSL.out,HPB.out⟩ ho3 (by rw[←hmemo];exact HG2.out) (by
   rw[←hmemo];rcases HLIES.out with e | e
   ·exact .inl e
   ·refine .inr ⟨by rw[e];simp,?_⟩
    have:=(World.ownsRow.lt HO2.out _ e).2;simp;exact this) (by
   refine ownsRow_less (ownsRow_keep HR1.out fun k e=>?_) HBu.out.size;have h1:=World.ownsRow.lt HR1.out k e;have h2:=HBu.out.size;refine(HG2.out.block k (by simp;omega) fun e2=>?_).trans (Below.heap_alloc _ _ _ h1.2);have:=hvS k e2.symm;omega))
  have hgf:wp.frozen? ⟨q,i*5+3,none⟩=false:=by
   have hqb:=HG2.out.block q (Nat.lt_of_lt_of_le HGQ.out hbu3.size) (fun e=>by
    rw[hmemo] at e;exact HNE.out.2 e.symm)
   have h1:=hqb.trans (hbu3.block q HGQ.out);rw[World.frozen?_of_block (w:=w3) (a:=⟨q,i*5+3,none⟩) h1];exact HF3.out
  obtain⟨a2,c2,hv2,_⟩:=slice_shape ho3;subst hv2;obtain⟨nn,hnn⟩: ∃x,F2[i].f.l.length+1=x:=⟨_,rfl⟩;rw[hnn] at HEND ⊢;go_simp
  clear hgf hnn ho3 hpc hbu3 hvS hmemo;refine hK.out _ _ ?_;clear hK K;try simp only[Act.put,zsA,zsS,zsZ]
  go_wp2_with fail
  go_ret
  exact⟨rfl,(HEA.out.trans (Ex.of_more HEND.out.1)).ap,_,F1,i,HAT.out,HD.out.ex HEND.out.2 (HEA.out.trans (Ex.of_more HEND.out.1)),HPUT.out _ _⟩
set_option maxRecDepth 100000 in
set_option maxHeartbeats 4000000 in
theorem replace_full (h:RDisk w B S g F) (hs:Small F) (hF:F.length≤900000000) (nm:Name) (h0:nm.length≠0) (h1:nm.length≤64) (hsm: ∀c∈F,c.f.l.length≤900000000) (a:Option Addr) (c:Nat) (bs:List Int) (hrd:ReadsS w S a bs) (hnc:a=none→c=0) (hbl:bs.length≤1048576) (hroom:(rdRead F nm).1=false∧64≤(rdNames F).length):
  Calls Tryz.prog 18 #[.pointer (some ⟨g,0,none⟩),.string ⟨nm.toArray⟩,.slice a bs.length c] w fun e w'=>e= .returned (.int .i64 6)∧Below w.heap.size w w':=by
 have hsz:(⟨nm.toArray⟩:ByteArray).size=nm.length:=rfl;have HR:=hid (rdread_any h hs nm);have z1:((nm.length:Int) == 0)=false:=by simp;intro e;exact h0 (by rw[e];rfl)
 have z2:decide ((64:Int)<(nm.length:Int))=false:=by simp;omega
 have z3:decide ((1048576:Int)<(bs.length:Int))=false:=decide_eq_false (by omega);have HD:=hid h;have HSM0:=hid hs;have HFL9:=hid hF;have HSM:=hid hsm;have HRD:=hid hrd;have HNC:=hid hnc;have HBL:=hid hbl;have HROOM:=hid hroom;clear h hs hF hsm hrd hnc hbl hroom;rw[HROOM.out.1] at HR;go_enter Tryz.func18,Tryz.ntmps18
 go_wp2_with fail
 refine HR.out.mono ?_;rintro e w1 ⟨v,rfl,HROW1,hb⟩;have HNM:=hid (rdnames_any (HD.out.below hb) HSM0.out);have HB0:=hid hb;clear hb HR HROW1;go_wp2_with fail
 refine HNM.out.mono ?_;rintro e w1b ⟨vn,rfl,hnames,hb⟩;obtain⟨na,nc,hvn,_⟩:=slice_shape hnames;subst hvn;obtain⟨nl,hnl⟩: ∃x,x=(rdNames F).length:=⟨_,rfl⟩;rw[←hnl];have d64:decide ((64:Int)≤(nl:Int))=true:=decide_eq_true (by have:=HROOM.out.2;omega);have HB:=hid (HB0.out.trans (hb.mono HB0.out.size));clear hb HNM hnames hnl;go_wp2_with fail
 go_ret
 exact⟨rfl,HB.out⟩
end
end Rd
end Go.Proofs.YtalfbcbnljhldaaGreatDoor

set_option linter.unusedSimpArgs false
namespace Go.Proofs.YtalfbcbnljhldaaGreatDoor
open Go.Lib (hid)
open Go.RowKit Go.Maps Dsk Rd
namespace Rd
def putB (F:List FC) (i:Nat) (bs:List Int):RL:=match F[i]? with
 | none=>absF F
 | some c=>(absF F).set i (c.n,⟨c.f.is,c.f.bs,c.f.l++bs.map RPart.byte,true⟩)
theorem putB_at {F:List FC} {i:Nat} (hi:i<F.length) (bs:List Int):putB F i bs=(absF F).set i (F[i].n,⟨F[i].f.is,F[i].f.bs,F[i].f.l++bs.map RPart.byte,true⟩):=by
 unfold putB;rw[List.getElem?_eq_getElem hi]
theorem anyF_putB {F:List FC} {i:Nat} (hi:i<F.length):absF (anyF F i)=putB F i []:=by
 rw[putB_at hi,anyF_at hi];unfold absF;rw[List.map_set];simp
theorem putB_len (F:List FC) (i:Nat) (bs:List Int):(putB F i bs).length=F.length:=by
 unfold putB;split
 ·simp [absF]
 ·simp [absF]
theorem putB_more {F F2:List FC} {i:Nat} (hi:i<F.length) {bs:List Int} (h:absF F2=putB F i bs) (hi2:i<F2.length) (x:Int) (v:Value):absF (F2.set i ⟨F2[i].n,{F2[i].f with l:=F2[i].f.l++ [.byte x]},F2[i].vb,v⟩)=putB F i (bs++ [x]):=by
 have e:(absF F2)[i]'(by simpa [absF] using hi2)=(F[i].n,⟨F[i].f.is,F[i].f.bs,F[i].f.l++bs.map RPart.byte,true⟩):=by
  rw[List.getElem_of_eq h,List.getElem_of_eq (putB_at hi bs)];simp
 have e1:F2[i].n=F[i].n:=by have:=congrArg Prod.fst e;simpa [absF] using this
 have e2:F2[i].f=⟨F[i].f.is,F[i].f.bs,F[i].f.l++bs.map RPart.byte,true⟩:=by have:=congrArg Prod.snd e;simpa [absF] using this
 rw[putB_at hi];have h3:absF (F2.set i ⟨F2[i].n,{F2[i].f with l:=F2[i].f.l++ [.byte x]},F2[i].vb,v⟩)=(absF F2).set i (F2[i].n,{F2[i].f with l:=F2[i].f.l++ [.byte x]}):=by
  unfold absF;rw[List.map_set]
 rw[h3,h,putB_at hi,List.set_set,e1,e2];simp
theorem putB_lens {F F2:List FC} {i:Nat} (hi:i<F.length) {bs:List Int} (h:absF F2=putB F i bs) (hi2:i<F2.length):F2[i].f.l.length=F[i].f.l.length+bs.length:=by
 have e:(absF F2)[i]'(by simpa [absF] using hi2)=(F[i].n,⟨F[i].f.is,F[i].f.bs,F[i].f.l++bs.map RPart.byte,true⟩):=by
  rw[List.getElem_of_eq h,List.getElem_of_eq (putB_at hi bs)];simp
 have e2:F2[i].f=⟨F[i].f.is,F[i].f.bs,F[i].f.l++bs.map RPart.byte,true⟩:=by have:=congrArg Prod.snd e;simpa [absF] using this
 rw[e2];simp
section
variable {w:World} {B g:Nat} {S:Nat→Prop} {F:List FC}
set_option maxRecDepth 100000 in
set_option maxHeartbeats 8000000 in
theorem append_there (h:RDisk w B S g F) (hs:Small F) (hF:F.length≤900000000) (nm:Name) (h0:nm.length≠0) (h1:nm.length≤64) (hsm: ∀c∈F,c.f.l.length≤900000000) (a:Option Addr) (c:Nat) (bs:List Int) (hrd:ReadsS w S a bs) (hnc:a=none→c=0) (hr:(rdRead F nm).1=true) (hfit:(rdRead F nm).2.length+bs.length≤1048576):
  Calls Tryz.prog 41 #[.pointer (some ⟨g,0,none⟩),.string ⟨nm.toArray⟩,.slice a bs.length c] w fun e w'=>e= .returned (.int .i64 0)∧Apart S w w'∧ ∃F' F1 i,AtIs F nm F1 i∧RDisk w' B (More S w w') g F'∧absF F'=putB F1 i bs:=by
 have hbl:bs.length≤1048576:=by omega
 have hroom:(rdRead F nm).1=true∨True:= .inl hr;have hsz:(⟨nm.toArray⟩:ByteArray).size=nm.length:=rfl;have HR:=hid (rdread_any h hs nm);have z1:((nm.length:Int) == 0)=false:=by simp;intro e;exact h0 (by rw[e];rfl)
 have z2:decide ((64:Int)<(nm.length:Int))=false:=by simp;omega
 have HD:=hid h;have HSM0:=hid hs;have HFL9:=hid hF;have HSM:=hid hsm;have HRD:=hid hrd;have HNC:=hid hnc;have HBL:=hid hbl;have HROOM:=hid hroom;clear h hs hF hsm hrd hnc hbl hroom;rw[hr] at HR;obtain⟨ol,hol⟩: ∃x,x=(rdRead F nm).2.length:=⟨_,rfl⟩;obtain⟨bl,hbl⟩: ∃x,x=bs.length:=⟨_,rfl⟩;rw[←hbl];have z3:decide ((1048576:Int)<(ol:Int)+(bl:Int))=false:=decide_eq_false (by omega);have z4:(ol:Int)≤1048576:=by omega
 have z5:(bl:Int)≤1048576:=by omega
 have HBLE:=hid hbl;have HOL:=hid hol;clear hr hfit HROOM hol hbl;go_enter Tryz.func41,Tryz.ntmps41
 go_wp2_with fail
 refine HR.out.mono ?_;rintro e w1 ⟨v,rfl,HROW1,hb⟩;obtain⟨oa,oc,hov,_⟩:=slice_shape HROW1;rw[←HOL.out] at hov;subst hov;have HB:=hid hb;clear hb HR HROW1;go_wp2_with fail
 refine(at_any (HD.out.below HB.out) HFL9.out nm).mono ?_;rintro e w2 ⟨F1,i,rfl,hap,hda,hat⟩;have HAT:=hid hat;have HDA:=hid hda;have HE:=hid ((Ex.of_below HB.out).trans (Ex.of_more hap));have HF1:=hid (hat.len HFL9.out);have HSMF:=hid (hat.small HSM.out);clear hap hda hat;obtain⟨hi1,hn1⟩:=HAT.out.at_;obtain⟨da,dc,hdc,hcells⟩:=HDA.out.cell;obtain⟨-,-,-,-,e4⟩:=fileCells_at F1 i hi1;obtain⟨q,eq,hq,x4,f4⟩:=hcells _ _ e4;subst eq;obtain⟨oany,hoa⟩: ∃b,b=F1[i].f.any:=⟨_,rfl⟩;rw[←hoa] at x4;clear hoa;obtain⟨hany,hdc3,hSq⟩:=HDA.out.anyx hi1 hdc;have HEA0:=hid (HE.out.trans (Ex.store (j:=i*5+4) (v:= .bool true) hSq));obtain⟨fl,hfl⟩: ∃x,x=F1.length:=⟨_,rfl⟩;rw[←hfl] at hdc hdc3;have hfl9:fl≤1000000000:=by rw[hfl];exact HF1.out
 have hif:(i:Int)<(fl:Int):=by omega
 have hif2:i<fl:=by omega
 have hif3:decide ((i:Int)<(fl:Int))=true:=decide_eq_true hif;have hib:(i:Int)≤1000000000:=by omega
 have hi0:(0:Int)≤i:=by omega
 have hi0d:decide ((i:Int)<0)=false:=by simp
 obtain⟨w3,hw3⟩: ∃W,W=w2.setCell ⟨q,i*5+4,none⟩ (.bool true):=⟨_,rfl⟩;rw[←hw3] at hany hdc3 HEA0;have hgq:g≠q:=fun e=>by
  subst e;obtain⟨⟨cs,h1⟩,-⟩:=HDA.out.q_type (by rw[←hfl];exact hdc);obtain⟨v9,h2,_⟩:=HDA.out.disk;rw[h1] at h2;cases h2
 have HGQ2:=hid hgq;have HAN0:=hid hany;have HC30:=hid hdc3;have HW3:=hid hw3;have HFL:=hid hfl;have HI1:=hid hi1;have HABS0:=hid (anyF_putB hi1);have HL0:=hid (show F1[i].f.l.length≤900000000 by
  have:=HSMF.out _ rfl (show i<(anyF F1 i).length by rw[anyF_len];exact hi1);rw[anyF_get hi1] at this;exact this)
 clear hany hSq hw3 hdc3 hcells e4 hfl hi1 hn1 hq hfl9 hgq;go_wp2_with fail
 rw[←HW3.out];clear hdc x4 f4;go_loopw [10] (fun v10 wr=> ∃(k:Nat) (F2:List FC) (S2:Nat→Prop),v10= .int .i64 (k:Int)∧k≤bl∧Hid (RDisk wr B S2 g F2)∧Hid (Ex S w wr S2)∧Hid (absF F2=putB F1 i (bs.take k))∧Hid (wr.cell? ⟨g,0,none⟩=some (.slice (some ⟨q,0,none⟩) fl dc))) (fun v10 _=>bl - (intOf v10).toNat)
 case atStart=>exact⟨0,_,_,rfl,Nat.zero_le _,HAN0,HEA0,HABS0,HC30⟩
 case round=>
  obtain⟨k,F2,S2,rfl,hk,HAN1,HEA,HABS,HC31⟩:=hrel;have hany:=HAN1.out;have hdc3:=HC31.out;have hi2:i<F2.length:=by
   have:=congrArg List.length HABS.out;rw[putB_len] at this;simp only[absF,List.length_map] at this;rw[this];exact HI1.out
  by_cases hlt:k<bl
  ·have hkb:k<bs.length:=by rw[←HBLE.out];exact hlt
   have hrd:=HRD.out.ex HEA.out;obtain⟨ax,hax,-,hby⟩:=hrd.1.cell k hkb;have HNB:=hid (hrd.2 ax hax (fun e=>by rw[e] at hkb;simp at hkb));obtain⟨bk,hbk⟩: ∃x,x=bs.getD k 0:=⟨_,rfl⟩;rw[←hbk] at hby;have HTK:=hid (show bs.take (k+1)=bs.take k++ [bk] by rw[List.take_succ_eq_append_getElem hkb,hbk];simp [List.getD,List.getElem?_eq_getElem hkb]);have HBY:=hid hby;have dk:decide ((k:Int)<(bl:Int))=true:=decide_eq_true (by omega);have dk2:decide (k<bl)=true:=decide_eq_true hlt;have dk3:decide ((k:Int)<0)=false:=by simp
   have hk0:(0:Int)≤k:=by omega
   have hk1:(k:Int)≤1048576:=by omega
   have hk2:(k:Int)<(bl:Int):=by omega
   have hlen2:=putB_lens HI1.out HABS.out hi2;have hlm:F2[i].f.l.length≤1000000000:=by
    rw[hlen2,List.length_take];have:=HL0.out;have:=HBL.out;omega
   obtain⟨la,ll,lc,ss,hvl,hll,hssl,hprow,hpb,x3,f3⟩:=hany.open3 hdc3 hi2;have HAN:=hid hany;have HC3:=hid hdc3;have HX3:=hid x3;have HF3:=hid f3;have HVL:=hid hvl;have HLL:=hid hll;have HSSL:=hid hssl;have HPROW:=hid hprow;have HPB:=hid hpb;have HNE:=hid (hany.vl_ne hdc3 hi2);have HLM:=hid (show ll≤1000000000 by rw[hll];exact hlm);have HGQ:=hid (show q<wr.heap.size from by
    obtain⟨⟨cs,hqt⟩,-⟩:=hany.q_type (cp:=dc) (by
     obtain⟨da',dc',h9,-⟩:=hany.cell;rw[hdc3] at h9;obtain⟨e1,e2,e3⟩:some (⟨q,0,none⟩:Addr)=da'∧fl=F2.length∧dc=dc':=by simpa using h9
     rw[←e2];exact hdc3)
    exact(Array.getElem?_eq_some_iff.1 hqt).1)
   have HF2L:=hid (show fl=F2.length by
    obtain⟨da',dc',h9,-⟩:=hany.cell;rw[hdc3] at h9;obtain⟨e1,e2,e3⟩:some (⟨q,0,none⟩:Addr)=da'∧fl=F2.length∧dc=dc':=by simpa using h9
    exact e2)
   clear hany hdc3 hvl hll hssl hprow hpb x3 f3 hlen2 hlm hrd hby hbk hkb HAN1 HC31;cases hax;go_wp2_with fail
   obtain⟨u,hu⟩: ∃u,u=wr.drew:=⟨_,rfl⟩;have HBu:=hid (show Below wr.heap.size wr u by rw[hu];exact(Below.refl _ _).drew);refine wp_region_heldM_drew 23 (S:=fun W=>W.cell? ⟨g,0,none⟩=some (.slice (some ⟨q,0,none⟩) fl dc)∧W.cell? ⟨q,i*5+3,none⟩=some (.slice la ll lc)∧W.cell? (ax.add k)=some (.int .u8 bk)) (by kernel_rfl) (by rw[←hu];exact⟨stays' HBu.out HC3.out,stays' HBu.out HX3.out,stays' HBu.out HBY.out⟩) (fun hHeld=>?_);rw[←hu] at hHeld ⊢;clear hu;have HUu:=hid (Below.refl u.heap.size u);have HCK:=hid (fun W (hW:Below u.heap.size u W)=>(⟨stays' hW (stays' HBu.out HC3.out),stays' hW (stays' HBu.out HX3.out),stays' hW (stays' HBu.out HBY.out)⟩:W.cell? ⟨g,0,none⟩=some (.slice (some ⟨q,0,none⟩) fl dc)∧W.cell? ⟨q,i*5+3,none⟩=some (.slice la ll lc)∧W.cell? (ax.add k)=some (.int .u8 bk)));have HPRu:=hid (fun W (hW:Below u.heap.size u W)=>(ownsRow_keep HPROW.out fun k e=>(hW.block k (Nat.lt_of_lt_of_le (World.ownsRow.lt HPROW.out k e).2 HBu.out.size)).trans (HBu.out.block k (World.ownsRow.lt HPROW.out k e).2):W.ownsRow B 108 3 (.slice la ll lc) ll (partCells F2[i].f.l ss)));refine zkM 0 (v:=?_) (h2:=?_) (h:=?_);rotate_left;focus (rintro W ⟨q1,q2,q3⟩;go_simp;(try with_reducible rfl))
   try simp only[Act.put,zsA,zsS,zsZ]
   refine zkM 1 (v:=?_) (h2:=?_) (h:=?_);rotate_left;focus (rintro W ⟨q1,q2,q3⟩;go_simp;(try with_reducible rfl))
   try simp only[Act.put,zsA,zsS,zsZ]
   refine zkM 2 (v:=?_) (h2:=?_) (h:=?_);rotate_left;focus (rintro W ⟨q1,q2,q3⟩;go_simp;(try with_reducible rfl))
   try simp only[Act.put,zsA,zsS,zsZ]
   refine zkM 3 (v:=?_) (h2:=?_) (h:=?_);rotate_left;focus (rintro W ⟨q1,q2,q3⟩;go_simp;(try with_reducible rfl))
   try simp only[Act.put,zsA,zsS,zsZ]
   refine zkM 4 (v:=?_) (h2:=?_) (h:=?_);rotate_left;focus (rintro W ⟨q1,q2,q3⟩;go_simp;(try with_reducible rfl))
   try simp only[Act.put,zsA,zsS,zsZ]
   refine zkM 5 (v:=?_) (h2:=?_) (h:=?_);rotate_left;focus (rintro W ⟨q1,q2,q3⟩;go_simp;(try with_reducible rfl))
   try simp only[Act.put,zsA,zsS,zsZ]
   refine zkM 6 (v:=?_) (h2:=?_) (h:=?_);rotate_left;focus (rintro W ⟨q1,q2,q3⟩;go_simp;(try with_reducible rfl))
   try simp only[Act.put,zsA,zsS,zsZ]
   refine zkM 7 (v:=?_) (h2:=?_) (h:=?_);rotate_left;focus (rintro W ⟨q1,q2,q3⟩;go_simp;(try with_reducible rfl))
   try simp only[Act.put,zsA,zsS,zsZ]
   refine zkM 8 (v:=?_) (h2:=?_) (h:=?_);rotate_left;focus (rintro W ⟨q1,q2,q3⟩;go_simp;(try with_reducible rfl))
   try simp only[Act.put,zsA,zsS,zsZ]
   refine zkM 9 (v:=?_) (h2:=?_) (h:=?_);rotate_left;focus (rintro W ⟨q1,q2,q3⟩;go_simp;(try with_reducible rfl))
   try simp only[Act.put,zsA,zsS,zsZ]
   refine zkM 10 (v:=?_) (h2:=?_) (h:=?_);rotate_left;focus (rintro W ⟨q1,q2,q3⟩;go_simp;(try with_reducible rfl))
   try simp only[Act.put,zsA,zsS,zsZ]
   refine zkM 11 (v:=?_) (h2:=?_) (h:=?_);rotate_left;focus (rintro W ⟨q1,q2,q3⟩;go_simp;(try with_reducible rfl))
   try simp only[Act.put,zsA,zsS,zsZ]
   refine zkM 12 (v:=?_) (h2:=?_) (h:=?_);rotate_left;focus (rintro W ⟨q1,q2,q3⟩;go_simp;(try with_reducible rfl))
   try simp only[Act.put,zsA,zsS,zsZ]
   refine zkM 13 (v:=?_) (h2:=?_) (h:=?_);rotate_left;focus (rintro W ⟨q1,q2,q3⟩;go_simp;(try with_reducible rfl))
   try simp only[Act.put,zsA,zsS,zsZ]
   refine zkM 14 (v:=?_) (h2:=?_) (h:=?_);rotate_left;focus (rintro W ⟨q1,q2,q3⟩;go_simp;(try with_reducible rfl))
   try simp only[Act.put,zsA,zsS,zsZ]
   refine zkM 15 (v:=?_) (h2:=?_) (h:=?_);rotate_left;focus (rintro W ⟨q1,q2,q3⟩;go_simp;(try with_reducible rfl))
   try simp only[Act.put,zsA,zsS,zsZ]
   refine zkM 16 (v:=?_) (h2:=?_) (h:=?_);rotate_left;focus (rintro W ⟨q1,q2,q3⟩;go_simp;(try with_reducible rfl))
   try simp only[Act.put,zsA,zsS,zsZ]
   refine zrM 17 (h:=fun K hK=>?_);rw[if_pos (by rfl)];go_simp
   obtain⟨g0,hg0⟩: ∃x,x=u.heap.size:=⟨_,rfl⟩;obtain⟨ua,he⟩: ∃x,x=u.alloc (.cells #[.int .u8 bk] 5):=⟨_,rfl⟩;have hr0:Row ua u.heap.size [bk] (.slice (some ⟨g0,0,none⟩) 1 1):=by rw[he,hg0];exact World.ownsRow_lit u #[.int .u8 bk] 1 (Nat.le_refl _) (by unfold maxLen;omega) rfl
   have hb1:Below u.heap.size u ua:=by rw[he];exact(Below.refl _ _).alloc (Nat.le_refl _) _
   rw[←hg0,←he];have HR1:=hid hr0;have HUua:=hid hb1;have hs:=HCK.out _ hb1;clear hr0 hb1 hg0 he;refine hK.out _ _ hs (fun hHeld=>?_);clear hK K;try simp only[Act.put,zsA,zsS,zsZ]
   refine zkM 18 (v:=?_) (h2:=?_) (h:=?_);rotate_left;focus (rintro W ⟨q1,q2,q3⟩;go_simp;(try with_reducible rfl))
   try simp only[Act.put,zsA,zsS,zsZ]
   refine zrM 19 (h:=fun K hK=>?_);rw[if_pos (by rfl)];go_simp
   obtain⟨pv,hpv⟩: ∃x:Array Value,x= #[.bool false,.bool false,.slice (some ⟨g0,0,none⟩) 1 1]:=⟨_,rfl⟩;rw[←hpv];have hal:Below ua.heap.size ua (ua.alloc (.cells pv 108)):=(Below.refl _ _).alloc (Nat.le_refl _) _;have HUal:=hid (HUua.out.trans (hal.mono HUua.out.size));have hs:=HCK.out _ HUal.out;have HPV:=hid hpv;clear hpv hal;refine hK.out _ _ hs (fun hHeld=>?_);clear hK K;try simp only[Act.put,zsA,zsS,zsZ]
   refine zrM 20 (h:=fun K hK=>?_);rw[if_pos (by rfl)];have hpsz:pv.size=3:=by rw[HPV.out];rfl
   obtain⟨v2,wp,hrun,ho2,hg2,hlies2⟩:=run_one ua (t:=104) Tryz.underlying104 info_part rfl (by decide) (HPRu.out _ HUua.out) pv hpsz (fun x hx=>by rw[HPV.out] at hx;simp at hx;rcases hx with rfl | rfl | rfl<;>rfl) HLM.out (by decide) (by have:=(HAN.out.hS g HAN.out.hg);have:=HBu.out.size;have:=HUua.out.size;omega);refine wp_append_runR rfl rfl rfl hrun ?_;have HG2:=hid hg2;have HO2:=hid ho2;have HLIES:=hid hlies2;have hbu3:=HBu.out.trans (HUal.out.mono HBu.out.size);have hne1:(Value.slice la ll lc).ownBlock≠some g:=by rw[←HVL.out];exact HNE.out.1
   have hne2:(Value.slice la ll lc).ownBlock≠some q:=by rw[←HVL.out];exact HNE.out.2
   have hne3:(Value.slice la ll lc).ownBlock≠some (ax.add k).block:=fun e=>HNB.out ((HAN.out.files F2[i] (List.getElem_mem hi2)).own _ (by rw[HVL.out,e,add_block]));have HSK:=hid (⟨cell_grown hbu3 HG2.out HC3.out hne1,cell_grown hbu3 HG2.out HX3.out hne2,cell_grown hbu3 HG2.out HBY.out hne3⟩:wp.cell? ⟨g,0,none⟩=some (.slice (some ⟨q,0,none⟩) fl dc)∧wp.cell? ⟨q,i*5+3,none⟩=some (.slice la ll lc)∧wp.cell? (ax.add k)=some (.int .u8 bk));have hs2:=HSK.out;clear hbu3 hne1 hne2 hne3;clear hrun ho2 hg2 hlies2 hpsz;refine hK.out _ _ hs2 (fun hHeld=>?_);clear hK K;try simp only[Act.put,zsA,zsS,zsZ]
   refine zrM 21 (h:=fun K hK=>?_);rw[if_pos (by rfl)];have q1:=HSK.out.1;go_simp
   clear q1;have hs3:=HSK.out;refine hK.out _ _ hs3 (fun hHeld=>?_);clear hK K;try simp only[Act.put,zsA,zsS,zsZ]
   refine zkM 22 (v:=?_) (h2:=?_) (h:=?_);rotate_left;focus (rintro W ⟨q1,q2,q3⟩;go_simp;(try with_reducible rfl))
   try simp only[Act.put,zsA,zsS,zsZ]
   refine zrL 23 (h:=fun K hK=>?_);rw[if_pos (by rfl)];have hmemo:(Value.slice la ll lc).ownBlock=F2[i].vl.ownBlock:=by rw[HVL.out]
   have ho3:=HO2.out;have hpc:partCells F2[i].f.l ss++pv.toList=partCells (F2[i].f.l++ [.byte bk]) (ss++ [.slice (some ⟨g0,0,none⟩) 1 1]):=by rw[partCells_snoc _ _ _ _ HSSL.out,HPV.out];rfl
   rw[hpc,HLL.out] at ho3;have hbu3:Below wr.heap.size wr (ua.alloc (.cells pv 108)):=HBu.out.trans (HUal.out.mono HBu.out.size);have hvS: ∀k,(Value.slice la ll lc).ownBlock=some k→k<wr.heap.size:=fun k e=>(World.ownsRow.lt HPROW.out k e).2;have HEND:=hid (HAN.out.part hi2 (by rw[←HF2L.out];exact HC3.out) hbu3 (v':=v2) (s:= .slice (some ⟨g0,0,none⟩) 1 1) (p:= .byte bk) ⟨HSSL.out,HPB.out⟩ ho3 (by rw[←hmemo];exact HG2.out) (by
    rw[←hmemo];rcases HLIES.out with e | e
    ·exact .inl e
    ·refine .inr ⟨by rw[e];simp,?_⟩
     have:=(World.ownsRow.lt HO2.out _ e).2;simp;exact this) (by
    refine ownsRow_less (ownsRow_keep HR1.out fun k e=>?_) HBu.out.size;have h1:=World.ownsRow.lt HR1.out k e;have h2:=HBu.out.size;refine(HG2.out.block k (by simp;omega) fun e2=>?_).trans (Below.heap_alloc _ _ _ h1.2);have:=hvS k e2.symm;omega))
   have hgf:wp.frozen? ⟨q,i*5+3,none⟩=false:=by
    have hqb:=HG2.out.block q (Nat.lt_of_lt_of_le HGQ.out hbu3.size) (fun e=>by
     rw[hmemo] at e;exact HNE.out.2 e.symm)
    have h1:=hqb.trans (hbu3.block q HGQ.out);rw[World.frozen?_of_block (w:=wr) (a:=⟨q,i*5+3,none⟩) h1];exact HF3.out
   obtain⟨a2,c2,hv2,_⟩:=slice_shape ho3;subst hv2;obtain⟨nn,hnn⟩: ∃x,F2[i].f.l.length+1=x:=⟨_,rfl⟩;rw[hnn] at HEND ⊢;go_simp
   clear hgf hnn ho3 hpc hbu3 hvS hmemo;refine hK.out _ _ ?_;clear hK K;try simp only[Act.put,zsA,zsS,zsZ]
   have HCN:=hid (show(wp.setCell ⟨q,i*5+3,none⟩ (.slice a2 nn c2)).cell? ⟨g,0,none⟩=some (.slice (some ⟨q,0,none⟩) fl dc) from(World.cell?_of_block (a:=⟨g,0,none⟩) (Below.heap_setCell _ _ _ _ HGQ2.out)).trans HSK.out.1);go_wp2_with fail
   go_roundw
   case rel=>exact⟨k+1,_,_,by go_num,by omega,hid HEND.out.2,hid (HEA.out.trans (Ex.of_more HEND.out.1)),hid (by rw[HTK.out];exact putB_more HI1.out HABS.out hi2 _ _),HCN⟩
   case measure=>simp [intOf];omega
  ·have dk:decide ((k:Int)<(bl:Int))=false:=decide_eq_false (by omega)
   have dk2:decide (k<bl)=false:=decide_eq_false hlt;have hall:bs.take k=bs:=List.take_of_length_le (by have:=HBLE.out;omega);have HABS2:=hid (show absF F2=putB F1 i bs by rw[HABS.out,hall]);clear hany hdc3 hall;go_wp2_with fail
   go_ret
   exact⟨rfl,HEA.out.ap,F2,F1,i,HAT.out,HD.out.ex HAN1.out HEA.out,HABS2.out⟩
end
end Rd
end Go.Proofs.YtalfbcbnljhldaaGreatDoor
