/-  -/
import Derived.Test.YtalfbcbnljhldaaGreatDoorMbh
import Derived.Deep.SlicePairs
import Derived.Lib.SmallJoins
import Derived.ProofKit
namespace Go.Proofs.YtalfbcbnljhldaaGreatDoor
open Go.Lib (hid)
open Go.RowKit Go.Maps Go.Sort Dsk Rd Wl
namespace Rl
def LawAt (w0 w:World) (gd hb g h j:Nat):Prop:= ∃(x:Nat) (X:Option Obj) (o:Tags) (n N:Nat) (S T K:Nat→Prop) (M:Files) (Ls:List SV) (E:List Ent),n≤64+100*j∧N≤40*j∧Both w0 x X w o gd hb g h n N S T K M M Ls∧Wl.Inv M∧Whole M (logOf Ls) E
theorem LawAt.bel {w0 w:World} {gd hb g h j:Nat} (l:LawAt w0 w gd hb g h j):Below w0.heap.size w0 w:=by
 obtain⟨x,X,o,n,N,S,T,K,M,Ls,E,_,_,b,_⟩:=l;exact b.bel
theorem loose_len {M:Files} (hi:Wl.Inv M) {ks:List Name} (hk:NamesOf M (fun f=>f.loose) ks):ks.length≤64:=by
 obtain⟨ks0,h1,h2⟩:=hi.fin;have h3:NamesOf M (fun f=>f.loose) (ks0.filter fun n=>(M.at n).loose):=by
  refine⟨h1.1.filter _,fun n=>?_⟩;rw[List.mem_filter,names_iff h1];constructor
  ·rintro⟨x,y⟩
   obtain⟨f,hf,ha⟩:=at_some x;exact⟨f,hf,by rw[←ha];exact y⟩
  ·rintro⟨f,hf,hq⟩
   rw[at_of hf];exact⟨(hi.file n f hf).there,hq⟩
 rw[NamesOf.one hk h3];exact Nat.le_trans (List.length_filter_le _ _) h2
theorem opbox_cells {W:World} {ob:Nat} {kd:Int} {la:Option Addr} {ln lc nn:Nat} {sa:Option Addr} {sn sc:Nat} {nm:Name} {ba:Option Addr} {bn bc:Nat} (h:W.heap[ob]?=OpBox kd la ln lc nn sa sn sc nm ba bn bc):
  W.cell? ⟨ob,0,none⟩=some (.int .i64 kd)∧W.cell? ⟨ob,1,none⟩=some (.slice la ln lc)∧W.cell? ⟨ob,2,none⟩=some (.int .u64 (nn:Int))∧W.cell? ⟨ob,3,none⟩=some (.slice sa sn sc)∧W.cell? ⟨ob,4,none⟩=some (.string ⟨nm.toArray⟩)∧W.cell? ⟨ob,5,none⟩=some (.slice ba bn bc):=by
 refine⟨?_,?_,?_,?_,?_,?_⟩<;>(rw[cell_of_row _ _ _ _ _ _ h];rfl)
set_option maxRecDepth 1000000 in
set_option maxHeartbeats 16000000 in
theorem walPlays_any {w:World} {a:Option Addr} {c:Nat} (vs:List OpV) (ht:Tabs w.heap.size w) (ho:OpsIn w a vs) (hl:vs.length≤9223372036854775807):
  Calls Tryz.prog 3 #[.slice a vs.length c] w fun e w'=>e= .returned (.bool true)∧Below w.heap.size w w':=by
 have HKN:=hid (known10_any w ht (Nat.le_refl _));have HT:=hid ht;have HO:=hid ho;have h03:=ht.lo;obtain⟨N,hN⟩: ∃x,x=vs.length:=⟨_,rfl⟩;rw[←hN] at hl ⊢;have HN:=hid hN;clear ht ho hN;go_enter Tryz.func3,Tryz.ntmps3
 go_wp2_with fail
 refine HKN.out.mono ?_;rintro r w1 ⟨rfl,hb1⟩;have HB1:=hid hb1;have HNEW:=hid (new_base w1 hb1.size);clear hb1 HKN;by_cases hn:40<N
 ·have d1:decide ((40:Int)<(N:Int))=true:=by simp;omega
  go_wp2_with fail
  go_ret
  exact⟨rfl,HB1.out⟩
 ·have d1:decide ((40:Int)<(N:Int))=false:=by simp;omega
  have hN40:N≤40:=by omega
  clear hn;go_wp2_with fail
  refine HNEW.out.mono ?_;rintro e w2 ⟨rfl,hb2,o2,hd2,ho2⟩;have HB2:=hid (HB1.out.trans (hb2.mono HB1.out.size));have HD2:=hid hd2;have HO2:=hid ho2;obtain⟨gd,hgd⟩: ∃gd,gd=w1.heap.size+1:=⟨_,rfl⟩;rw[←hgd] at HD2 ⊢;clear hb2 hd2 ho2 HNEW d1 hgd;go_upto_region 6 with fail
  obtain⟨w3,hw3⟩: ∃x,x=w2.alloc (.cells #[.slice none 0 0] 29):=⟨_,rfl⟩;obtain⟨g,hg⟩: ∃g,g=w2.heap.size:=⟨_,rfl⟩;have hb3:Below w2.heap.size w2 w3:=by rw[hw3];exact(Below.refl _ _).alloc (Nat.le_refl _) _
  have hg3:w3.heap[g]?=some (.cells #[.slice none 0 0] 29 (0,0)):=by rw[hw3,hg];exact heap_alloc_new _ _
  have HB3:=hid (HB2.out.trans (hb3.mono HB2.out.size));have hl3:Live w3 w.heap.size o2 gd (fun _=>none) 0:=⟨HT.out.below HB3.out,HD2.out.below hb3,HB3.out.size,fun l f hf=>(by cases hf),by decide⟩;have HOP:=hid (open_any hl3);have HL3:=hid hl3;have HG3:=hid hg3;have HOG:=hid (HO2.out g (Nat.le_of_eq hg.symm));have HGB:=hid (show w.heap.size≤g by rw[hg];exact HB2.out.size);rw[←hg,←hw3];clear hw3 hg hb3 hg3 hl3 HD2 HO2;go_wp2_with fail
  refine HOP.out.mono ?_;rintro e w4 ⟨ks,hb,o4,rfl,hks,hge,hwl4,hd4,hs4⟩;obtain⟨hi4,hW4⟩:=Pz.open_whole_any Wl.Inv.new hks;have hl4:=step_live HL3.out hs4 hd4 hi4 (by decide);have HB4:=hid (HB3.out.trans (hs4.below (fun k e=>HL3.out.disk.owns k e) HL3.out.hB));have hg4:=(hs4.block g (lt_of_block HG3.out) HOG.out).trans HG3.out;have hog4:o4 g=none:=hs4.free g (lt_of_block HG3.out) HOG.out (by simp [Value.ownBlock]);have hrm:=rm_new hg4 HGB.out;have hgl:=lt_of_block HG3.out;have HWW:=hid hW4;have HI4:=hid hi4;have hopn:=open_all hrm Wl.Inv.new (by decide) hks (by
   obtain⟨ks0,h1,h2⟩:=Wl.Inv.new.fin;rw[NamesOf.one hks h1];exact h2)
  have HFST:=hid (fun(W:World) (S' T' K':Nat→Prop) (Mr':Files) (L':List SV) (r:RS W w.heap.size 64 w4.heap.size g S' T' K' Mr' L') m=>Both.first (Mp:=openOf (fun _=>none) ks) HB4.out hl4 hwl4 hrm (fun k e=>by rw[e];exact HGB.out) (fun k e=>by rw[e];exact hog4) (fun e=>by omega) (by omega) r m);have HOPN:=hid hopn;clear hopn hl4 hwl4 hrm hg4 hog4 hgl hi4 hW4 hks hge hd4 hs4 HOP HL3 HG3 HOG;go_wp2_with fail
  refine HOPN.out.mono ?_;rintro e w5 ⟨rfl,S5,T5,K5,L5,hl5,hr5,hm5⟩;have hb5:=HFST.out _ _ _ _ _ _ hr5 hm5;rw[←hl5] at HWW;obtain⟨h,hh⟩: ∃h,h=w4.heap.size:=⟨_,rfl⟩;rw[←hh] at hb5 ⊢;have HAT:=hid (show LawAt w w5 gd hb g h 0 from⟨_,_,_,_,_,_,_,_,_,_,_,by omega,Nat.le_refl _,hb5,HI4.out,HWW.out⟩);clear hl5 hr5 hm5 hb5 HWW HI4 HFST HOPN hh;go_wp2_with fail
  go_loopw [5,6,7,8] (fun v5 v6 v7 v8 wr=> ∃(j hb h:Nat),v5= .pointer (some ⟨hb,0,none⟩)∧v6= .int .i64 0∧v7= .pointer (some ⟨h,0,none⟩)∧v8= .int .i64 (j:Int)∧j≤N∧Hid (LawAt w wr gd hb g h j)) (fun _ _ _ v8 _=>N - (intOf v8).toNat)
  case atStart=>exact⟨0,hb,h,rfl,rfl,rfl,rfl,Nat.zero_le _,HAT⟩
  case round=>
   clear HAT;obtain⟨j,hb,h,rfl,rfl,rfl,rfl,hj,HAT⟩:=hrel;by_cases hlt:j<N
   ·have hjl:j<vs.length:=by rw[←HN.out];exact hlt
    obtain⟨hok,q,p,rfl,hq,hc⟩:=HO.out j hjl;obtain⟨v,hv⟩: ∃v,v=vs[j]:=⟨_,rfl⟩;rw[←hv] at hok hc;clear hv;have HOK:=hid hok;have HGR:=hid (fun W=>hok.great (w:=W));have HBL:=hid HAT.out.bel;obtain⟨x0,X0,o0,n0,N0,S0,T0,K0,M,Ls,E,hn0,hN0,hb0,hi0,hW0⟩:=HAT.out;have HB0:=hid hb0;have HI0:=hid hi0;have HW0:=hid hW0;have HNN:=hid (And.intro hn0 hN0);clear HAT hb0 hi0 hW0 hn0 hN0 hok hjl;obtain⟨kd,la,lc,es,nn,sa,sc,ss,nm,ba,bc,bs⟩:=v;have c0:=(HBL.out.cell (p:=⟨q,p+(j*6+0),none⟩) hq).trans (hc 0 (by decide));have c1:=(HBL.out.cell (p:=⟨q,p+(j*6+1),none⟩) hq).trans (hc 1 (by decide));have c2:=(HBL.out.cell (p:=⟨q,p+(j*6+2),none⟩) hq).trans (hc 2 (by decide));have c3:=(HBL.out.cell (p:=⟨q,p+(j*6+3),none⟩) hq).trans (hc 3 (by decide));have c4:=(HBL.out.cell (p:=⟨q,p+(j*6+4),none⟩) hq).trans (hc 4 (by decide));have c5:=(HBL.out.cell (p:=⟨q,p+(j*6+5),none⟩) hq).trans (hc 5 (by decide));simp only[OpV.cells,List.getElem?_cons_succ,List.getElem?_cons_zero,Nat.add_zero,←Nat.add_assoc] at c0 c1 c2 c3 c4 c5;dsimp only at HGR;obtain⟨ln,hln⟩: ∃x,x=es.length:=⟨_,rfl⟩;obtain⟨sn,hsn⟩: ∃x,x=ss.length:=⟨_,rfl⟩;obtain⟨bn,hbn⟩: ∃x,x=bs.length:=⟨_,rfl⟩;rw[←hln] at c1 HGR;rw[←hsn] at c3 HGR;rw[←hbn] at c5 HGR;have HLN:=hid hln;have HSN:=hid hsn;have HBN:=hid hbn;have dk:decide ((j:Int)<(N:Int))=true:=decide_eq_true (by omega);have dk2:decide (j<N)=true:=decide_eq_true hlt;have dk3:decide ((j:Int)<0)=false:=by simp
    have hk0:(0:Int)≤j:=by omega
    have hk1:(j:Int)≤40:=by omega
    have hk2:(j:Int)<(N:Int):=by omega
    clear hc hq hln hsn hbn;go_upto_region 14 with fail
    obtain⟨w6,hw6⟩: ∃x,x=wr.alloc (.cells #[.int .i64 kd,.slice la ln lc,.int .u64 (nn:Int),.slice sa sn sc,.string ⟨nm.toArray⟩,.slice ba bn bc] 41):=⟨_,rfl⟩;obtain⟨ob,hob⟩: ∃x,x=wr.heap.size:=⟨_,rfl⟩;have hal:Below wr.heap.size wr w6:=by rw[hw6];exact(Below.refl _ _).alloc (Nat.le_refl _) _
    have hbx:w6.heap[ob]?=OpBox kd la ln lc nn sa sn sc nm ba bn bc:=by rw[hw6,hob];exact heap_alloc_new _ _
    have hb6:=(HB0.out.wide hal).anchor (y:=ob) (.inr ⟨Nat.le_of_eq hob.symm,by rw[hob,hw6];simp⟩);rw[hbx] at hb6;have HB6:=hid hb6;rw[←hob,←hw6];clear hw6 hal hbx hb6 hob c0 c1 c2 c3 c4 c5 HB0;obtain⟨x0,x1,x2,x3,x4,x5⟩:=opbox_cells HB6.out.anc.2;go_wp2_with fail
    refine(HGR.out w6 HB6.out.bel).mono ?_;rintro e w7 ⟨he,hb7⟩;have HB7:=hid (HB6.out.below hb7);clear hb7 HB6 HGR x0 x1 x2 x3 x4 x5;rcases he with rfl | ⟨rfl,he⟩
    ·go_wp2_with fail
     go_ret
     exact⟨rfl,HB7.out.bel⟩
    ·have HLM:=hid he
     clear he;obtain⟨x0,x1,x2,x3,x4,x5⟩:=opbox_cells HB7.out.anc.2;by_cases k0:kd=0
     ·subst k0
      clear x0 x1 x2 x3 x4 x5;obtain⟨x0,-,-,-,-,-⟩:=opbox_cells HB7.out.anc.2;obtain⟨er,M2,L2,E2,hp,hi2,hW2⟩:=plan_is HI0.out HW0.out HOK.out.ents;have HP:=hid hp;have HI2:=hid hi2;have HW2:=hid hW2;clear hp hi2 hW2;go_upto_region 18 with fail
      refine app18 _ _ _ _ _ _ _ _ _ _ _ _ _ _ _ _ _ _ _ _ _ _ _ _ _ _ _ _ _ _ _ _ _ _ _ _ _ _ _ _ _ _ _ _ _ _ _ _ _ _ _ _ _ _ _ _ _ _ _ _ _ _ _ _ _ _ _ _ _ _ _ _ _ _ _ _ _ _ _ _ _ _ _ _ _ _ _ _ _ _ _ _ _ _ _ _ _ _ _ _ _ _ _ _ _ _ _ _ _ _ _ _ _ _ _ _ _ _ _ _ _ _ HB7.out HI0.out HW0.out HOK.out.ents HLN.out (by rw[←HLN.out];exact HLM.out.1) (by have:=HNN.out;omega) (by have:=HNN.out;omega) HP.out (fun _ _ _ _ _ h=>h) ?_;intro y43 y44 y45 y46 y47 y48 y49 y50 wz o2 N2 n2 S2 T2 K2 L8 hN2 hn2 hL2 hbz;replace HW2:=hid (show Whole M2 (logOf L8) E2 by rw[hL2];exact HW2.out);have HBz:=hid hbz;have HNN:=hid (show n2≤n0+30∧N2≤N0+30∧n0≤64+100*j∧N0≤40*j from⟨hn2,hN2,HNN.out⟩);clear hN2 hn2 hL2 hbz HP HI0 HW0 x0 HB7;have HPE:=hid (pents HBz.out HW2.out);have HEL:=hid (ents_small HW2.out HI2.out);have HBZ:=hid (HBz.out);have HRE:=hid (fun(W:World) (hW:Below _ _ W)=>rents (HBz.out.below hW) HI2.out HW2.out);go_wp2_with fail
      refine HPE.out.mono ?_;rintro r wa ⟨va,rfl,hva,hba⟩;have HVA:=hid hva;have HBa:=hid hba;have HRE2:=hid (HRE.out _ hba);clear hva hba HRE HPE;go_wp2_with fail
      refine HRE2.out.mono ?_;rintro r wb ⟨ra,rc,rl,rfl,hrl,hrd,hrb,hbb⟩;have HBb:=hid (HBa.out.trans (hbb.mono HBa.out.size));have HALL:=hid (refAll_same _ va rl ra rc hrl (HVA.out.below hbb) hrd hrb (Nat.le_trans HEL.out (by decide)));clear hrl hrd hrb hbb HVA HRE2;generalize List.length _=en at HALL ⊢;go_wp2_with fail
      refine HALL.out.mono ?_;rintro r wc ⟨rfl,hbc⟩;have HBc:=hid (HBZ.out.below (HBb.out.trans (hbc.mono HBb.out.size)));clear hbc HALL HBa HBb;have HFI:=hid (files_same HBc.out.live HBc.out.rs.disk HI2.out (by have:=HNN.out;omega));go_wp2_with fail
      refine HFI.out.mono ?_;rintro r wd ⟨rfl,hbd⟩;have HBd:=hid (HBc.out.below hbd);clear hbd HFI HBc;go_wp2_with fail
      go_roundw
      case rel=>exact⟨j+1,_,_,rfl,rfl,rfl,by go_num,by omega,hid ⟨_,_,_,n2,N2,_,_,_,_,_,_,by have:=HNN.out;omega,by have:=HNN.out;omega,HBd.out,HI2.out,HW2.out⟩⟩
      case measure=>simp [intOf];omega
     ·have e0:((kd:Int) == 0)=false:=by rw[beq_eq_false_iff_ne];omega
      by_cases k1:kd=1
      ·subst k1
       clear x0 x1 x2 x3 x4 x5;obtain⟨x0,-,-,-,-,-⟩:=opbox_cells HB7.out.anc.2;go_wp2_with fail
       refine(psync HB7.out).mono ?_;rintro r w8 ⟨v8,ks,o8,rfl,hks,hb8⟩;obtain⟨hw8,hi8⟩:=whole_syncAll (numsOf ks) (fun k hk=>(nums_mem.1 hk).2) HW0.out HI0.out;have HRS:=hid (rsync hb8 HI0.out (by have:=HNN.out;omega) hks (by have:=loose_len HI0.out hks;omega));have HI2:=hid hi8;have HW2:=hid hw8;clear x0 hw8 hi8 hks hb8 HB7;go_wp2_with fail
       refine HRS.out.mono ?_;rintro r w9 ⟨rfl,S9,hb9⟩;have HBz:=hid hb9;clear hb9 HI0 HW0 HRS;have HPE:=hid (pents HBz.out HW2.out);have HEL:=hid (ents_small HW2.out HI2.out);have HBZ:=hid (HBz.out);have HRE:=hid (fun(W:World) (hW:Below _ _ W)=>rents (HBz.out.below hW) HI2.out HW2.out);go_wp2_with fail
       refine HPE.out.mono ?_;rintro r wa ⟨va,rfl,hva,hba⟩;have HVA:=hid hva;have HBa:=hid hba;have HRE2:=hid (HRE.out _ hba);clear hva hba HRE HPE;go_wp2_with fail
       refine HRE2.out.mono ?_;rintro r wb ⟨ra,rc,rl,rfl,hrl,hrd,hrb,hbb⟩;have HBb:=hid (HBa.out.trans (hbb.mono HBa.out.size));have HALL:=hid (refAll_same _ va rl ra rc hrl (HVA.out.below hbb) hrd hrb (Nat.le_trans HEL.out (by decide)));clear hrl hrd hrb hbb HVA HRE2;generalize List.length _=en at HALL ⊢;go_wp2_with fail
       refine HALL.out.mono ?_;rintro r wc ⟨rfl,hbc⟩;have HBc:=hid (HBZ.out.below (HBb.out.trans (hbc.mono HBb.out.size)));clear hbc HALL HBa HBb;have HFI:=hid (files_same HBc.out.live HBc.out.rs.disk HI2.out (by have:=HNN.out;omega));go_wp2_with fail
       refine HFI.out.mono ?_;rintro r wd ⟨rfl,hbd⟩;have HBd:=hid (HBc.out.below hbd);clear hbd HFI HBc;go_wp2_with fail
       go_roundw
       case rel=>exact⟨j+1,_,_,rfl,rfl,rfl,by go_num,by omega,hid ⟨_,_,_,n0,N0,_,_,_,_,_,_,by have:=HNN.out;omega,by have:=HNN.out;omega,HBd.out,HI2.out,HW2.out⟩⟩
       case measure=>simp [intOf];omega
      ·have e1:((kd:Int) == 1)=false:=by rw[beq_eq_false_iff_ne];omega
       by_cases k2:kd=2
       ·subst k2
        clear x0 x1 x2 x3 x4 x5;obtain⟨x0,-,x2,-,-,-⟩:=opbox_cells HB7.out.anc.2;go_wp2_with fail
        refine(pcomp HB7.out HW0.out nn).mono ?_;rintro r w8 ⟨v8,o8,rfl,hb8⟩;clear x0 x2;obtain⟨-,-,x2,-,-,-⟩:=opbox_cells hb8.anc.2;obtain⟨⟨E2,hw8⟩,hi8⟩:=whole_drop (oldR nn Ls) Ls (oldR_le nn Ls) HW0.out HI0.out;have HRS:=hid (rcomp hb8 HI0.out HW0.out (by have:=HNN.out;omega) nn);have HI2:=hid hi8;have HW2:=hid hw8;clear hw8 hi8 hb8 HB7;go_wp2_with fail
        refine HRS.out.mono ?_;rintro r w9 ⟨rfl,S9,hb9⟩;have HBz:=hid hb9;clear hb9 HI0 HW0 HRS x2;have HPE:=hid (pents HBz.out HW2.out);have HEL:=hid (ents_small HW2.out HI2.out);have HBZ:=hid (HBz.out);have HRE:=hid (fun(W:World) (hW:Below _ _ W)=>rents (HBz.out.below hW) HI2.out HW2.out);go_wp2_with fail
        refine HPE.out.mono ?_;rintro r wa ⟨va,rfl,hva,hba⟩;have HVA:=hid hva;have HBa:=hid hba;have HRE2:=hid (HRE.out _ hba);clear hva hba HRE HPE;go_wp2_with fail
        refine HRE2.out.mono ?_;rintro r wb ⟨ra,rc,rl,rfl,hrl,hrd,hrb,hbb⟩;have HBb:=hid (HBa.out.trans (hbb.mono HBa.out.size));have HALL:=hid (refAll_same _ va rl ra rc hrl (HVA.out.below hbb) hrd hrb (Nat.le_trans HEL.out (by decide)));clear hrl hrd hrb hbb HVA HRE2;generalize List.length _=en at HALL ⊢;go_wp2_with fail
        refine HALL.out.mono ?_;rintro r wc ⟨rfl,hbc⟩;have HBc:=hid (HBZ.out.below (HBb.out.trans (hbc.mono HBb.out.size)));clear hbc HALL HBa HBb;have HFI:=hid (files_same HBc.out.live HBc.out.rs.disk HI2.out (by have:=HNN.out;omega));go_wp2_with fail
        refine HFI.out.mono ?_;rintro r wd ⟨rfl,hbd⟩;have HBd:=hid (HBc.out.below hbd);clear hbd HFI HBc;go_wp2_with fail
        go_roundw
        case rel=>exact⟨j+1,_,_,rfl,rfl,rfl,by go_num,by omega,hid ⟨_,_,_,n0,N0,_,_,_,_,_,_,by have:=HNN.out;omega,by have:=HNN.out;omega,HBd.out,HI2.out,HW2.out⟩⟩
        case measure=>simp [intOf];omega
       ·have e2:((kd:Int) == 2)=false:=by rw[beq_eq_false_iff_ne];omega
        by_cases k3:kd=3
        ·subst k3
         clear x0 x1 x2 x3 x4 x5;obtain⟨x0,-,-,x3,-,-⟩:=opbox_cells HB7.out.anc.2;have HPC:=hid (pcrash HB7.out HI0.out (sc:=sc) HOK.out.stay HOK.out.fit);have HRC:=hid (fun W Mp o8 ks (b:Both w ob (OpBox 3 la ln lc nn sa sn sc nm ba bn bc) W o8 gd hb g h n0 N0 S0 T0 (fun k=>K0 k∨(wr.heap.size≤k∧k<w6.heap.size)) Mp M Ls) hks=>rcrash b HI0.out (ks:=ks) (by have:=HNN.out;omega) hks (sc:=sc) HOK.out.stay HOK.out.fit (by have h1:=HLM.out.2.1;rw[HSN.out] at h1;exact h1));dsimp only at HPC HRC;rw[←HSN.out] at HPC HRC;go_wp2_with fail
         refine HPC.out.mono ?_;rintro r w8 ⟨rfl,ks,o8,hks,hb8⟩;clear x0 x3;obtain⟨x0,-,-,x3,-,-⟩:=opbox_cells hb8.anc.2;have HRS:=hid (HRC.out _ _ _ _ hb8 hks);have HI8:=hid (inv_crashed HI0.out ks (stayN ss) hks);clear hb8 HB7 hks HPC HRC;go_wp2_with fail
         refine HRS.out.mono ?_;rintro r w9 ⟨rfl,S9,hb9⟩;have HB9:=hid hb9;clear hb9 HI0 HW0 HRS x0 x3;have HPO:=hid (popen HB9.out HI8.out);have HBY:=hid HB9.out;go_wp2_with fail
         refine HPO.out.mono ?_;rintro r w10 ⟨kz,hbz,o10,rfl,hkz,hb10⟩;obtain⟨hi10,hw10⟩:=Pz.open_whole_any HI8.out hkz;have HI2:=hid hi10;have HRO:=hid (ropen hb10 HI8.out (by have:=HNN.out;omega) hkz);have HWQ:=hid hw10;clear hi10 hw10 hkz hb10 HPO HBY;go_wp2_with fail
         refine HRO.out.mono ?_;rintro r w11 ⟨h11,S11,T11,K11,L11,rfl,hl11,hb11⟩;have HW2:=hid (show Whole _ (logOf L11) _ by rw[hl11];exact HWQ.out);have HBz:=hid hb11;clear hl11 hb11 HRO HWQ;clear HI8 HB9;have HPE:=hid (pents HBz.out HW2.out);have HEL:=hid (ents_small HW2.out HI2.out);have HBZ:=hid (HBz.out);have HRE:=hid (fun(W:World) (hW:Below _ _ W)=>rents (HBz.out.below hW) HI2.out HW2.out);go_wp2_with fail
         refine HPE.out.mono ?_;rintro r wa ⟨va,rfl,hva,hba⟩;have HVA:=hid hva;have HBa:=hid hba;have HRE2:=hid (HRE.out _ hba);clear hva hba HRE HPE;go_wp2_with fail
         refine HRE2.out.mono ?_;rintro r wb ⟨ra,rc,rl,rfl,hrl,hrd,hrb,hbb⟩;have HBb:=hid (HBa.out.trans (hbb.mono HBa.out.size));have HALL:=hid (refAll_same _ va rl ra rc hrl (HVA.out.below hbb) hrd hrb (Nat.le_trans HEL.out (by decide)));clear hrl hrd hrb hbb HVA HRE2;generalize List.length _=en at HALL ⊢;go_wp2_with fail
         refine HALL.out.mono ?_;rintro r wc ⟨rfl,hbc⟩;have HBc:=hid (HBZ.out.below (HBb.out.trans (hbc.mono HBb.out.size)));clear hbc HALL HBa HBb;have HFI:=hid (files_same HBc.out.live HBc.out.rs.disk HI2.out (by have:=HNN.out;omega));go_wp2_with fail
         refine HFI.out.mono ?_;rintro r wd ⟨rfl,hbd⟩;have HBd:=hid (HBc.out.below hbd);clear hbd HFI HBc;go_wp2_with fail
         go_roundw
         case rel=>exact⟨j+1,_,_,rfl,rfl,rfl,by go_num,by omega,hid ⟨_,_,_,n0+64,N0,_,_,_,_,_,_,by have:=HNN.out;omega,by have:=HNN.out;omega,HBd.out,HI2.out,HW2.out⟩⟩
         case measure=>simp [intOf];omega
        ·have e3:((kd:Int) == 3)=false:=by rw[beq_eq_false_iff_ne];omega
         by_cases k4:kd=4
         ·subst k4
          clear x0 x1 x2 x3 x4 x5;obtain⟨x0,-,-,-,x4,x5⟩:=opbox_cells HB7.out.anc.2;have hnm:nm.length≤64:=by have:=HLM.out.2.2.2;omega
          have hbl:bs.length≤300:=by have h1:=HLM.out.2.2.1;have h2:=HBN.out;omega
          have hby:=HOK.out.body.hr;obtain⟨M1,M2,hL,hi2⟩:=laid_is HI0.out hnm hbl hby;have HI2:=hid hi2;have HPR:=hid (prepl HB7.out HI0.out hnm hbl HOK.out.body HOK.out.nil (by have:=HNN.out;omega) hL);have HRR:=hid (fun W o8 N8 (b:Both w ob (OpBox 4 la ln lc nn sa sn sc nm ba bn bc) W o8 gd hb g h n0 N8 S0 T0 (fun k=>K0 k∨(wr.heap.size≤k∧k<w6.heap.size)) M1 M Ls)=>rrepl b HI0.out hnm hbl HOK.out.body HOK.out.nil (by have:=HNN.out;omega) hL);have HPS:=hid (fun W o8 n8 N8 S8 (hN8:N8≤N0+1) (b:Both w ob (OpBox 4 la ln lc nn sa sn sc nm ba bn bc) W o8 gd hb g h n8 N8 S8 T0 (fun k=>K0 k∨(wr.heap.size≤k∧k<w6.heap.size)) M1 M1 Ls)=>psyn4 b HI0.out hi2 hnm (by have:=HNN.out;omega) hL);have HRY:=hid (fun W o8 n8 N8 S8 (hn8:n8≤n0+1) (b:Both w ob (OpBox 4 la ln lc nn sa sn sc nm ba bn bc) W o8 gd hb g h n8 N8 S8 T0 (fun k=>K0 k∨(wr.heap.size≤k∧k<w6.heap.size)) M2 M1 Ls)=>rsyn4 b HI0.out hnm hbl hby (by have:=HNN.out;omega) hL);dsimp only at HPR HRR;rw[←HBN.out] at HPR HRR;clear hnm hbl hby hL hi2;go_wp2_with fail
          refine HPR.out.mono ?_;rintro r w8 ⟨v8,o8,N8,rfl,hN8,hb8⟩;clear x0 x4 x5;obtain⟨-,-,-,-,x4,x5⟩:=opbox_cells hb8.anc.2;have HRS:=hid (HRR.out _ _ _ hb8);clear hb8 HPR HRR HB7;go_wp2_with fail
          refine HRS.out.mono ?_;rintro r w9 ⟨v9,S9,n9,rfl,hn9,hb9⟩;clear x4 x5;obtain⟨-,-,-,-,x4,x5⟩:=opbox_cells hb9.anc.2;have HNN2:=hid (And.intro hN8 hn9);have HPT:=hid (HPS.out _ _ _ _ _ hN8 hb9);clear hb9 HPS HRS hN8 hn9;go_wp2_with fail
          refine HPT.out.mono ?_;rintro r w12 ⟨v12,o12,rfl,hb12⟩;clear x4 x5;obtain⟨-,-,-,-,x4,x5⟩:=opbox_cells hb12.anc.2;have HRT:=hid (HRY.out _ _ _ _ _ HNN2.out.2 hb12);clear hb12 HPT HRY;go_wp2_with fail
          refine HRT.out.mono ?_;rintro r w13 ⟨v13,S13,rfl,hb13⟩;have HB9:=hid hb13;have HI8:=HI2;have HNN:=hid (show n9≤n0+1∧N8≤N0+1∧n0≤64+100*j∧N0≤40*j from⟨HNN2.out.2,HNN2.out.1,HNN.out⟩);clear hb13 HRT HI0 HW0 HI2 HNN2 x4 x5;have HPO:=hid (popen HB9.out HI8.out);have HBY:=hid HB9.out;go_wp2_with fail
          refine HPO.out.mono ?_;rintro r w10 ⟨kz,hbz,o10,rfl,hkz,hb10⟩;obtain⟨hi10,hw10⟩:=Pz.open_whole_any HI8.out hkz;have HI2:=hid hi10;have HRO:=hid (ropen hb10 HI8.out (by have:=HNN.out;omega) hkz);have HWQ:=hid hw10;clear hi10 hw10 hkz hb10 HPO HBY;go_wp2_with fail
          refine HRO.out.mono ?_;rintro r w11 ⟨h11,S11,T11,K11,L11,rfl,hl11,hb11⟩;have HW2:=hid (show Whole _ (logOf L11) _ by rw[hl11];exact HWQ.out);have HBz:=hid hb11;clear hl11 hb11 HRO HWQ;clear HI8 HB9;have HPE:=hid (pents HBz.out HW2.out);have HEL:=hid (ents_small HW2.out HI2.out);have HBZ:=hid (HBz.out);have HRE:=hid (fun(W:World) (hW:Below _ _ W)=>rents (HBz.out.below hW) HI2.out HW2.out);go_wp2_with fail
          refine HPE.out.mono ?_;rintro r wa ⟨va,rfl,hva,hba⟩;have HVA:=hid hva;have HBa:=hid hba;have HRE2:=hid (HRE.out _ hba);clear hva hba HRE HPE;go_wp2_with fail
          refine HRE2.out.mono ?_;rintro r wb ⟨ra,rc,rl,rfl,hrl,hrd,hrb,hbb⟩;have HBb:=hid (HBa.out.trans (hbb.mono HBa.out.size));have HALL:=hid (refAll_same _ va rl ra rc hrl (HVA.out.below hbb) hrd hrb (Nat.le_trans HEL.out (by decide)));clear hrl hrd hrb hbb HVA HRE2;generalize List.length _=en at HALL ⊢;go_wp2_with fail
          refine HALL.out.mono ?_;rintro r wc ⟨rfl,hbc⟩;have HBc:=hid (HBZ.out.below (HBb.out.trans (hbc.mono HBb.out.size)));clear hbc HALL HBa HBb;have HFI:=hid (files_same HBc.out.live HBc.out.rs.disk HI2.out (by have:=HNN.out;omega));go_wp2_with fail
          refine HFI.out.mono ?_;rintro r wd ⟨rfl,hbd⟩;have HBd:=hid (HBc.out.below hbd);clear hbd HFI HBc;go_wp2_with fail
          go_roundw
          case rel=>exact⟨j+1,_,_,rfl,rfl,rfl,by go_num,by omega,hid ⟨_,_,_,n9+64,N8,_,_,_,_,_,_,by have:=HNN.out;omega,by have:=HNN.out;omega,HBd.out,HI2.out,HW2.out⟩⟩
          case measure=>simp [intOf];omega
         ·have e4:((kd:Int) == 4)=false:=by rw[beq_eq_false_iff_ne];omega
          clear x0 x1 x2 x3 x4 x5;obtain⟨x0,-,-,-,-,-⟩:=opbox_cells HB7.out.anc.2;have HPE:=hid (pents HB7.out HW0.out);have HEL:=hid (ents_small HW0.out HI0.out);have HBZ:=hid (HB7.out);have HRE:=hid (fun(W:World) (hW:Below _ _ W)=>rents (HB7.out.below hW) HI0.out HW0.out);go_wp2_with fail
          refine HPE.out.mono ?_;rintro r wa ⟨va,rfl,hva,hba⟩;have HVA:=hid hva;have HBa:=hid hba;have HRE2:=hid (HRE.out _ hba);clear hva hba HRE HPE;go_wp2_with fail
          refine HRE2.out.mono ?_;rintro r wb ⟨ra,rc,rl,rfl,hrl,hrd,hrb,hbb⟩;have HBb:=hid (HBa.out.trans (hbb.mono HBa.out.size));have HALL:=hid (refAll_same _ va rl ra rc hrl (HVA.out.below hbb) hrd hrb (Nat.le_trans HEL.out (by decide)));clear hrl hrd hrb hbb HVA HRE2;generalize List.length _=en at HALL ⊢;go_wp2_with fail
          refine HALL.out.mono ?_;rintro r wc ⟨rfl,hbc⟩;have HBc:=hid (HBZ.out.below (HBb.out.trans (hbc.mono HBb.out.size)));clear hbc HALL HBa HBb;have HFI:=hid (files_same HBc.out.live HBc.out.rs.disk HI0.out (by have:=HNN.out;omega));go_wp2_with fail
          refine HFI.out.mono ?_;rintro r wd ⟨rfl,hbd⟩;have HBd:=hid (HBc.out.below hbd);clear hbd HFI HBc;go_wp2_with fail
          go_roundw
          case rel=>exact⟨j+1,_,_,rfl,rfl,rfl,by go_num,by omega,hid ⟨_,_,_,n0,N0,_,_,_,_,_,_,by have:=HNN.out;omega,by have:=HNN.out;omega,HBd.out,HI0.out,HW0.out⟩⟩
          case measure=>simp [intOf];omega
   ·have dk:decide ((j:Int)<(N:Int))=false:=decide_eq_false (by omega)
    have dk2:decide (j<N)=false:=decide_eq_false hlt;go_wp2_with fail
    go_ret
    exact⟨rfl,HAT.out.bel⟩
end Rl
end Go.Proofs.YtalfbcbnljhldaaGreatDoor

namespace Go.Proofs.YtalfbcbnljhldaaGreatDoor
open Go.ChangeShapes Go.WideShapes Go.RowKit Go.Lib Go.Sort Dsk Rd Wl
namespace Rl
instance:Inhabited OpV:=⟨⟨0,none,0,[],0,none,0,[],[],none,0,[]⟩⟩
instance:Inhabited EV:=⟨(⟨0,0,[]⟩,.bool false)⟩
theorem cellsEnt10:Tryz.prog.cellsOf 55=3:=by kernel_rfl
theorem cellsOp10:Tryz.prog.cellsOf 41=6:=by kernel_rfl
theorem spotN {w:World} {x:Addr} {v:Value} (h:w.cell? x=some v):x=⟨x.block,x.off,none⟩:=by
 obtain⟨b,o,s⟩:=x;cases s with
 | none=>rfl
 | some n=>
  unfold World.cell? at h;split at h
  ·simp at h
  ·cases h
theorem addN (b q i:Nat):(⟨b,q,none⟩:Addr).add i=⟨b,q+i,none⟩:=by
 unfold Addr.add;split
 ·subst i;rfl
 ·rfl
theorem bitsN {x:Int} (h:(Lit.int .u64 x).wf=true): ∃b:Nat,x=(b:Int)∧b<18446744073709551616:=by
 have hb:0≤x∧x≤18446744073709551615:=by simpa [Lit.wf,IntKind.min,IntKind.max,IntKind.signed,IntKind.bits] using h
 exact⟨x.toNat,by omega,by omega⟩
section
variable {H:Type} {enc:TypeId×Value→H} {w:World} {base:Nat} {held:Bool}
theorem open_bytes {fuel:Nat} {a:Option Addr} {len cap:Nat} {x:DataW H×List MemPlace} (h:DataW.trod enc Tryz.prog w base (fun _=>true) held fuel 39 [.slice a len cap]=some x): ∃zs:List Int,zs.length=len∧(a=none→cap=0)∧Reads w a zs∧zs.length≤9223372036854775807:=by
 rcases open_ints Tryz.underlying39 Tryz.underlying5 (by kernel_rfl) h with⟨hcs,_⟩ | ⟨y,l,c,zs,hcs,_,hl,hm,hz,_,hcell,hwz⟩
 ·simp at hcs
  obtain⟨rfl,rfl,rfl⟩:=hcs;exact⟨[],rfl,fun _=>rfl,Reads.nil w none,by decide⟩
 ·simp at hcs
  obtain⟨rfl,rfl,rfl⟩:=hcs;obtain⟨r1,r2,r3,r4⟩:=row_reads (w:=w) (a:=some y) (len:=len) (cap:=cap) (zs:=zs) (.inr ⟨y,rfl,hl,hm,by simpa using hz,hcell,hwz⟩);exact⟨zs.take len,r2.symm,(fun e=>by cases e),r1,by omega⟩
theorem open_stay {fuel:Nat} {a:Option Addr} {len cap:Nat} {x:DataW H×List MemPlace} (h:DataW.trod enc Tryz.prog w base (fun _=>true) held fuel 38 [.slice a len cap]=some x): ∃ss:List Int,ss.length=len∧(∀k (h:k<ss.length),∃gs of,a=some ⟨gs,of,none⟩∧gs<w.heap.size∧w.cell? ⟨gs,of+k,none⟩=some (.int .i64 ss[k]))∧(∀x∈ss,-9223372036854775808≤x∧x≤9223372036854775807)∧ss.length≤9223372036854775807:=by
 rcases open_ints Tryz.underlying38 Tryz.underlying3 (by kernel_rfl) h with⟨hcs,_⟩ | ⟨y,l,c,zs,hcs,_,hl,hm,hz,_,hcell,hwz⟩
 ·simp at hcs
  obtain⟨rfl,rfl,rfl⟩:=hcs;exact⟨[],rfl,(fun k hk=>absurd hk (by simp)),(fun x hx=>by cases hx),by decide⟩
 ·simp at hcs
  obtain⟨rfl,rfl,rfl⟩:=hcs;have hzl:zs.length=cap:=by simpa using hz
  refine⟨zs.take len,by simp;omega,fun k hk=>?_,fun x hx=>?_,by unfold maxLen at hm;simp;omega⟩
  ·have hk':k<len:=by simp at hk;omega
   have hy:y=⟨y.block,y.off,none⟩:=spotN (by simpa [Addr.add] using hcell 0 (by omega));have h1:=hcell k (by omega);rw[hy,addN] at h1;refine⟨y.block,y.off,congrArg some hy,World.block_lt_of_cell? w ⟨y.block,y.off+k,none⟩ h1,?_⟩;rw[h1,List.getElem_take];simp [List.getD,show k<zs.length by omega]
  ·have:=hwz x (List.mem_of_mem_take hx)
   simpa [Lit.wf,IntKind.min,IntKind.max,IntKind.signed,IntKind.bits] using this
structure EntC (w:World) (p:EV):Prop where
 fit:p.1.ix<18446744073709551616∧p.1.term<18446744073709551616
 body: ∃ba bc,p.2= .slice ba p.1.body.length bc∧(ba=none→bc=0)∧Reads w ba p.1.body
 le:p.1.body.length≤9223372036854775807
set_option maxRecDepth 100000 in
theorem open_ent {n:Nat} {cs:List Value} {x:DataW H×List MemPlace} (hl:cs.length=3) (h:DataW.trod enc Tryz.prog w base (fun _=>true) held n 55 cs=some x):
  ∃p:EV,cs= [.int .u64 (p.1.ix:Int),.int .u64 (p.1.term:Int),p.2]∧EntC w p:=by
 obtain⟨xs,k,-,hx,-,hlen,hf⟩:=DataW.trod_struct Tryz.underlying55 h;match xs,hlen,cs,hl with
 | [y0,y1,y2],_,[c0,c1,c2],_=>
  have h0:DataW.trod enc Tryz.prog w base (fun _=>true) held k 37 [c0]=some y0:=hf 0 _ rfl;have h1:DataW.trod enc Tryz.prog w base (fun _=>true) held k 37 [c1]=some y1:=hf 1 _ rfl;have h2:DataW.trod enc Tryz.prog w base (fun _=>true) held k 39 [c2]=some y2:=hf 2 _ rfl;obtain⟨x,e0,rfl,w0⟩:=DataW.trod_int Tryz.underlying37 h0;obtain⟨y,e1,rfl,w1⟩:=DataW.trod_int Tryz.underlying37 h1;obtain⟨b,rfl,hb⟩:=bitsN w0;obtain⟨t,rfl,ht⟩:=bitsN w1;obtain rfl:c0= .int .u64 (b:Int):=by simpa using e0
  obtain rfl:c1= .int .u64 (t:Int):=by simpa using e1
  have hs: ∃a len cap,c2= .slice a len cap:=by
   rcases open_ints Tryz.underlying39 Tryz.underlying5 (by kernel_rfl) h2 with⟨hcs,_⟩ | ⟨y,l,c,zs,hcs,_⟩
   ·exact⟨_,_,_,by simpa using hcs⟩
   ·exact⟨_,_,_,by simpa using hcs⟩
  obtain⟨a,len,cap,rfl⟩:=hs;obtain⟨zs,rfl,hn,hr,hz⟩:=open_bytes h2;exact⟨(⟨b,t,zs⟩,.slice a zs.length cap),rfl,⟨⟨hb,ht⟩,⟨a,cap,rfl,hn,hr⟩,hz⟩⟩
theorem pcells_split (l:List EV) {j:Nat} {u:Value} (h:(pcells l)[j]?=some u): ∃i,∃hi:i<l.length,(j=i*3∧u= .int .u64 (l[i].1.ix:Int))∨(j=i*3+1∧u= .int .u64 (l[i].1.term:Int))∨(j=i*3+2∧u=l[i].2):=by
 have hj:j<(pcells l).length:=(List.getElem?_eq_some_iff.1 h).1;rw[pcells_len] at hj;have hi:j / 3<l.length:=by omega
 obtain⟨c0,c1,c2⟩:=pcells_at l (j / 3) hi;refine⟨j / 3,hi,?_⟩;have h3:j % 3=0∨j % 3=1∨j % 3=2:=by omega
 rcases h3 with h3 | h3 | h3
 ·have e:j=j / 3*3:=by omega
  rw[e,c0] at h;cases h;exact .inl ⟨e,rfl⟩
 ·have e:j=j / 3*3+1:=by omega
  rw[e,c1] at h;cases h;exact .inr (.inl ⟨e,rfl⟩)
 ·have e:j=j / 3*3+2:=by omega
  rw[e,c2] at h;cases h;exact .inr (.inr ⟨e,rfl⟩)
set_option maxRecDepth 100000 in
theorem open_ents {fuel:Nat} {a:Option Addr} {len cap:Nat} {x:DataW H×List MemPlace} (h:DataW.trod enc Tryz.prog w base (fun _=>true) held fuel 36 [.slice a len cap]=some x): ∃es:List EV,es.length=len∧EntsIn w a cap es∧(∀p∈es,p.1.body.length≤9223372036854775807)∧es.length≤9223372036854775807:=by
 rcases Go.Deep.open_slice Tryz.underlying36 h with⟨hcs,_⟩ | ⟨y,l,c,m,n,D,Pl,hcs,_,hl,hm,hmm,_,hx⟩
 ·simp at hcs
  obtain⟨rfl,rfl,rfl⟩:=hcs;exact⟨[],rfl,⟨⟨0,0,fun e=>absurd rfl e,fun j u e=>by simp [pcells] at e⟩,(fun p hp=>by cases hp),fun _=>⟨rfl,rfl⟩,fun p hp=>by cases hp⟩,(fun p hp=>by cases hp),by decide⟩
 ·simp at hcs
  obtain⟨rfl,rfl,rfl⟩:=hcs;simp only[if_true] at hmm;subst hmm;have each: ∀i,i<m→ ∃p:EV,(w.cell? (y.add (i*3+0))=some (.int .u64 (p.1.ix:Int))∧w.cell? (y.add (i*3+1))=some (.int .u64 (p.1.term:Int))∧w.cell? (y.add (i*3+2))=some p.2)∧EntC w p:=fun i hi=>by
   obtain⟨cs',h1,h2⟩:=hx i hi;rw[cellsEnt10] at h1;obtain⟨_,hlen,hcell⟩:=World.cells?_some h1;obtain⟨p,rfl,hp⟩:=open_ent hlen h2;have e0:=hcell 0 (by omega);have e1:=hcell 1 (by omega);have e2:=hcell 2 (by omega);rw[Go.Deep.add_add] at e0 e1 e2;exact⟨p,⟨by simpa using e0,by simpa using e1,by simpa using e2⟩,hp⟩
  obtain⟨q,hq⟩:=Go.Deep.choose_lt each;have hlm:len≤m:=hl;have hmem: ∀p∈(List.range len).map q,EntC w p:=fun p hp=>by
   obtain⟨i,hi,rfl⟩:=List.mem_map.1 hp;exact(hq i (by have:=List.mem_range.1 hi;omega)).2
  refine⟨(List.range len).map q,by simp,⟨⟨y.block,y.off,fun e=>?_,fun j u hu=>?_⟩,fun p hp=>?_,(fun e=>by cases e),fun p hp=>(hmem p hp).body⟩,fun p hp=>(hmem p hp).le,by unfold maxLen at hm;simp;omega⟩
  ·have hpos:0<m:=by
    have:=List.length_pos_iff.2 e;simp at this;omega
   exact congrArg some (spotN (by simpa [Addr.add] using(hq 0 hpos).1.1))
  ·obtain⟨i,hi,hc⟩:=pcells_split _ hu
   have hil:i<len:=by simpa using hi
   obtain⟨⟨h0,h1,h2⟩,_⟩:=hq i (by omega);have hy:y=⟨y.block,y.off,none⟩:=spotN (by simpa [Addr.add] using(hq 0 (by omega)).1.1);rw[hy,addN] at h0 h1 h2;have hg:((List.range len).map q)[i]=q i:=by simp
   rw[hg] at hc;have hlt:=World.block_lt_of_cell? w ⟨y.block,y.off+(i*3+0),none⟩ h0;rcases hc with⟨rfl,rfl⟩ | ⟨rfl,rfl⟩ | ⟨rfl,rfl⟩
   ·exact⟨hlt,h0⟩
   ·exact⟨hlt,h1⟩
   ·exact⟨hlt,h2⟩
  ·obtain⟨ba,bc,k1,_⟩:=(hmem p hp).body
   exact⟨(hmem p hp).fit.1,(hmem p hp).fit.2,ba,_,bc,k1⟩
set_option maxRecDepth 100000 in
theorem open_op10 {n:Nat} {cs:List Value} {x:DataW H×List MemPlace} (hl:cs.length=6) (h:DataW.trod enc Tryz.prog w base (fun _=>true) held n 41 cs=some x):
  ∃v:OpV,cs=v.cells∧OpOk w v:=by
 obtain⟨xs,k,-,hx,-,hlen,hf⟩:=DataW.trod_struct Tryz.underlying41 h;match xs,hlen,cs,hl with
 | [y0,y1,y2,y3,y4,y5],_,[c0,c1,c2,c3,c4,c5],_=>
  have h0:DataW.trod enc Tryz.prog w base (fun _=>true) held k 3 [c0]=some y0:=hf 0 _ rfl;have h1:DataW.trod enc Tryz.prog w base (fun _=>true) held k 36 [c1]=some y1:=hf 1 _ rfl;have h2:DataW.trod enc Tryz.prog w base (fun _=>true) held k 37 [c2]=some y2:=hf 2 _ rfl;have h3:DataW.trod enc Tryz.prog w base (fun _=>true) held k 38 [c3]=some y3:=hf 3 _ rfl;have h4:DataW.trod enc Tryz.prog w base (fun _=>true) held k 9 [c4]=some y4:=hf 4 _ rfl;have h5:DataW.trod enc Tryz.prog w base (fun _=>true) held k 39 [c5]=some y5:=hf 5 _ rfl;obtain⟨z,e0,rfl,w0⟩:=DataW.trod_int Tryz.underlying3 h0;obtain⟨j,e2,rfl,w2⟩:=DataW.trod_int Tryz.underlying37 h2;obtain⟨s,e4,-,hs4⟩:=DataW.trod_string Tryz.underlying9 h4;obtain⟨j,rfl,hj⟩:=bitsN w2;obtain rfl:c0= .int .i64 z:=by simpa using e0
  obtain rfl:c2= .int .u64 (j:Int):=by simpa using e2
  obtain rfl:c4= .string s:=by simpa using e4
  have hs: ∃a len cap,c1= .slice a len cap:=by
   rcases Go.Deep.open_slice Tryz.underlying36 h1 with⟨hcs,_⟩ | ⟨y,l,c,m,n,D,Pl,hcs,_⟩
   ·exact⟨_,_,_,by simpa using hcs⟩
   ·exact⟨_,_,_,by simpa using hcs⟩
  obtain⟨a1,l1,p1,rfl⟩:=hs;have hs: ∃a len cap,c3= .slice a len cap:=by
   rcases open_ints Tryz.underlying38 Tryz.underlying3 (by kernel_rfl) h3 with⟨hcs,_⟩ | ⟨y,l,c,zs,hcs,_⟩
   ·exact⟨_,_,_,by simpa using hcs⟩
   ·exact⟨_,_,_,by simpa using hcs⟩
  obtain⟨a3,l3,p3,rfl⟩:=hs;have hs: ∃a len cap,c5= .slice a len cap:=by
   rcases open_ints Tryz.underlying39 Tryz.underlying5 (by kernel_rfl) h5 with⟨hcs,_⟩ | ⟨y,l,c,zs,hcs,_⟩
   ·exact⟨_,_,_,by simpa using hcs⟩
   ·exact⟨_,_,_,by simpa using hcs⟩
  obtain⟨a5,l5,p5,rfl⟩:=hs;obtain⟨es,rfl,he,hb,hle⟩:=open_ents h1;obtain⟨ss,rfl,hss,hfit,hsl⟩:=open_stay h3;obtain⟨bs,rfl,hbn,hbr,hbl⟩:=open_bytes h5;refine⟨⟨z,a1,p1,es,j,a3,p3,ss,s.data.toList,a5,p5,bs⟩,?_,⟨he,hss,hfit,hbr,hbn,hle,hb,hsl,hbl,?_⟩⟩
  ·simp [OpV.cells]
  ·unfold maxLen at hs4
   show s.data.toList.length≤_;rw[Array.length_toList];exact hs4
set_option maxRecDepth 100000 in
theorem open_ops10 {fuel:Nat} {a:Option Addr} {len cap:Nat} {x:DataW H×List MemPlace} (h:DataW.trod enc Tryz.prog w base (fun _=>true) held fuel 22 [.slice a len cap]=some x): ∃l:List OpV,l.length=len∧OpsIn w a l∧len≤9223372036854775807:=by
 rcases Go.Deep.open_slice Tryz.underlying22 h with⟨hcs,_⟩ | ⟨y,l,c,m,n,D,Pl,hcs,_,hl,hm,hmm,_,hx⟩
 ·simp at hcs
  obtain⟨rfl,rfl,rfl⟩:=hcs;exact⟨[],rfl,fun i hi=>absurd hi (by simp),by decide⟩
 ·simp at hcs
  obtain⟨rfl,rfl,rfl⟩:=hcs;simp only[if_true] at hmm;subst hmm;have each: ∀i,i<m→ ∃v:OpV,(∀k,k<6→w.cell? (y.add (i*6+k))=v.cells[k]?)∧OpOk w v:=fun i hi=>by
   obtain⟨cs',h1,h2⟩:=hx i hi;rw[cellsOp10] at h1;obtain⟨_,hlen,hcell⟩:=World.cells?_some h1;obtain⟨v,rfl,hv⟩:=open_op10 hlen h2;refine⟨v,fun k hk=>?_,hv⟩;have e:=hcell k (by omega);rw[Go.Deep.add_add] at e;rw[e]
  obtain⟨q,hq⟩:=Go.Deep.choose_lt each;have hlm:len≤m:=hl;refine⟨(List.range len).map q,by simp,fun i hi=>?_,by unfold maxLen at hm;omega⟩;have hil:i<len:=by simpa using hi
  obtain⟨h0,h1⟩:=hq i (by omega);have hz0:=(hq 0 (by omega)).1 0 (by decide);have hy:y=⟨y.block,y.off,none⟩:=spotN (v:= .int .i64 (q 0).kd) (by simpa [Addr.add,OpV.cells] using hz0);have hg:((List.range len).map q)[i]=q i:=by simp
  rw[hg];rw[hy] at h0;simp only[addN] at h0;refine⟨h1,y.block,y.off,congrArg some hy,?_,h0⟩;have h00:=h0 0 (by decide);exact World.block_lt_of_cell? w ⟨y.block,y.off+(i*6+0),none⟩ (u:= .int .i64 (q i).kd) (by rw[h00];rfl)
end
end Rl
end Go.Proofs.YtalfbcbnljhldaaGreatDoor
