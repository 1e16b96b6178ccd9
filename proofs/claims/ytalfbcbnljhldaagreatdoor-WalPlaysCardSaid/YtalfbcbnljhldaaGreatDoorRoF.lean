/-  -/
import Derived.Test.YtalfbcbnljhldaaGreatDoorMbg
namespace Go.Proofs.YtalfbcbnljhldaaGreatDoor
open Go.Lib (hid)
open Go.RowKit Go.Maps Go.Sort Dsk Rd Wl
namespace Rl
theorem RS.start {w:World} {B n g:Nat} {S:Nat→Prop} {M:Files} (hd:RM w B S g n M):RS (w.alloc (.cells #[.pointer (some ⟨g,0,none⟩),.slice none 0 0] 69)) B n w.heap.size g S (fun k=>k=w.heap.size) (fun _=>False) M []:=by
 have hb:Below w.heap.size w (w.alloc (.cells #[.pointer (some ⟨g,0,none⟩),.slice none 0 0] 69)):=(Below.refl _ _).alloc (Nat.le_refl _) _;have hS: ∀k,S k→k<w.heap.size:=RM.lt hd;refine⟨⟨rfl,⟨_,heap_alloc_new _ _,.inl ⟨rfl,rfl⟩⟩,fun s hs=>by cases hs⟩,hd.below hb,fun k hk=>Nat.lt_of_lt_of_le (hS k hk) hb.size,fun k hk=>?_,fun k hk=>hk.elim⟩;subst hk;exact⟨by simp,fun e=>Nat.lt_irrefl _ (hS _ e)⟩
theorem numR_zero {n:Name} (h: ¬0<numR n):numOf n=none:=by
 cases hq:numOf n with
 | none=>rfl
 | some k=>
  have h1:numR n=k:=by unfold numR;rw[hq];rfl
  have:=(name_num hq).2;omega
theorem removed' {M:Files} (nm:Name) {w:World} {B g n:Nat} {S:Nat→Prop} (h:RM w B S g n (upd (upd M nm (some ((M.at nm).chg ⟨false,[],0⟩))) nm (settled ((upd M nm (some ((M.at nm).chg ⟨false,[],0⟩))).at nm).now))):RM w B S g n (upd M nm none):=by
 rw[removed] at h;exact h
theorem chg_ok {M:Files} (hi:Wl.Inv M) (nm:Name) {v:Ver} (hv:v.ok):AllOk (upd M nm (some ((M.at nm).chg v)))∧Slim (upd M nm (some ((M.at nm).chg v))):=by
 refine⟨allok_upd (inv_ok hi) fun f hf=>?_,slim_upd (inv_slim hi) fun f hf=>?_⟩
 ·cases hf
  exact Fil.chg_ok (hi.at_ok nm) hv
 ·cases hf
  have:=(hi.at_size nm).2;simp [Fil.chg];omega
set_option maxRecDepth 1000000 in
set_option maxHeartbeats 16000000 in
theorem open_all {w:World} {B n g:Nat} {S:Nat→Prop} {M:Files} (hd:RM w B S g n M) (hi:Wl.Inv M) (hn:n≤500000) {ks:List Name} (hks:Here1 M ks) (hkl:ks.length≤64):
  Calls Tryz.prog 7 #[.pointer (some ⟨g,0,none⟩)] w fun e w'=>e= .returned (.pointer (some ⟨w.heap.size,0,none⟩))∧ ∃S' T' K' Ls,logOf Ls=Pz.logL (readGo (segsOf M (numsOf ks)) []).1∧RS w' B (n+64) w.heap.size g S' T' K' (openOf M ks) Ls∧Mv S (fun k=>k=w.heap.size) (fun _=>False) (w.alloc (.cells #[.pointer (some ⟨g,0,none⟩),.slice none 0 0] 69)) w' S' T' K':=by
 obtain⟨h,hh⟩: ∃h,h=w.heap.size:=⟨_,rfl⟩;obtain⟨w1,hw1⟩: ∃x,x=w.alloc (.cells #[.pointer (some ⟨g,0,none⟩),.slice none 0 0] 69):=⟨_,rfl⟩;have hr0:=RS.start hd;rw[←hw1,←hh] at hr0;rw[←hw1,←hh];have hnm:=rm_names hr0.disk (inv_ok hi) (inv_slim hi) (by omega) hks;obtain⟨N,hN⟩: ∃x,x=ks.length:=⟨_,rfl⟩;have HN:=hid hN;have HI:=hid hi;have HKS:=hid hks;have HR0:=hid hr0;have HNMS:=hid hnm;have HW1:=hid hw1;have HHH:=hid hh;have hN64:N≤64:=by omega
 have hNi:(N:Int)≤64:=by omega
 clear hd hi hks hkl hr0 hnm hN;go_enter Tryz.func7,Tryz.ntmps7
 go_wp2_with fail
 rw[←hh,←hw1];clear hw1 hh;refine HNMS.out.mono ?_;rintro e w2 ⟨v,rfl,hrow,hb⟩;obtain⟨oa,oc,rfl,hcell⟩:=ownsRow_cell hrow;rw[←HN.out];have HCELL:=hid hcell;have HROW:=hid hrow;have HB:=hid hb;have HR2:=hid (HR0.out.below hb);clear hcell hrow hb HNMS;go_wp2_with fail
 go_loopw [5,6] (fun v5 v6 wr=> ∃(j:Nat) (cut:Bool) (Sx Tx Kx:Nat→Prop) (done:List Sg) (Lx:List SV) (Ex:List Ent),v5= .bool cut∧v6= .int .i64 (j:Int)∧j≤N∧Hid (RS wr B (n+j) h g Sx Tx Kx (cutAll M done) Lx)∧Hid (Mv S (fun k=>k=h) (fun _=>False) w2 wr Sx Tx Kx)∧Hid (logOf Lx=Pz.logL done)∧Hid (GoAt M ks j done cut Ex)) (fun _ v6 _=>N - (intOf v6).toNat)
 case atStart=>exact⟨0,false,S,_,_,[],[],[],rfl,rfl,Nat.zero_le _,HR2,hid (Mv.refl _ _ _ _),hid rfl,hid (GoAt.start HI.out)⟩
 case round=>
  obtain⟨j,cut,Sx,Tx,Kx,done,Lx,Ex,rfl,rfl,hj,HRX,HMX,HLG,HGO⟩:=hrel;by_cases hlt:j<N
  ·have hjl:j<ks.length:=by rw[←HN.out];exact hlt
   obtain⟨nm,hnm⟩: ∃nm,nm=ks[j]:=⟨_,rfl⟩;obtain⟨b,rfl,hbl,hx,_⟩:=HCELL.out j (.string ⟨nm.toArray⟩) (by simp [strs,hjl,hnm]);have hb1:=(World.ownsRow.lt HROW.out b rfl).1;have hz1:=HB.out.size;have hhw:h<w1.heap.size:=by rw[HHH.out,HW1.out];simp
   have hnb: ¬(S b∨b=h):=fun e=>by
    rcases e with e | e
    ·have:=HR0.out.sS b e;omega
    ·omega
   have HST:=hid (fun(W:World) (Sy Ty Ky:Nat→Prop) (m:Mv S (fun k=>k=h) (fun _=>False) w2 W Sy Ty Ky)=>((World.cell?_of_block (w:=w2) (a:=⟨b,j,none⟩) (m.ap.block b hbl hnb)).trans hx:W.cell? ⟨b,j,none⟩=some (.string ⟨nm.toArray⟩)));have x2:=HST.out _ _ _ _ HMX.out;have dk:decide ((j:Int)<(N:Int))=true:=decide_eq_true (by omega);have dk2:decide (j<N)=true:=decide_eq_true hlt;have dk3:decide ((j:Int)<0)=false:=by simp
   have hk0:(0:Int)≤j:=by omega
   have hk1:(j:Int)≤64:=by omega
   have hk2:(j:Int)<(N:Int):=by omega
   have HNUM:=hid (fun W=>number_any nm W);obtain⟨r,hr⟩: ∃r,r=numR nm:=⟨_,rfl⟩;rw[←hr] at HNUM;have HNM:=hid hnm;have HRR:=hid hr;clear hnm hr hx hnb hhw;by_cases hr0:0<r
   ·have hnum:numOf nm=some r:=by rw[HRR.out];exact numR_pos.1 (by rw[←HRR.out];exact hr0)
    have hnj:numOf ks[j]=some r:=by rw[←HNM.out];exact hnum
    obtain⟨hne,hr1,hr2⟩:=name_num hnum;have HNJ:=hid hnj;have HNE:=hid hne;have HNML:=hid (show nm.length=12 by rw[hne];exact name_len r);have HTH:=hid (show((cutAll M done).at nm).now.there=true by rw[hne];exact HGO.out.there HKS.out hjl hnj);have dr:((r:Int) == 0)=false:=by rw[beq_eq_false_iff_ne];omega
    have d99:(r:Int)≤99999999:=by omega
    have d98:(0:Int)≤r:=by omega
    clear hnum hnj hne hr1 hr2 hr0;cases cut with
    | true=>
     go_wp2_with fail
     refine(HNUM.out wr).mono ?_;rintro e w4 ⟨rfl,rfl⟩;go_wp2_with fail
     refine(rm_remove HRX.out.disk (inv_ok HGO.out.inv) (inv_slim HGO.out.inv) (by omega) nm (by rw[HNML.out];decide) (by rw[HNML.out];decide) HTH.out).mono ?_;rintro e w5 ⟨rfl,hap,hrm⟩;obtain⟨r_w5,m_w5⟩:=HRX.out.disked (n':=n+j) hap hrm (fun _ h=>h) (RM.lt hrm);have HRw5:=hid r_w5;have HMw5:=hid (HMX.out.trans m_w5);have HOKw5:=hid (chg_ok HGO.out.inv nm (v:=⟨false,[],0⟩) ⟨Nat.le_refl _,by simp,fun x hx=>by cases hx⟩);clear r_w5 m_w5 hap hrm;have y_w6:=HST.out _ _ _ _ HMw5.out;go_wp2_with fail
     refine(rm_sync HRw5.out.disk HOKw5.out.1 HOKw5.out.2 (by omega) nm (by rw[HNML.out];decide) (by rw[HNML.out];decide) (by rw[upd_same];rfl)).mono ?_;rintro e w6 ⟨rfl,hap,hrm⟩;replace hrm:=removed' nm hrm;obtain⟨r_w6,m_w6⟩:=HRw5.out.disked (n':=n+j) hap hrm (fun _ h=>h) (RM.lt hrm);have HRw6:=hid r_w6;have HMw6:=hid (HMw5.out.trans m_w6);clear r_w6 m_w6 hap hrm y_w6;go_wp2_with fail
     go_roundw
     case rel=>
      obtain⟨hg1,hg2⟩:=HGO.out.gone hjl HNJ.out;refine⟨j+1,true,_,_,_,done++ [⟨r,[],0,[]⟩],Lx,Ex,rfl,by go_num,by omega,hid ?_,HMw6,hid ?_,hid hg1⟩
      ·rw[hg2,←HNE.out]
       exact HRw6.out.le (by omega)
      ·rw[Pz.logL_append,HLG.out]
       simp [Pz.logL]
     case measure=>simp [intOf];omega
    | false=>
     have HFA:=hid (show(cutAll M done).at nm=M.at (nameOf r) by rw[HNE.out];exact HGO.out.fresh_at HKS.out hjl HNJ.out);have hrd0:=rm_read HRX.out.disk (inv_ok HGO.out.inv) (inv_slim HGO.out.inv) (by omega) nm;rw[if_pos HTH.out,HTH.out,HFA.out] at hrd0;have hrng:=(Fil.now_ok (HI.out.at_ok (nameOf r))).2.2;have hsz:=(HI.out.at_size (nameOf r)).1;have HRDD:=hid hrd0;have HGR:=hid (fun(E' recs:List Ent) (b:Bool)=>HGO.out.read (E':=E') (recs:=recs) (b:=b) HKS.out HI.out hjl HNJ.out);clear hrd0;obtain⟨bs,hbs⟩: ∃x,x=(M.at (nameOf r)).now.bs:=⟨_,rfl⟩;rw[←hbs] at HRDD HGR hrng hsz;have HRNG:=hid hrng;have HBS:=hid hbs;clear hrng hbs;go_wp2_with fail
     refine(HNUM.out wr).mono ?_;rintro e w4 ⟨rfl,rfl⟩;go_wp2_with fail
     refine HRDD.out.mono ?_;rintro e w5 ⟨v,rfl,hrow5,hb5⟩;obtain⟨ba,bc,rfl,hrd5,hle5,hcm5⟩:=hrow5.reads HRNG.out (by omega);have HSCN:=hid (refScan_any ba bs.length bc bs w5 rfl hrd5 (by omega) hle5 hcm5);have HB5:=hid hb5;obtain⟨bl,hbl9⟩: ∃x,x=bs.length:=⟨_,rfl⟩;rw[←hbl9] at HSCN hsz;rw[←hbl9];have HBL:=hid hbl9;clear hrow5 hrd5 hle5 hcm5 hb5 HRDD hbl9;go_wp2_with fail
     refine HSCN.out.mono ?_;rintro e w6 ⟨xs,sv,good,rfl,hsc⟩;have hb6:Below wr.heap.size wr w6:=HB5.out.trans (hsc.below.mono HB5.out.size);have HR6:=hid (HRX.out.below hb6);have HM6:=hid (HMX.out.trans (Mv.of_below hb6));obtain⟨xa,xc,rfl,hcell9⟩:=ownsRow_cell hsc.row;have HXC:=hid hcell9;have HSC:=hid hsc;have hgood:=(hsc.scans.le HRNG.out);have HGD:=hid hgood.1;obtain⟨zss,hzss⟩: ∃x,x=xs.map Rec.zs:=⟨_,rfl⟩;have hxl:xs.length≤20000:=by
      have h1:=hgood.2;have h2:=hgood.1;rw[List.length_map] at h1;have:=HBL.out;omega
     obtain⟨xn,hxn⟩: ∃x,x=xs.length:=⟨_,rfl⟩;rw[←hxn] at hxl ⊢;have HXN:=hid hxn;have HZS:=hid hzss;have hg9:good≤20000:=by have:=hgood.1;have:=HBL.out;omega
     clear hsc hcell9 hgood hb6 HB5 HSCN hzss hxn;have y6:=HST.out _ _ _ _ HM6.out;go_wp2_with fail
     refine(HNUM.out w6).mono ?_;rintro e w4 ⟨rfl,rfl⟩;have dgb:((good:Int) == (bl:Int))=decide (good=bl):=by
      by_cases e:good=bl
      ·rw[decide_eq_true e];simp [e]
      ·rw[decide_eq_false e,beq_eq_false_iff_ne];omega
     have d97:(good:Int)≤20000:=by omega
     have d96:(bl:Int)≤20000:=by omega
     have d95:(xn:Int)≤20000:=by omega
     go_wp2_with fail
     have HSM:=hid (HGO.out.small HI.out (by rw[←HN.out];exact hN64) HLG.out);obtain⟨sb,hsb⟩: ∃x,x=w6.heap.size:=⟨_,rfl⟩;obtain⟨w7,hw7⟩: ∃x,x=w6.alloc (.cells #[.int .i64 (r:Int),.slice none 0 0] 79):=⟨_,rfl⟩;have HIN0:=hid (show Inn w6 w7 sb r (.slice none 0 0) [] [] (.slice none 0 0) by
      rw[hw7,hsb];exact⟨(Below.refl _ _).alloc (Nat.le_refl _) _,heap_alloc_new _ _,Nat.le_refl _,World.ownsRow_nil _ _ _ _,(fun p hp=>by cases hp),World.ownsRow_nil _ _ _ _,fun p hp=>by cases hp⟩)
     rw[←hsb,←hw7];clear hsb hw7;have HSCS:=hid (show Frame.Scans bs zss good by rw[HZS.out];exact HSC.out.scans);go_loopw [12,13,14] (fun u12 u13 v14 wr=> ∃(k:Nat) (v:Value) (ps:List EV) (E':List Ent),u13= .bool (decide (good=bl))∧v14= .int .i64 (k:Int)∧k≤xn∧Hid (Inn w6 wr sb r v ps (flatE (ps.map Prod.fst)) u12)∧Hid (InM bs Ex zss good k (ps.map Prod.fst) E')) (fun _ _ v14 _=>xn - (intOf v14).toNat)
     case atStart=>exact⟨0,_,[],Ex,rfl,rfl,Nat.zero_le _,HIN0,hid (InM.start HSCS.out)⟩
     case round=>
      obtain⟨k,v,ps,E',rfl,rfl,hk,HIN,HIM⟩:=hrel;obtain⟨va,vc,hvv,hvn⟩:=slice_shape HIN.out.row;subst hvv;obtain⟨pl,hpl⟩: ∃x,x=ps.length:=⟨_,rfl⟩;rw[←hpl] at HIN hvn;have hpl23:pl≤2300:=by
       have h1:=(flatE_len HIM.out.ok).1;have h2:=HIM.out.le;rw[List.length_map] at h1;have:=HBL.out;omega
      have dpl:(pl:Int)≤2300:=by omega
      have dpl0:(0:Int)≤pl:=by omega
      have HPL:=hid hpl;have HVN:=hid hvn;clear hpl hvn;by_cases hkl:k<xn
      ·have hkx:k<xs.length:=by rw[←HXN.out];exact hkl
       obtain⟨b9,rfl,hbl9,hx9,_⟩:=HXC.out k (xs[k].val) (by simp [hkx]);have x9:=stays' HIN.out.bel hx9;have hkz:k<zss.length:=by rw[HZS.out,List.length_map];exact hkx
       have hzk:zss[k]=xs[k].zs:=by simp [HZS.out]
       obtain⟨m9,hm9,-⟩:=HIM.out.head hkz;obtain⟨rx,hrx⟩: ∃x,x=xs[k]:=⟨_,rfl⟩;rw[←hrx] at x9 hzk;have hmem:rx∈xs:=by rw[hrx];exact List.getElem_mem hkx
       have hzl:rx.zs.length≤4096:=by
        have:=(Frame.first_is (fun x hx=>HRNG.out x (List.mem_of_mem_drop hx)) hm9).1;rw[hzk] at this;exact this
       have HHR:=hid (fun W (hW:Below w6.heap.size w6 W)=>(HSC.out.here rx hmem).1.reads.below hW);have HPR:=hid (refParse2_any (some ⟨rx.g,0,none⟩) rx.zs.length rx.c rx.zs wr rfl (HHR.out _ HIN.out.bel) (by omega) (HSC.out.here rx hmem).2.2);have HKZ:=hid hkz;have HZK:=hid hzk;have HX9:=hid (fun W (hW:Below w6.heap.size w6 W)=>(stays' hW hx9:W.cell? ⟨b9,k,none⟩=some xs[k].val));rw[←hrx] at HX9;have HZL:=hid hzl;have HRXE:=hid hrx;obtain⟨zl,hzl9⟩: ∃x,x=rx.zs.length:=⟨_,rfl⟩;have x9':wr.cell? ⟨b9,k,none⟩=some (.slice (some ⟨rx.g,0,none⟩) zl rx.c):=by rw[hzl9];exact x9
       rw[←hzl9] at HPR hzl;have HZL9:=hid hzl9;have e1:decide ((k:Int)<(xn:Int))=true:=decide_eq_true (by omega);have e2:decide (k<xn)=true:=decide_eq_true hkl;have e3:decide ((k:Int)<0)=false:=by simp
       have e4:(0:Int)≤k:=by omega
       have e5:(k:Int)≤20000:=by omega
       have e6:(k:Int)<(xn:Int):=by omega
       have e7:(zl:Int)≤4096:=by omega
       clear hx9 x9 hbl9 hm9 hmem hzl9 hzk hrx;go_wp2_with fail
       refine HPR.out.mono ?_;intro e w8 ht;clear HPR;cases hpz:parseOf rx.zs with
       | none=>
        rw[hpz] at ht;obtain⟨rfl,hb8⟩:=ht;have HPZ:=hid hpz;clear hpz;have hal8:Below w8.heap.size w8 (w8.alloc (.cells #[.int .u64 0,.int .u64 0,.slice none 0 0] 55)):=(Below.refl _ _).alloc (Nat.le_refl _) _;have HI8:=hid ((HIN.out.below hb8).below hal8);have HEB:=hid (heap_alloc_new w8 (.cells #[.int .u64 0,.int .u64 0,.slice none 0 0] 55));clear hb8 hal8;go_upto_region 20 with fail
        obtain⟨eb,heb⟩: ∃x,x=w8.heap.size:=⟨_,rfl⟩;obtain⟨wc,hwc⟩: ∃x,x=w8.alloc (.cells #[.int .u64 0,.int .u64 0,.slice none 0 0] 55):=⟨_,rfl⟩;rw[←hwc] at HI8 HEB;rw[←heb] at HEB;try rw[←heb]
        try rw[←hwc]
        clear heb hwc;have HLGR:=hid (HR6.out.below HI8.out.bel).log.logR;have HROWP:=hid (⟨(RowP.reads HI8.out.row).1,HPL.out,HVN.out,HI8.out.fine,by have:=HPL.out;omega⟩:ReadsP wc va ps∧pl=ps.length∧(va=none→pl=0∧vc=0)∧Fine ps∧ps.length≤200000);have HFP:=hid (show Fine [((⟨0,0,[]⟩,.slice none 0 0):EV)] from(fun p hp=>by(have e:p=((⟨0,0,[]⟩,.slice none 0 0):EV):=by simpa using hp);rw[e];exact⟨by decide,by decide,none,0,0,rfl⟩));refine row_wp _ _ _ _ _ _ _ _ _ _ _ _ _ _ _ _ _ _ _ _ _ _ _ _ _ _ _ _ _ _ _ _ _ _ _ _ _ _ _ _ _ _ _ _ _ _ _ _ _ _ _ _ _ _ _ _ _ _ _ _ _ _ _ _ _ _ _ _ _ _ _ _ _ _ _ _ _ _ _ _ _ _ _ _ _ _ _ _ _ _ _ _ _ _ _ _ _ _ _ _ _ _ _ _ _ _ _ _ _ _ _ _ _ _ _ _ _ _ _ _ _ _ _ _ _ _ _ _ _ _ _ _ _ _ _ _ _ _ _ _ _ _ _ _ _ _ _ _ _ _ _ _ _ _ _ _ _ _ _ _ _ _ _ _ _ _ _ _ _ _ _ _ _ _ (sb:=sb) (eb:=eb) (L:=Lx) (sa:=va) (sl:=pl) (sc:=vc) (px:=0) (pt:=0) (pb:= []) (pa:=none) (pn:=0) (pc:=0) (l:=ps) HLGR.out (by have:=HSM.out.2;omega) (by have:=HSM.out.1;omega) ⟨by rw[cell_of_row _ _ _ _ _ _ HI8.out.box];rfl,by rw[cell_of_row _ _ _ _ _ _ HEB.out];rfl,by rw[cell_of_row _ _ _ _ _ _ HEB.out];rfl,by rw[cell_of_row _ _ _ _ _ _ HEB.out];rfl⟩ HROWP.out HFP.out (fun _ _ _ _ _ h=>h) ?_;intro y17 y89 y90 y91 y92 y93 y94 y95 y96 y97 y98 y99 y100 w9 kk l3 hri hb9;have HRI:=hid hri;have HI9:=hid (HI8.out.below hb9);have HEB9:=hid ((hb9.block eb (lt_of_block HEB.out)).trans HEB.out);clear hri hb9 HLGR HROWP;go_upto_region 21 with fail
        refine bad_wp _ _ _ _ _ _ _ _ _ _ _ _ _ _ _ _ _ _ _ _ _ _ _ _ _ _ _ _ _ _ _ _ _ _ _ _ _ _ _ _ _ _ _ _ _ _ _ _ _ _ _ _ _ _ _ _ _ _ _ _ _ _ _ _ _ _ _ _ _ _ _ _ _ _ _ _ _ _ _ _ _ _ _ _ _ _ _ _ _ _ _ _ _ _ _ _ _ _ _ _ _ _ _ _ _ _ _ _ _ _ _ _ _ _ _ _ _ _ _ _ _ _ _ _ _ _ _ _ _ _ _ _ _ _ _ _ _ _ _ _ _ _ _ _ _ _ _ _ _ _ _ _ _ _ _ _ _ _ _ _ _ _ _ _ _ _ _ _ _ _ _ _ _ _ (fun _ _ _ _ _ h=>h) ?_;intro y101 y102 y103 y104 y105 y106 y107 y108 y109 y110 y111 y112 y113;obtain⟨wt,hwt⟩: ∃x,x=w9.drew:=⟨_,rfl⟩;have HIT:=hid (show Inn w6 wt sb r (.slice va pl vc) ps (flatE (ps.map Prod.fst)) u12 by rw[hwt];exact HI9.out.below ((Below.refl _ _).drew));rw[←hwt];clear hwt;have HWK:=hid (by have h1:=HIM.out.bad HKZ.out (by rw[HZK.out];exact HPZ.out);exact h1:walk (bs.length+1) bs 0 [] Ex=((flatE (ps.map Prod.fst)).length,ps.map Prod.fst,E',false));have HLT:=hid (show(flatE (ps.map Prod.fst)).length<bs.length by obtain⟨m,_,h2,_⟩:=HIM.out.head HKZ.out;omega);have cb0:wt.cell? ⟨sb,0,none⟩=some (.int .i64 (r:Int)):=by rw[cell_of_row _ _ _ _ _ _ HIT.out.box];rfl
        have cb1:wt.cell? ⟨sb,1,none⟩=some (.slice va pl vc):=by rw[cell_of_row _ _ _ _ _ _ HIT.out.box];rfl
        have HRT:=hid (HR6.out.below HIT.out.bel);have HMT:=hid (HM6.out.trans (Mv.of_below HIT.out.bel));by_cases hpl0:0<pl
        ·have dl:decide ((0:Int)<(pl:Int))=true:=decide_eq_true (by omega)
         have hne:ps≠ []:=fun e=>by have h1:=HPL.out;rw[e] at h1;simp at h1;omega
         have HPNE:=hid hne;clear hne;obtain⟨rw1,mw1⟩:=HR6.out.wide HIT.out.bel HM6.out;have hsk:=HIT.out.segK (K:=Kx);have HRW:=hid rw1;have HMW:=hid mw1;have HSK:=hid hsk;have hsbT: ¬Tx sb:=fun e=>by have h1:=(HR6.out.sT sb e).1;have h2:=HIT.out.hsb;omega
         have HSBT:=hid hsbT;clear rw1 mw1 hsk hsbT;go_upto_region 27 with fail
         refine push_rs _ _ _ _ _ _ _ _ _ _ _ _ _ _ _ _ _ _ _ _ _ _ _ _ _ _ _ _ _ _ _ _ _ _ _ _ _ _ _ _ _ _ _ _ _ _ _ _ _ _ _ _ _ _ _ _ _ _ _ _ _ _ _ _ _ _ _ _ _ _ _ _ _ _ _ _ _ _ _ _ _ _ _ _ _ _ _ _ _ _ _ _ _ _ _ _ _ _ _ _ _ _ _ _ _ _ _ _ _ _ _ _ _ _ _ _ _ _ _ _ _ _ _ _ _ _ _ _ _ _ _ _ _ _ _ _ _ _ _ _ _ _ _ _ _ _ _ _ _ _ _ _ _ _ _ _ _ _ _ _ _ _ _ _ _ _ _ _ _ _ _ _ _ _ _ (sn:=r) (xa:=va) (xn:=pl) (xc:=vc) (xl:=ps) HRW.out (by have:=HSM.out.1;omega) HSK.out cb0 cb1 HSBT.out (fun _ _ _ _ _ h=>h) ?_;intro y136 y137 y138 y139 y140 y141 y142 y143 y144 y145 wp Tp rp mp;have HRP:=hid rp;have HMP:=hid (HMW.out.trans mp);have hsbK:Kx sb∨(w6.heap.size≤sb∧sb<wt.heap.size):= .inr ⟨HIT.out.hsb,lt_of_block HIT.out.box⟩;have cb2:wp.cell? ⟨sb,1,none⟩=some (.slice va pl vc):=(World.cell?_of_block (a:=⟨sb,1,none⟩) (mp.ap.block sb (lt_of_block HIT.out.box) fun e=>e.elim (HRW.out.sK sb hsbK).2.1 HSBT.out)).trans cb1;have HKV:=hid (fun k (hk:w6.heap.size≤k∧k<wt.heap.size)=>(⟨mp.ap.block k hk.2 fun e=>e.elim (HRW.out.sK k (.inr hk)).2.1 fun e2=>(HRW.out.sK k (.inr hk)).2.2 e2,fun e=>(HRP.out.sK k (.inr hk)).2.1 e⟩:wp.heap[k]?=wt.heap[k]?∧ ¬Sx k));have HSZP:=hid mp.ap.size;clear rp mp hsbK cb0 cb1;obtain⟨hga,hgb⟩:=HGR.out E' (ps.map Prod.fst) false HWK.out;have hfl20:(flatE (ps.map Prod.fst)).length≤20000:=by have:=HLT.out;have:=HBL.out;omega
         have hkeep:=HIT.out.keep;obtain⟨ka,kc,hkv,hkr,hkc,hkm⟩:=hkeep.reads (flatE_range hgb.ok) (by omega);have hknc:ka=none→kc=0:=by
          obtain⟨ka2,kc2,h1,h2⟩:=slice_shape hkeep;rw[hkv] at h1;cases h1;exact fun e=>(h2 e).2
         subst hkv;have hown:=World.ownsRow.lt hkeep;have HKR:=hid (⟨reads_keep hkr HSZP.out (fun x e hn=>by cases e;exact(HKV.out _ (hown _ rfl)).1),(fun x e hn=>by cases e;exact(HKV.out _ (hown _ rfl)).2)⟩:ReadsS wp Sx ka (flatE (ps.map Prod.fst)));have HGA:=hid hga;have HGB:=hid hgb;have HKNC:=hid hknc;obtain⟨ks1,hk1,-⟩:=HGO.out.inv.fin;have HK1:=hid hk1;have HOKV:=hid (chg_ok HGO.out.inv nm (v:=⟨true,flatE (ps.map Prod.fst),(flatE (ps.map Prod.fst)).length⟩) ⟨Nat.le_refl _,by dsimp only;omega,flatE_range hgb.ok⟩);have HREPL:=hid (rm_replace HRP.out.disk (inv_ok HGO.out.inv) (inv_slim HGO.out.inv) (by omega) nm (by rw[HNML.out];decide) (by rw[HNML.out];decide) ka kc (flatE (ps.map Prod.fst)) HKR.out HKNC.out (by omega) HK1.out (.inl HTH.out));have y_p:=HST.out _ _ _ _ HMP.out;clear hga hgb hkeep hkr hkc hkm hknc hown hk1;go_wp2_with fail
         refine HREPL.out.mono ?_;rintro e wq ⟨rfl,hap,hrm⟩;obtain⟨r_q,m_q⟩:=HRP.out.disked (n':=n+j+1) hap hrm (fun _ h=>h) (RM.lt hrm);have HRQ:=hid r_q;have HMQ:=hid (HMP.out.trans m_q);clear r_q m_q hap hrm y_p HREPL;have y_wb:=HST.out _ _ _ _ HMQ.out;go_wp2_with fail
         refine(rm_sync HRQ.out.disk HOKV.out.1 HOKV.out.2 (by omega) nm (by rw[HNML.out];decide) (by rw[HNML.out];decide) (by rw[upd_same];rfl)).mono ?_;rintro e wb ⟨rfl,hap,hrm⟩;obtain⟨r_wb,m_wb⟩:=HRQ.out.disked (n':=n+j+1) hap hrm (fun _ h=>h) (RM.lt hrm);have HRwb:=hid r_wb;have HMwb:=hid (HMQ.out.trans m_wb);clear r_wb m_wb hap hrm y_wb;go_wp2_with fail
         go_roundw
         case rel=>
          refine⟨j+1,true,_,_,_,done++ [⟨r,bs,(flatE (ps.map Prod.fst)).length,ps.map Prod.fst⟩],Lx++ [⟨r,.slice va pl vc,ps⟩],E',rfl,by go_num,by omega,hid ?_,HMwb,hid ?_,hid (by simpa using HGA.out)⟩
          ·have hmn:ps.map Prod.fst≠ []:=by simpa using HPNE.out
           have hc:cutAll M (done++ [⟨r,bs,(flatE (ps.map Prod.fst)).length,ps.map Prod.fst⟩])=upd (upd (cutAll M done) nm (some (((cutAll M done).at nm).chg ⟨true,flatE (ps.map Prod.fst),(flatE (ps.map Prod.fst)).length⟩))) nm (settled ((upd (cutAll M done) nm (some (((cutAll M done).at nm).chg ⟨true,flatE (ps.map Prod.fst),(flatE (ps.map Prod.fst)).length⟩))).at nm).now):=by
            rw[cutAll_snoc];have hp0:(flatE (ps.map Prod.fst)).length≠0:=by
             have h1:=(flatE_len (l:=ps.map Prod.fst) HGB.out.ok).1;have h2:0<(ps.map Prod.fst).length:=List.length_pos_iff.2 hmn;omega
            have hby:=HGB.out.bytes;dsimp only at hby;unfold cutSeg;dsimp only;rw[if_neg hp0,if_pos HLT.out,hby,upd_at,chg_now',upd_upd,HNE.out];rfl
           rw[hc];exact HRwb.out.le (by omega)
          ·rw[Pz.logL_append,logOf_append,HLG.out]
           have h1:Pz.logL [⟨r,bs,(flatE (ps.map Prod.fst)).length,ps.map Prod.fst⟩]= [(r,ps.map Prod.fst)]:=by simp [Pz.logL,HPNE.out]
           rw[h1];rfl
         case measure=>simp [intOf];omega
        ·have hps:ps= []:=List.eq_nil_of_length_eq_zero (by have:=HPL.out;omega)
         subst hps;have hpl0:pl=0:=by omega
         subst hpl0;have dl:decide ((0:Int)<((0:Nat):Int))=false:=by decide
         have y_t:=HST.out _ _ _ _ HMT.out;go_wp2_with fail
         refine(rm_remove HRT.out.disk (inv_ok HGO.out.inv) (inv_slim HGO.out.inv) (by omega) nm (by rw[HNML.out];decide) (by rw[HNML.out];decide) HTH.out).mono ?_;rintro e wa ⟨rfl,hap,hrm⟩;obtain⟨r_wa,m_wa⟩:=HRT.out.disked (n':=n+j) hap hrm (fun _ h=>h) (RM.lt hrm);have HRwa:=hid r_wa;have HMwa:=hid (HMT.out.trans m_wa);have HOKwa:=hid (chg_ok HGO.out.inv nm (v:=⟨false,[],0⟩) ⟨Nat.le_refl _,by simp,fun x hx=>by cases hx⟩);clear r_wa m_wa hap hrm;have y_wb:=HST.out _ _ _ _ HMwa.out;go_wp2_with fail
         refine(rm_sync HRwa.out.disk HOKwa.out.1 HOKwa.out.2 (by omega) nm (by rw[HNML.out];decide) (by rw[HNML.out];decide) (by rw[upd_same];rfl)).mono ?_;rintro e wb ⟨rfl,hap,hrm⟩;replace hrm:=removed' nm hrm;obtain⟨r_wb,m_wb⟩:=HRwa.out.disked (n':=n+j) hap hrm (fun _ h=>h) (RM.lt hrm);have HRwb:=hid r_wb;have HMwb:=hid (HMwa.out.trans m_wb);clear r_wb m_wb hap hrm y_wb;go_wp2_with fail
         go_roundw
         case rel=>
          obtain⟨hga,hgb⟩:=HGR.out E' [] false HWK.out;refine⟨j+1,true,_,_,_,done++ [⟨r,bs,(flatE ([]:List Ent)).length,[]⟩],Lx,E',rfl,by go_num,by omega,hid ?_,HMwb,hid ?_,hid (by simpa using hga)⟩
          ·have hc:cutAll M (done++ [⟨r,bs,(flatE ([]:List Ent)).length,[]⟩])=upd (cutAll M done) nm none:=by rw[cutAll_snoc,HNE.out];exact if_pos rfl
           rw[hc];exact HRwb.out.le (by omega)
          ·rw[Pz.logL_append,HLG.out]
           simp [Pz.logL]
         case measure=>simp [intOf];omega
       | some en=>
        rw[hpz] at ht;obtain⟨hb8,ea,ec,rfl,hbody⟩:=ht;have HPZ:=hid hpz;have HBO:=hid (HIN.out.bodyR hbody);have HEOK:=hid (show en.ok from(parse_is (HHR.out _ HIN.out.bel).hr hpz).1);have hb80:=hb8;have HBO8:=hid hb80;clear hb80;clear hpz hbody;have hal8:Below w8.heap.size w8 (w8.alloc (.cells #[.int .u64 (en.ix:Int),.int .u64 (en.term:Int),.slice ea en.body.length ec] 55)):=(Below.refl _ _).alloc (Nat.le_refl _) _;have HI8:=hid ((HIN.out.below hb8).below hal8);have HBOC:=hid (HBO.out.below hal8);have HEB:=hid (heap_alloc_new w8 (.cells #[.int .u64 (en.ix:Int),.int .u64 (en.term:Int),.slice ea en.body.length ec] 55));clear hb8 hal8;go_upto_region 20 with fail
        obtain⟨eb,heb⟩: ∃x,x=w8.heap.size:=⟨_,rfl⟩;obtain⟨wc,hwc⟩: ∃x,x=w8.alloc (.cells #[.int .u64 (en.ix:Int),.int .u64 (en.term:Int),.slice ea en.body.length ec] 55):=⟨_,rfl⟩;rw[←hwc] at HI8 HEB HBOC;rw[←heb] at HEB;try rw[←heb]
        try rw[←hwc]
        clear heb hwc;have HLGR:=hid (HR6.out.below HI8.out.bel).log.logR;have HROWP:=hid (⟨(RowP.reads HI8.out.row).1,HPL.out,HVN.out,HI8.out.fine,by have:=HPL.out;omega⟩:ReadsP wc va ps∧pl=ps.length∧(va=none→pl=0∧vc=0)∧Fine ps∧ps.length≤200000);have HFP:=hid (show Fine [((⟨en.ix,en.term,en.body⟩,.slice ea en.body.length ec):EV)] from(fun p hp=>by(have e:p=((⟨en.ix,en.term,en.body⟩,.slice ea en.body.length ec):EV):=by simpa using hp);rw[e];exact⟨HEOK.out.2.1,HEOK.out.2.2.1,ea,en.body.length,ec,rfl⟩));refine row_wp _ _ _ _ _ _ _ _ _ _ _ _ _ _ _ _ _ _ _ _ _ _ _ _ _ _ _ _ _ _ _ _ _ _ _ _ _ _ _ _ _ _ _ _ _ _ _ _ _ _ _ _ _ _ _ _ _ _ _ _ _ _ _ _ _ _ _ _ _ _ _ _ _ _ _ _ _ _ _ _ _ _ _ _ _ _ _ _ _ _ _ _ _ _ _ _ _ _ _ _ _ _ _ _ _ _ _ _ _ _ _ _ _ _ _ _ _ _ _ _ _ _ _ _ _ _ _ _ _ _ _ _ _ _ _ _ _ _ _ _ _ _ _ _ _ _ _ _ _ _ _ _ _ _ _ _ _ _ _ _ _ _ _ _ _ _ _ _ _ _ _ _ _ _ (sb:=sb) (eb:=eb) (L:=Lx) (sa:=va) (sl:=pl) (sc:=vc) (px:=en.ix) (pt:=en.term) (pb:=en.body) (pa:=ea) (pn:=en.body.length) (pc:=ec) (l:=ps) HLGR.out (by have:=HSM.out.2;omega) (by have:=HSM.out.1;omega) ⟨by rw[cell_of_row _ _ _ _ _ _ HI8.out.box];rfl,by rw[cell_of_row _ _ _ _ _ _ HEB.out];rfl,by rw[cell_of_row _ _ _ _ _ _ HEB.out];rfl,by rw[cell_of_row _ _ _ _ _ _ HEB.out];rfl⟩ HROWP.out HFP.out (fun _ _ _ _ _ h=>h) ?_;intro y17 y89 y90 y91 y92 y93 y94 y95 y96 y97 y98 y99 y100 w9 kk l3 hri hb9;have HRI:=hid hri;have HI9:=hid (HI8.out.below hb9);have HBO9:=hid (HBOC.out.below hb9);have HEB9:=hid ((hb9.block eb (lt_of_block HEB.out)).trans HEB.out);clear hri hb9 HLGR HROWP;go_upto_region 21 with fail
        refine may_wp _ _ _ _ _ _ _ _ _ _ _ _ _ _ _ _ _ _ _ _ _ _ _ _ _ _ _ _ _ _ _ _ _ _ _ _ _ _ _ _ _ _ _ _ _ _ _ _ _ _ _ _ _ _ _ _ _ _ _ _ _ _ _ _ _ _ _ _ _ _ _ _ _ _ _ _ _ _ _ _ _ _ _ _ _ _ _ _ _ _ _ _ _ _ _ _ _ _ _ _ _ _ _ _ _ _ _ _ _ _ _ _ _ _ _ _ _ _ _ _ _ _ _ _ _ _ _ _ _ _ _ _ _ _ _ _ _ _ _ _ _ _ _ _ _ _ _ _ _ _ _ _ _ _ _ _ _ _ _ _ _ _ _ _ _ _ _ _ _ _ _ _ _ (sb:=sb) (L:=Lx) (sa:=va) (sl:=pl) (sc:=vc) (kk:=kk) (HR6.out.below HI9.out.bel).log.logR (by have:=HSM.out.2;omega) (by have:=HSM.out.1;omega) (by rw[cell_of_row _ _ _ _ _ _ HI9.out.box];rfl) (by omega) (fun _ _ _ _ _ h=>h) ?_;intro y101 y102 y103 y104 y105 y106 y107 y108 y109 y110 y111 y112 y113 wt hbt;have HIT:=hid (HI9.out.below hbt);have HBOT:=hid (HBO9.out.below hbt);have HEBT:=hid ((hbt.block eb (lt_of_block HEB9.out)).trans HEB9.out);clear hbt;obtain⟨R,hR⟩: ∃x,x=(recsOf Lx).length:=⟨_,rfl⟩;rw[←hR];have HRR9:=hid hR;clear hR;have HCH:=hid (show chain [] ((recsOf Lx++ps++ [((en,.slice ea en.body.length ec):EV)]).map Prod.fst)=Wl.follow E' en by
         have h1:=HGO.out.ch;rw[←HLG.out,logOf_flat] at h1;rw[List.map_append,List.map_append,List.append_assoc,chain_append _ _ _ h1];exact chain_snoc en HIM.out.ch)
        cases hfo:Wl.follow E' en with
        | none=>
         have hne:((kk:Int) != (R:Int)+(pl:Int)+1)=true:=by
          have h1:=HRI.out.none (by rw[HCH.out];exact hfo);rw[List.length_append,List.length_append,←HRR9.out,←HPL.out] at h1;have h2:(kk:Int)≠(R:Int)+(pl:Int)+1:=fun e=>h1 (by simp;omega);simpa using h2
         have HFO:=hid hfo;clear hfo;have HWK:=hid (by have h1:=HIM.out.stop HKZ.out (by rw[HZK.out];exact HPZ.out) HFO.out;exact h1:walk (bs.length+1) bs 0 [] Ex=((flatE (ps.map Prod.fst)).length,ps.map Prod.fst,E',false));have HLT:=hid (show(flatE (ps.map Prod.fst)).length<bs.length by obtain⟨m,_,h2,_⟩:=HIM.out.head HKZ.out;omega);have cb0:wt.cell? ⟨sb,0,none⟩=some (.int .i64 (r:Int)):=by rw[cell_of_row _ _ _ _ _ _ HIT.out.box];rfl
         have cb1:wt.cell? ⟨sb,1,none⟩=some (.slice va pl vc):=by rw[cell_of_row _ _ _ _ _ _ HIT.out.box];rfl
         have HRT:=hid (HR6.out.below HIT.out.bel);have HMT:=hid (HM6.out.trans (Mv.of_below HIT.out.bel));by_cases hpl0:0<pl
         ·have dl:decide ((0:Int)<(pl:Int))=true:=decide_eq_true (by omega)
          have hne:ps≠ []:=fun e=>by have h1:=HPL.out;rw[e] at h1;simp at h1;omega
          have HPNE:=hid hne;clear hne;obtain⟨rw1,mw1⟩:=HR6.out.wide HIT.out.bel HM6.out;have hsk:=HIT.out.segK (K:=Kx);have HRW:=hid rw1;have HMW:=hid mw1;have HSK:=hid hsk;have hsbT: ¬Tx sb:=fun e=>by have h1:=(HR6.out.sT sb e).1;have h2:=HIT.out.hsb;omega
          have HSBT:=hid hsbT;clear rw1 mw1 hsk hsbT;go_upto_region 27 with fail
          refine push_rs _ _ _ _ _ _ _ _ _ _ _ _ _ _ _ _ _ _ _ _ _ _ _ _ _ _ _ _ _ _ _ _ _ _ _ _ _ _ _ _ _ _ _ _ _ _ _ _ _ _ _ _ _ _ _ _ _ _ _ _ _ _ _ _ _ _ _ _ _ _ _ _ _ _ _ _ _ _ _ _ _ _ _ _ _ _ _ _ _ _ _ _ _ _ _ _ _ _ _ _ _ _ _ _ _ _ _ _ _ _ _ _ _ _ _ _ _ _ _ _ _ _ _ _ _ _ _ _ _ _ _ _ _ _ _ _ _ _ _ _ _ _ _ _ _ _ _ _ _ _ _ _ _ _ _ _ _ _ _ _ _ _ _ _ _ _ _ _ _ _ _ _ _ _ _ (sn:=r) (xa:=va) (xn:=pl) (xc:=vc) (xl:=ps) HRW.out (by have:=HSM.out.1;omega) HSK.out cb0 cb1 HSBT.out (fun _ _ _ _ _ h=>h) ?_;intro y136 y137 y138 y139 y140 y141 y142 y143 y144 y145 wp Tp rp mp;have HRP:=hid rp;have HMP:=hid (HMW.out.trans mp);have hsbK:Kx sb∨(w6.heap.size≤sb∧sb<wt.heap.size):= .inr ⟨HIT.out.hsb,lt_of_block HIT.out.box⟩;have cb2:wp.cell? ⟨sb,1,none⟩=some (.slice va pl vc):=(World.cell?_of_block (a:=⟨sb,1,none⟩) (mp.ap.block sb (lt_of_block HIT.out.box) fun e=>e.elim (HRW.out.sK sb hsbK).2.1 HSBT.out)).trans cb1;have HKV:=hid (fun k (hk:w6.heap.size≤k∧k<wt.heap.size)=>(⟨mp.ap.block k hk.2 fun e=>e.elim (HRW.out.sK k (.inr hk)).2.1 fun e2=>(HRW.out.sK k (.inr hk)).2.2 e2,fun e=>(HRP.out.sK k (.inr hk)).2.1 e⟩:wp.heap[k]?=wt.heap[k]?∧ ¬Sx k));have HSZP:=hid mp.ap.size;clear rp mp hsbK cb0 cb1;obtain⟨hga,hgb⟩:=HGR.out E' (ps.map Prod.fst) false HWK.out;have hfl20:(flatE (ps.map Prod.fst)).length≤20000:=by have:=HLT.out;have:=HBL.out;omega
          have hkeep:=HIT.out.keep;obtain⟨ka,kc,hkv,hkr,hkc,hkm⟩:=hkeep.reads (flatE_range hgb.ok) (by omega);have hknc:ka=none→kc=0:=by
           obtain⟨ka2,kc2,h1,h2⟩:=slice_shape hkeep;rw[hkv] at h1;cases h1;exact fun e=>(h2 e).2
          subst hkv;have hown:=World.ownsRow.lt hkeep;have HKR:=hid (⟨reads_keep hkr HSZP.out (fun x e hn=>by cases e;exact(HKV.out _ (hown _ rfl)).1),(fun x e hn=>by cases e;exact(HKV.out _ (hown _ rfl)).2)⟩:ReadsS wp Sx ka (flatE (ps.map Prod.fst)));have HGA:=hid hga;have HGB:=hid hgb;have HKNC:=hid hknc;obtain⟨ks1,hk1,-⟩:=HGO.out.inv.fin;have HK1:=hid hk1;have HOKV:=hid (chg_ok HGO.out.inv nm (v:=⟨true,flatE (ps.map Prod.fst),(flatE (ps.map Prod.fst)).length⟩) ⟨Nat.le_refl _,by dsimp only;omega,flatE_range hgb.ok⟩);have HREPL:=hid (rm_replace HRP.out.disk (inv_ok HGO.out.inv) (inv_slim HGO.out.inv) (by omega) nm (by rw[HNML.out];decide) (by rw[HNML.out];decide) ka kc (flatE (ps.map Prod.fst)) HKR.out HKNC.out (by omega) HK1.out (.inl HTH.out));have y_p:=HST.out _ _ _ _ HMP.out;clear hga hgb hkeep hkr hkc hkm hknc hown hk1;go_wp2_with fail
          refine HREPL.out.mono ?_;rintro e wq ⟨rfl,hap,hrm⟩;obtain⟨r_q,m_q⟩:=HRP.out.disked (n':=n+j+1) hap hrm (fun _ h=>h) (RM.lt hrm);have HRQ:=hid r_q;have HMQ:=hid (HMP.out.trans m_q);clear r_q m_q hap hrm y_p HREPL;have y_wb:=HST.out _ _ _ _ HMQ.out;go_wp2_with fail
          refine(rm_sync HRQ.out.disk HOKV.out.1 HOKV.out.2 (by omega) nm (by rw[HNML.out];decide) (by rw[HNML.out];decide) (by rw[upd_same];rfl)).mono ?_;rintro e wb ⟨rfl,hap,hrm⟩;obtain⟨r_wb,m_wb⟩:=HRQ.out.disked (n':=n+j+1) hap hrm (fun _ h=>h) (RM.lt hrm);have HRwb:=hid r_wb;have HMwb:=hid (HMQ.out.trans m_wb);clear r_wb m_wb hap hrm y_wb;go_wp2_with fail
          go_roundw
          case rel=>
           refine⟨j+1,true,_,_,_,done++ [⟨r,bs,(flatE (ps.map Prod.fst)).length,ps.map Prod.fst⟩],Lx++ [⟨r,.slice va pl vc,ps⟩],E',rfl,by go_num,by omega,hid ?_,HMwb,hid ?_,hid (by simpa using HGA.out)⟩
           ·have hmn:ps.map Prod.fst≠ []:=by simpa using HPNE.out
            have hc:cutAll M (done++ [⟨r,bs,(flatE (ps.map Prod.fst)).length,ps.map Prod.fst⟩])=upd (upd (cutAll M done) nm (some (((cutAll M done).at nm).chg ⟨true,flatE (ps.map Prod.fst),(flatE (ps.map Prod.fst)).length⟩))) nm (settled ((upd (cutAll M done) nm (some (((cutAll M done).at nm).chg ⟨true,flatE (ps.map Prod.fst),(flatE (ps.map Prod.fst)).length⟩))).at nm).now):=by
             rw[cutAll_snoc];have hp0:(flatE (ps.map Prod.fst)).length≠0:=by
              have h1:=(flatE_len (l:=ps.map Prod.fst) HGB.out.ok).1;have h2:0<(ps.map Prod.fst).length:=List.length_pos_iff.2 hmn;omega
             have hby:=HGB.out.bytes;dsimp only at hby;unfold cutSeg;dsimp only;rw[if_neg hp0,if_pos HLT.out,hby,upd_at,chg_now',upd_upd,HNE.out];rfl
            rw[hc];exact HRwb.out.le (by omega)
           ·rw[Pz.logL_append,logOf_append,HLG.out]
            have h1:Pz.logL [⟨r,bs,(flatE (ps.map Prod.fst)).length,ps.map Prod.fst⟩]= [(r,ps.map Prod.fst)]:=by simp [Pz.logL,HPNE.out]
            rw[h1];rfl
          case measure=>simp [intOf];omega
         ·have hps:ps= []:=List.eq_nil_of_length_eq_zero (by have:=HPL.out;omega)
          subst hps;have hpl0:pl=0:=by omega
          subst hpl0;have dl:decide ((0:Int)<((0:Nat):Int))=false:=by decide
          have y_t:=HST.out _ _ _ _ HMT.out;go_wp2_with fail
          refine(rm_remove HRT.out.disk (inv_ok HGO.out.inv) (inv_slim HGO.out.inv) (by omega) nm (by rw[HNML.out];decide) (by rw[HNML.out];decide) HTH.out).mono ?_;rintro e wa ⟨rfl,hap,hrm⟩;obtain⟨r_wa,m_wa⟩:=HRT.out.disked (n':=n+j) hap hrm (fun _ h=>h) (RM.lt hrm);have HRwa:=hid r_wa;have HMwa:=hid (HMT.out.trans m_wa);have HOKwa:=hid (chg_ok HGO.out.inv nm (v:=⟨false,[],0⟩) ⟨Nat.le_refl _,by simp,fun x hx=>by cases hx⟩);clear r_wa m_wa hap hrm;have y_wb:=HST.out _ _ _ _ HMwa.out;go_wp2_with fail
          refine(rm_sync HRwa.out.disk HOKwa.out.1 HOKwa.out.2 (by omega) nm (by rw[HNML.out];decide) (by rw[HNML.out];decide) (by rw[upd_same];rfl)).mono ?_;rintro e wb ⟨rfl,hap,hrm⟩;replace hrm:=removed' nm hrm;obtain⟨r_wb,m_wb⟩:=HRwa.out.disked (n':=n+j) hap hrm (fun _ h=>h) (RM.lt hrm);have HRwb:=hid r_wb;have HMwb:=hid (HMwa.out.trans m_wb);clear r_wb m_wb hap hrm y_wb;go_wp2_with fail
          go_roundw
          case rel=>
           obtain⟨hga,hgb⟩:=HGR.out E' [] false HWK.out;refine⟨j+1,true,_,_,_,done++ [⟨r,bs,(flatE ([]:List Ent)).length,[]⟩],Lx,E',rfl,by go_num,by omega,hid ?_,HMwb,hid ?_,hid (by simpa using hga)⟩
           ·have hc:cutAll M (done++ [⟨r,bs,(flatE ([]:List Ent)).length,[]⟩])=upd (cutAll M done) nm none:=by rw[cutAll_snoc,HNE.out];exact if_pos rfl
            rw[hc];exact HRwb.out.le (by omega)
           ·rw[Pz.logL_append,HLG.out]
            simp [Pz.logL]
          case measure=>simp [intOf];omega
        | some E2=>
         have hne:((kk:Int) != (R:Int)+(pl:Int)+1)=false:=by
          have h1:=(HRI.out.some (E:=E2) (by rw[HCH.out];exact hfo)).1;rw[List.length_append,List.length_append,←HRR9.out,←HPL.out] at h1;have h2:(kk:Int)=(R:Int)+(pl:Int)+1:=by rw[h1];simp
          rw[h2];simp
         have HFO:=hid hfo;clear hfo;have HNX:=hid (HIM.out.next HRNG.out HKZ.out (by rw[HZK.out];exact HPZ.out) HFO.out);have hal9:Below wt.heap.size wt (wt.alloc (.cells #[.int .u64 (en.ix:Int),.int .u64 (en.term:Int),.slice ea en.body.length ec] 55)):=(Below.refl _ _).alloc (Nat.le_refl _) _;have HIL:=hid (HIT.out.below hal9);have hz9:ReadsP (wt.alloc (.cells #[.int .u64 (en.ix:Int),.int .u64 (en.term:Int),.slice ea en.body.length ec] 55)) (some ⟨wt.heap.size,0,none⟩) [((en,.slice ea en.body.length ec):EV)]:=⟨wt.heap.size,0,fun _=>rfl,fun j u hu=>⟨by simp,by
          rw[cell_of_row _ _ _ _ _ _ (heap_alloc_new wt _),Nat.zero_add];simpa [pcells] using hu⟩⟩
         obtain⟨v',wv,hrun,hrow,hg,hlies⟩:=run_appP HIL.out.row (by have:=HPL.out;omega) HIL.out.bel.size (qs:= [((en,.slice ea en.body.length ec):EV)]) (m:=1) (c:=1) rfl hz9 HFP.out (by simp) (fun e=>by cases e);obtain⟨va',vc',hv',-⟩:=slice_shape hrow;obtain⟨nl,hnl⟩: ∃x,x=(ps++ [((en,.slice ea en.body.length ec):EV)]).length:=⟨_,rfl⟩;rw[←hnl] at hv';subst hv';clear hnl;have hbr:BodyR wt w6.heap.size sb (.slice va pl vc) u12 ((en,.slice ea en.body.length ec):EV):=HBOT.out;have HIV:=hid (HIT.out.push hal9 hrow hg hlies hbr HFP.out);have hbv:wv.heap[sb]?=some (.cells #[.int .i64 (r:Int),.slice va pl vc] 79 (0,0)):=(hg.block sb (Nat.lt_of_lt_of_le (lt_of_block HIT.out.box) hal9.size) (Ne.symm HIT.out.sbv)).trans HIL.out.box;have f0:=frozen_row (i:=1) hbv;have f1:wv.cell? ⟨sb,1,none⟩=some (.slice va pl vc):=by rw[cell_of_row _ _ _ _ _ _ hbv];rfl
         have f2:wt.cell? ⟨sb,1,none⟩=some (.slice va pl vc):=by rw[cell_of_row _ _ _ _ _ _ HIT.out.box];rfl
         have f3:wt.cell? ⟨eb,0,none⟩=some (.int .u64 (en.ix:Int)):=by rw[cell_of_row _ _ _ _ _ _ HEBT.out];rfl
         have f4:wt.cell? ⟨eb,1,none⟩=some (.int .u64 (en.term:Int)):=by rw[cell_of_row _ _ _ _ _ _ HEBT.out];rfl
         have f5:wt.cell? ⟨eb,2,none⟩=some (.slice ea en.body.length ec):=by rw[cell_of_row _ _ _ _ _ _ HEBT.out];rfl
         have x10:(wv.setCell ⟨sb,1,none⟩ (.slice va' nl vc')).cell? ⟨b9,k,none⟩=some (.slice (some ⟨rx.g,0,none⟩) zl rx.c):=by rw[HZL9.out];exact HX9.out _ HIV.out.bel
         have HPUT:=hid (refFramePut_any (some ⟨rx.g,0,none⟩) rx.zs.length rx.c rx.zs (wv.setCell ⟨sb,1,none⟩ (.slice va' nl vc')) rfl (HHR.out _ HIV.out.bel) HZL.out);rw[←HZL9.out] at HPUT;clear hrow hg hlies hbr hbv hz9 hal9 HIL;go_wp2_with (at_builtin;go_loud (refine Lib.wpList_append_run _ rfl _ _ _ _ rfl _ _ rfl rfl _ _ hrun ?_))
         refine HPUT.out.mono ?_;rintro e wf ⟨fg,fc,rfl,hfr,hbf⟩;have HIF:=hid (HIV.out.below hbf);have hfe:Frame.frameOf rx.zs=frm en:=by rw[←HZK.out];exact HNX.out.2.1
         rw[hfe] at hfr ⊢;have hfln:=frm_len HNX.out.2.2;obtain⟨u12',wk,hrun2,hrow2,hg2,hlies2⟩:=run_bytesR wf HIF.out.keep (hfr.here (frm_range HNX.out.2.2) (by omega)).1.reads (c:=fc) (fun e=>by cases e) (by have h1:=HIM.out.le;have h2:=HBL.out;omega) HIF.out.bel.size;have HIK:=hid (HIF.out.add hrow2 hg2 hlies2);obtain⟨fl,hfl⟩: ∃x,x=(frm en).length:=⟨_,rfl⟩;rw[←hfl] at hrun2 ⊢;clear hfr hbf hrow2 hg2 hlies2 hfl hfe hfln f0 f1 f2 f3 f4 f5 x10 x9' hrun HPUT;go_wp2_with (at_builtin;go_loud (refine Lib.wpList_append_run _ rfl _ _ _ _ rfl _ _ rfl rfl _ _ hrun2 ?_))
         go_roundw
         case rel=>
          refine⟨k+1,.slice va' nl vc',ps++ [((en,.slice ea en.body.length ec):EV)],E2,rfl,by go_num,by omega,hid ?_,hid ?_⟩
          ·have h1:=HIK.out
           rw[List.map_append,flatE_append];have h2:flatE (([((en,.slice ea en.body.length ec):EV)]).map Prod.fst)=frm en:=by simp [flatE]
           rw[h2];exact h1
          ·rw[List.map_append]
           exact HNX.out.1
         case measure=>simp [intOf];omega
      ·have hkn:k=zss.length:=by rw[HZS.out,List.length_map,←HXN.out];omega
       subst hkn;have HOV:=hid HIM.out.over;have e1:decide (((zss.length:Nat):Int)<(xn:Int))=false:=decide_eq_false (by omega);have e2:decide (zss.length<xn)=false:=decide_eq_false hkl;obtain⟨wt,hwt⟩: ∃x,x=wr:=⟨_,rfl⟩;subst hwt;by_cases hgl:good=bl
       ·have dgl:decide (good=bl)=true:=decide_eq_true hgl
        have HWK:=hid (by have h1:=HOV.out.2;rw[show decide (good=bs.length)=true from decide_eq_true (by rw[←HBL.out];exact hgl)] at h1;exact h1:walk (bs.length+1) bs 0 [] Ex=((flatE (ps.map Prod.fst)).length,ps.map Prod.fst,E',true));have HLT:=hid (show¬(flatE (ps.map Prod.fst)).length<bs.length by have h1:=HOV.out.1;have h2:=HBL.out;omega);have cb0:wt.cell? ⟨sb,0,none⟩=some (.int .i64 (r:Int)):=by rw[cell_of_row _ _ _ _ _ _ HIN.out.box];rfl
        have cb1:wt.cell? ⟨sb,1,none⟩=some (.slice va pl vc):=by rw[cell_of_row _ _ _ _ _ _ HIN.out.box];rfl
        have HRT:=hid (HR6.out.below HIN.out.bel);have HMT:=hid (HM6.out.trans (Mv.of_below HIN.out.bel));by_cases hpl0:0<pl
        ·have dl:decide ((0:Int)<(pl:Int))=true:=decide_eq_true (by omega)
         have hne:ps≠ []:=fun e=>by have h1:=HPL.out;rw[e] at h1;simp at h1;omega
         have HPNE:=hid hne;clear hne;obtain⟨rw1,mw1⟩:=HR6.out.wide HIN.out.bel HM6.out;have hsk:=HIN.out.segK (K:=Kx);have HRW:=hid rw1;have HMW:=hid mw1;have HSK:=hid hsk;have hsbT: ¬Tx sb:=fun e=>by have h1:=(HR6.out.sT sb e).1;have h2:=HIN.out.hsb;omega
         have HSBT:=hid hsbT;clear rw1 mw1 hsk hsbT;go_upto_region 27 with fail
         refine push_rs _ _ _ _ _ _ _ _ _ _ _ _ _ _ _ _ _ _ _ _ _ _ _ _ _ _ _ _ _ _ _ _ _ _ _ _ _ _ _ _ _ _ _ _ _ _ _ _ _ _ _ _ _ _ _ _ _ _ _ _ _ _ _ _ _ _ _ _ _ _ _ _ _ _ _ _ _ _ _ _ _ _ _ _ _ _ _ _ _ _ _ _ _ _ _ _ _ _ _ _ _ _ _ _ _ _ _ _ _ _ _ _ _ _ _ _ _ _ _ _ _ _ _ _ _ _ _ _ _ _ _ _ _ _ _ _ _ _ _ _ _ _ _ _ _ _ _ _ _ _ _ _ _ _ _ _ _ _ _ _ _ _ _ _ _ _ _ _ _ _ _ _ _ _ _ (sn:=r) (xa:=va) (xn:=pl) (xc:=vc) (xl:=ps) HRW.out (by have:=HSM.out.1;omega) HSK.out cb0 cb1 HSBT.out (fun _ _ _ _ _ h=>h) ?_;intro y136 y137 y138 y139 y140 y141 y142 y143 y144 y145 wp Tp rp mp;have HRP:=hid rp;have HMP:=hid (HMW.out.trans mp);have hsbK:Kx sb∨(w6.heap.size≤sb∧sb<wt.heap.size):= .inr ⟨HIN.out.hsb,lt_of_block HIN.out.box⟩;have cb2:wp.cell? ⟨sb,1,none⟩=some (.slice va pl vc):=(World.cell?_of_block (a:=⟨sb,1,none⟩) (mp.ap.block sb (lt_of_block HIN.out.box) fun e=>e.elim (HRW.out.sK sb hsbK).2.1 HSBT.out)).trans cb1;have HKV:=hid (fun k (hk:w6.heap.size≤k∧k<wt.heap.size)=>(⟨mp.ap.block k hk.2 fun e=>e.elim (HRW.out.sK k (.inr hk)).2.1 fun e2=>(HRW.out.sK k (.inr hk)).2.2 e2,fun e=>(HRP.out.sK k (.inr hk)).2.1 e⟩:wp.heap[k]?=wt.heap[k]?∧ ¬Sx k));have HSZP:=hid mp.ap.size;clear rp mp hsbK cb0 cb1;go_wp2_with fail
         go_roundw
         case rel=>
          obtain⟨hga,hgb⟩:=HGR.out E' (ps.map Prod.fst) true HWK.out;have hmn:ps.map Prod.fst≠ []:=by simpa using HPNE.out
          refine⟨j+1,false,_,_,_,done++ [⟨r,bs,(flatE (ps.map Prod.fst)).length,ps.map Prod.fst⟩],Lx++ [⟨r,.slice va pl vc,ps⟩],E',rfl,by go_num,by omega,hid ?_,HMP,hid ?_,hid (by simpa [hmn] using hga)⟩
          ·have hc:cutAll M (done++ [⟨r,bs,(flatE (ps.map Prod.fst)).length,ps.map Prod.fst⟩])=cutAll M done:=by
            rw[cutAll_snoc];have hp0:(flatE (ps.map Prod.fst)).length≠0:=by
             have h1:=(flatE_len (l:=ps.map Prod.fst) hgb.ok).1;have h2:0<(ps.map Prod.fst).length:=List.length_pos_iff.2 hmn;omega
            unfold cutSeg;dsimp only;rw[if_neg hp0,if_neg HLT.out]
           rw[hc];exact HRP.out.le (by omega)
          ·rw[Pz.logL_append,logOf_append,HLG.out]
           have h1:Pz.logL [⟨r,bs,(flatE (ps.map Prod.fst)).length,ps.map Prod.fst⟩]= [(r,ps.map Prod.fst)]:=by simp [Pz.logL,HPNE.out]
           rw[h1];rfl
         case measure=>simp [intOf];omega
        ·have hps:ps= []:=List.eq_nil_of_length_eq_zero (by have:=HPL.out;omega)
         subst hps;have hpl0:pl=0:=by omega
         subst hpl0;have dl:decide ((0:Int)<((0:Nat):Int))=false:=by decide
         have y_t:=HST.out _ _ _ _ HMT.out;go_wp2_with fail
         refine(rm_remove HRT.out.disk (inv_ok HGO.out.inv) (inv_slim HGO.out.inv) (by omega) nm (by rw[HNML.out];decide) (by rw[HNML.out];decide) HTH.out).mono ?_;rintro e wa ⟨rfl,hap,hrm⟩;obtain⟨r_wa,m_wa⟩:=HRT.out.disked (n':=n+j) hap hrm (fun _ h=>h) (RM.lt hrm);have HRwa:=hid r_wa;have HMwa:=hid (HMT.out.trans m_wa);have HOKwa:=hid (chg_ok HGO.out.inv nm (v:=⟨false,[],0⟩) ⟨Nat.le_refl _,by simp,fun x hx=>by cases hx⟩);clear r_wa m_wa hap hrm;have y_wb:=HST.out _ _ _ _ HMwa.out;go_wp2_with fail
         refine(rm_sync HRwa.out.disk HOKwa.out.1 HOKwa.out.2 (by omega) nm (by rw[HNML.out];decide) (by rw[HNML.out];decide) (by rw[upd_same];rfl)).mono ?_;rintro e wb ⟨rfl,hap,hrm⟩;replace hrm:=removed' nm hrm;obtain⟨r_wb,m_wb⟩:=HRwa.out.disked (n':=n+j) hap hrm (fun _ h=>h) (RM.lt hrm);have HRwb:=hid r_wb;have HMwb:=hid (HMwa.out.trans m_wb);clear r_wb m_wb hap hrm y_wb;go_wp2_with fail
         go_roundw
         case rel=>
          obtain⟨hga,hgb⟩:=HGR.out E' [] true HWK.out;refine⟨j+1,true,_,_,_,done++ [⟨r,bs,(flatE ([]:List Ent)).length,[]⟩],Lx,E',rfl,by go_num,by omega,hid ?_,HMwb,hid ?_,hid (by simpa using hga)⟩
          ·have hc:cutAll M (done++ [⟨r,bs,(flatE ([]:List Ent)).length,[]⟩])=upd (cutAll M done) nm none:=by rw[cutAll_snoc,HNE.out];exact if_pos rfl
           rw[hc];exact HRwb.out.le (by omega)
          ·rw[Pz.logL_append,HLG.out]
           simp [Pz.logL]
         case measure=>simp [intOf];omega
       ·have dgl:decide (good=bl)=false:=decide_eq_false hgl
        have HWK:=hid (by have h1:=HOV.out.2;rw[show decide (good=bs.length)=false from decide_eq_false (by rw[←HBL.out];exact hgl)] at h1;exact h1:walk (bs.length+1) bs 0 [] Ex=((flatE (ps.map Prod.fst)).length,ps.map Prod.fst,E',false));have HLT:=hid (show(flatE (ps.map Prod.fst)).length<bs.length by have h1:=HOV.out.1;have h2:=HBL.out;have h3:=HGD.out;omega);have cb0:wt.cell? ⟨sb,0,none⟩=some (.int .i64 (r:Int)):=by rw[cell_of_row _ _ _ _ _ _ HIN.out.box];rfl
        have cb1:wt.cell? ⟨sb,1,none⟩=some (.slice va pl vc):=by rw[cell_of_row _ _ _ _ _ _ HIN.out.box];rfl
        have HRT:=hid (HR6.out.below HIN.out.bel);have HMT:=hid (HM6.out.trans (Mv.of_below HIN.out.bel));by_cases hpl0:0<pl
        ·have dl:decide ((0:Int)<(pl:Int))=true:=decide_eq_true (by omega)
         have hne:ps≠ []:=fun e=>by have h1:=HPL.out;rw[e] at h1;simp at h1;omega
         have HPNE:=hid hne;clear hne;obtain⟨rw1,mw1⟩:=HR6.out.wide HIN.out.bel HM6.out;have hsk:=HIN.out.segK (K:=Kx);have HRW:=hid rw1;have HMW:=hid mw1;have HSK:=hid hsk;have hsbT: ¬Tx sb:=fun e=>by have h1:=(HR6.out.sT sb e).1;have h2:=HIN.out.hsb;omega
         have HSBT:=hid hsbT;clear rw1 mw1 hsk hsbT;go_upto_region 27 with fail
         refine push_rs _ _ _ _ _ _ _ _ _ _ _ _ _ _ _ _ _ _ _ _ _ _ _ _ _ _ _ _ _ _ _ _ _ _ _ _ _ _ _ _ _ _ _ _ _ _ _ _ _ _ _ _ _ _ _ _ _ _ _ _ _ _ _ _ _ _ _ _ _ _ _ _ _ _ _ _ _ _ _ _ _ _ _ _ _ _ _ _ _ _ _ _ _ _ _ _ _ _ _ _ _ _ _ _ _ _ _ _ _ _ _ _ _ _ _ _ _ _ _ _ _ _ _ _ _ _ _ _ _ _ _ _ _ _ _ _ _ _ _ _ _ _ _ _ _ _ _ _ _ _ _ _ _ _ _ _ _ _ _ _ _ _ _ _ _ _ _ _ _ _ _ _ _ _ _ (sn:=r) (xa:=va) (xn:=pl) (xc:=vc) (xl:=ps) HRW.out (by have:=HSM.out.1;omega) HSK.out cb0 cb1 HSBT.out (fun _ _ _ _ _ h=>h) ?_;intro y136 y137 y138 y139 y140 y141 y142 y143 y144 y145 wp Tp rp mp;have HRP:=hid rp;have HMP:=hid (HMW.out.trans mp);have hsbK:Kx sb∨(w6.heap.size≤sb∧sb<wt.heap.size):= .inr ⟨HIN.out.hsb,lt_of_block HIN.out.box⟩;have cb2:wp.cell? ⟨sb,1,none⟩=some (.slice va pl vc):=(World.cell?_of_block (a:=⟨sb,1,none⟩) (mp.ap.block sb (lt_of_block HIN.out.box) fun e=>e.elim (HRW.out.sK sb hsbK).2.1 HSBT.out)).trans cb1;have HKV:=hid (fun k (hk:w6.heap.size≤k∧k<wt.heap.size)=>(⟨mp.ap.block k hk.2 fun e=>e.elim (HRW.out.sK k (.inr hk)).2.1 fun e2=>(HRW.out.sK k (.inr hk)).2.2 e2,fun e=>(HRP.out.sK k (.inr hk)).2.1 e⟩:wp.heap[k]?=wt.heap[k]?∧ ¬Sx k));have HSZP:=hid mp.ap.size;clear rp mp hsbK cb0 cb1;obtain⟨hga,hgb⟩:=HGR.out E' (ps.map Prod.fst) false HWK.out;have hfl20:(flatE (ps.map Prod.fst)).length≤20000:=by have:=HLT.out;have:=HBL.out;omega
         have hkeep:=HIN.out.keep;obtain⟨ka,kc,hkv,hkr,hkc,hkm⟩:=hkeep.reads (flatE_range hgb.ok) (by omega);have hknc:ka=none→kc=0:=by
          obtain⟨ka2,kc2,h1,h2⟩:=slice_shape hkeep;rw[hkv] at h1;cases h1;exact fun e=>(h2 e).2
         subst hkv;have hown:=World.ownsRow.lt hkeep;have HKR:=hid (⟨reads_keep hkr HSZP.out (fun x e hn=>by cases e;exact(HKV.out _ (hown _ rfl)).1),(fun x e hn=>by cases e;exact(HKV.out _ (hown _ rfl)).2)⟩:ReadsS wp Sx ka (flatE (ps.map Prod.fst)));have HGA:=hid hga;have HGB:=hid hgb;have HKNC:=hid hknc;obtain⟨ks1,hk1,-⟩:=HGO.out.inv.fin;have HK1:=hid hk1;have HOKV:=hid (chg_ok HGO.out.inv nm (v:=⟨true,flatE (ps.map Prod.fst),(flatE (ps.map Prod.fst)).length⟩) ⟨Nat.le_refl _,by dsimp only;omega,flatE_range hgb.ok⟩);have HREPL:=hid (rm_replace HRP.out.disk (inv_ok HGO.out.inv) (inv_slim HGO.out.inv) (by omega) nm (by rw[HNML.out];decide) (by rw[HNML.out];decide) ka kc (flatE (ps.map Prod.fst)) HKR.out HKNC.out (by omega) HK1.out (.inl HTH.out));have y_p:=HST.out _ _ _ _ HMP.out;clear hga hgb hkeep hkr hkc hkm hknc hown hk1;go_wp2_with fail
         refine HREPL.out.mono ?_;rintro e wq ⟨rfl,hap,hrm⟩;obtain⟨r_q,m_q⟩:=HRP.out.disked (n':=n+j+1) hap hrm (fun _ h=>h) (RM.lt hrm);have HRQ:=hid r_q;have HMQ:=hid (HMP.out.trans m_q);clear r_q m_q hap hrm y_p HREPL;have y_wb:=HST.out _ _ _ _ HMQ.out;go_wp2_with fail
         refine(rm_sync HRQ.out.disk HOKV.out.1 HOKV.out.2 (by omega) nm (by rw[HNML.out];decide) (by rw[HNML.out];decide) (by rw[upd_same];rfl)).mono ?_;rintro e wb ⟨rfl,hap,hrm⟩;obtain⟨r_wb,m_wb⟩:=HRQ.out.disked (n':=n+j+1) hap hrm (fun _ h=>h) (RM.lt hrm);have HRwb:=hid r_wb;have HMwb:=hid (HMQ.out.trans m_wb);clear r_wb m_wb hap hrm y_wb;go_wp2_with fail
         go_roundw
         case rel=>
          refine⟨j+1,true,_,_,_,done++ [⟨r,bs,(flatE (ps.map Prod.fst)).length,ps.map Prod.fst⟩],Lx++ [⟨r,.slice va pl vc,ps⟩],E',rfl,by go_num,by omega,hid ?_,HMwb,hid ?_,hid (by simpa using HGA.out)⟩
          ·have hmn:ps.map Prod.fst≠ []:=by simpa using HPNE.out
           have hc:cutAll M (done++ [⟨r,bs,(flatE (ps.map Prod.fst)).length,ps.map Prod.fst⟩])=upd (upd (cutAll M done) nm (some (((cutAll M done).at nm).chg ⟨true,flatE (ps.map Prod.fst),(flatE (ps.map Prod.fst)).length⟩))) nm (settled ((upd (cutAll M done) nm (some (((cutAll M done).at nm).chg ⟨true,flatE (ps.map Prod.fst),(flatE (ps.map Prod.fst)).length⟩))).at nm).now):=by
            rw[cutAll_snoc];have hp0:(flatE (ps.map Prod.fst)).length≠0:=by
             have h1:=(flatE_len (l:=ps.map Prod.fst) HGB.out.ok).1;have h2:0<(ps.map Prod.fst).length:=List.length_pos_iff.2 hmn;omega
            have hby:=HGB.out.bytes;dsimp only at hby;unfold cutSeg;dsimp only;rw[if_neg hp0,if_pos HLT.out,hby,upd_at,chg_now',upd_upd,HNE.out];rfl
           rw[hc];exact HRwb.out.le (by omega)
          ·rw[Pz.logL_append,logOf_append,HLG.out]
           have h1:Pz.logL [⟨r,bs,(flatE (ps.map Prod.fst)).length,ps.map Prod.fst⟩]= [(r,ps.map Prod.fst)]:=by simp [Pz.logL,HPNE.out]
           rw[h1];rfl
         case measure=>simp [intOf];omega
        ·have hps:ps= []:=List.eq_nil_of_length_eq_zero (by have:=HPL.out;omega)
         subst hps;have hpl0:pl=0:=by omega
         subst hpl0;have dl:decide ((0:Int)<((0:Nat):Int))=false:=by decide
         have y_t:=HST.out _ _ _ _ HMT.out;go_wp2_with fail
         refine(rm_remove HRT.out.disk (inv_ok HGO.out.inv) (inv_slim HGO.out.inv) (by omega) nm (by rw[HNML.out];decide) (by rw[HNML.out];decide) HTH.out).mono ?_;rintro e wa ⟨rfl,hap,hrm⟩;obtain⟨r_wa,m_wa⟩:=HRT.out.disked (n':=n+j) hap hrm (fun _ h=>h) (RM.lt hrm);have HRwa:=hid r_wa;have HMwa:=hid (HMT.out.trans m_wa);have HOKwa:=hid (chg_ok HGO.out.inv nm (v:=⟨false,[],0⟩) ⟨Nat.le_refl _,by simp,fun x hx=>by cases hx⟩);clear r_wa m_wa hap hrm;have y_wb:=HST.out _ _ _ _ HMwa.out;go_wp2_with fail
         refine(rm_sync HRwa.out.disk HOKwa.out.1 HOKwa.out.2 (by omega) nm (by rw[HNML.out];decide) (by rw[HNML.out];decide) (by rw[upd_same];rfl)).mono ?_;rintro e wb ⟨rfl,hap,hrm⟩;replace hrm:=removed' nm hrm;obtain⟨r_wb,m_wb⟩:=HRwa.out.disked (n':=n+j) hap hrm (fun _ h=>h) (RM.lt hrm);have HRwb:=hid r_wb;have HMwb:=hid (HMwa.out.trans m_wb);clear r_wb m_wb hap hrm y_wb;go_wp2_with fail
         go_roundw
         case rel=>
          obtain⟨hga,hgb⟩:=HGR.out E' [] false HWK.out;refine⟨j+1,true,_,_,_,done++ [⟨r,bs,(flatE ([]:List Ent)).length,[]⟩],Lx,E',rfl,by go_num,by omega,hid ?_,HMwb,hid ?_,hid (by simpa using hga)⟩
          ·have hc:cutAll M (done++ [⟨r,bs,(flatE ([]:List Ent)).length,[]⟩])=upd (cutAll M done) nm none:=by rw[cutAll_snoc,HNE.out];exact if_pos rfl
           rw[hc];exact HRwb.out.le (by omega)
          ·rw[Pz.logL_append,HLG.out]
           simp [Pz.logL]
         case measure=>simp [intOf];omega
   ·have hnum:=numR_zero (n:=nm) (by rw[←HRR.out];exact hr0)
    have dr:((r:Int) == 0)=true:=by rw[beq_iff_eq];omega
    have HNN:=hid hnum;clear hnum;go_wp2_with fail
    refine(HNUM.out wr).mono ?_;rintro e w4 ⟨rfl,rfl⟩;go_wp2_with fail
    go_roundw
    case rel=>exact⟨j+1,cut,Sx,Tx,Kx,done,Lx,Ex,rfl,by go_num,by omega,hid (HRX.out.le (by omega)),HMX,HLG,hid (HGO.out.skip hjl (by rw[←HNM.out];exact HNN.out))⟩
    case measure=>simp [intOf];omega
  ·have dk:decide ((j:Int)<(N:Int))=false:=decide_eq_false (by omega)
   have dk2:decide (j<N)=false:=decide_eq_false hlt;go_wp2_with fail
   go_ret
   have hjk:j=ks.length:=by have:=HN.out;omega
   have hgo:=HGO.out;rw[hjk] at hgo;have hf:=hgo.fin;refine⟨rfl,Sx,Tx,Kx,Lx,by rw[hf];exact HLG.out,?_,(Mv.of_below HB.out).trans HMX.out⟩;unfold openOf;rw[hf];exact HRX.out.le (by omega)
end Rl
end Go.Proofs.YtalfbcbnljhldaaGreatDoor
