/-  -/
import Derived.Test.YtalfbcbnljhldaaGreatDoorMaz
import Derived.Test.YtalfbcbnljhldaaGreatDoorMba
namespace Go.Proofs.YtalfbcbnljhldaaGreatDoor
open Go.Lib (hid)
open Go.RowKit Go.Maps Go.Sort Dsk Rd Wl
namespace Rl
theorem puts_inv {M M2:Files} {L L2:List (Nat×List Ent)} {e:Ent} {es:List Ent} {er:Int} (h:PutsL M L (e::es) er M2 L2):
  (((curL L).num<99999999∨(curL L).n<8)∧Room (syncM M (curL L)) (nameOf (curL L).next.num)∧PutsL (putM M (curL L) e) (putL L e) es er M2 L2)∨(8≤(curL L).n∧(curL L).num=99999999∧er=6∧M2=syncM M (curL L)∧L2=L)∨(((curL L).num<99999999∨(curL L).n<8)∧Full (syncM M (curL L)) (nameOf (curL L).next.num)∧er=6∧M2=syncM M (curL L)∧L2=L):=by
 cases h with
 | put h1 h2 h3=>exact .inl ⟨h1,h2,h3⟩
 | top h1 h2=>exact .inr (.inl ⟨h1,h2,rfl,rfl,rfl⟩)
 | full h1 h2=>exact .inr (.inr ⟨h1,h2,rfl,rfl,rfl⟩)
theorem curL_log (L:List SV) (s:SV):curL (logOf (L++ [s]))=⟨s.n,s.l.length⟩:=by
 rw[logOf_append];show curL (logOf L++ [(s.n,s.l.map Prod.fst)])=_;rw[curL_snoc];simp
theorem putL_log_more (L:List SV) (s:SV) (p:EV) (v:Value) (h: ¬8≤s.l.length):putL (logOf (L++ [s])) p.1=logOf (L++ [⟨s.n,v,s.l++ [p]⟩]):=by
 rw[logOf_append,logOf_append];show putL (logOf L++ [(s.n,s.l.map Prod.fst)]) p.1=_;rw[putL_more _ (by simpa using h)];simp [logOf]
theorem putL_log_full (L:List SV) (s:SV) (p:EV) (v:Value) (h:8≤s.l.length):putL (logOf (L++ [s])) p.1=logOf (L++ [s]++ [⟨s.n+1,v,[]++ [p]⟩]):=by
 rw[logOf_append];show putL (logOf L++ [(s.n,s.l.map Prod.fst)]) p.1=_;rw[putL_full _ (by simpa using h)];simp [logOf]
theorem reads_row {w:World} {B:Nat} {S:Nat→Prop} {zs:List Int} {g c:Nat} (h:Row w B zs (.slice (some ⟨g,0,none⟩) zs.length c)) (hr: ∀x∈zs,0≤x∧x≤255) (hl:zs.length≤1048577) (hS: ∀k,S k→k<B):ReadsS w S (some ⟨g,0,none⟩) zs:=by
 refine⟨(h.here hr (by omega)).1.reads,fun x e _ hs=>?_⟩;cases e;have h1:=(World.ownsRow.lt h g rfl).1;have h2:=hS g hs;omega
set_option maxRecDepth 1000000 in
set_option maxHeartbeats 16000000 in
theorem append_yes {w:World} {B n h g:Nat} {S T K:Nat→Prop} {M M2:Files} {L:List SV} {L2:List (Nat×List Ent)} {E:List Ent} {er:Int} (r:RS w B n h g S T K M L) (hi:Inv M) (hW:Whole M (logOf L) E) (es:List EV) (a:Option Addr) (c:Nat) (hes:SegK w K ⟨0,.slice a es.length c,es⟩)
  (hok: ∀p∈es,p.1.ok) (hc: ∃E',chain E (es.map Prod.fst)=some E') (hp:PutsL M (logOf L) (es.map Prod.fst) er M2 L2) (hn:n+es.length≤500000) (hel:es.length≤1000):
  Calls Tryz.prog 10 #[.pointer (some ⟨h,0,none⟩),.slice a es.length c] w fun e w'=>e= .returned (.int .i64 er)∧ ∃S' T' K' Ls,logOf Ls=L2∧RS w' B (n+es.length) h g S' T' K' M2 Ls∧Mv S T K w w' S' T' K':=by
 obtain⟨N,hN⟩: ∃x,x=es.length:=⟨_,rfl⟩;rw[←hN] at hes hn hel ⊢;obtain⟨hL64,hLs,hLr⟩:=whole_small hW hi;obtain⟨ea,ec,hv,⟨eg,eo,hea,hecell⟩,hena,hefi,hebo⟩:=id hes;dsimp only at hv hea hecell hena hefi hebo;rw[←hN] at hv hena;cases hv;have hchn: ∃E',chain [] ((recsOf L++es).map Prod.fst)=some E':=by
  obtain⟨E',hE⟩:=hc;have h1:=hW.ents;rw[logOf_flat] at h1;rw[List.map_append,chain_append _ _ _ h1];exact⟨E',hE⟩
 have HCH:=hid hchn;have HES:=hid hes;have HN:=hid hN;have HKS:=hid (fun k (hk:K k)=>r.sK k hk);have HEA:=hid hea;have HEC:=hid hecell;have HENA:=hid hena;have HEF:=hid hefi;have HEB:=hid hebo;have HR:=hid r;have HI:=hid hi;have HW:=hid hW;have HP:=hid hp;have HC:=hid hc;have HOK:=hid hok;have HLR:=hid hLr;have HEL:=hid (show es.length≤1000 by rw[←hN];exact hel);have HREC:=hid (fun W (hW:Below w.heap.size w W)=>records_any (r.below hW).log.logR (by omega) (by omega));have HRP:=hid (fun W (hW:Below w.heap.size w W)=>(⟨eg,eo,hea,fun j u hu=>⟨Nat.lt_of_lt_of_le (hecell j u hu).2.1 hW.size,stays' hW (hecell j u hu).2.2⟩⟩:ReadsP W a es));have HFR:=hid (r.log.logR.fine L fun _ hs=>hs);have hNm:(N:Int)≤1000:=by omega
 clear hes hN hea hecell hena hefi hebo r hi hW hp hc hok hLs hLr hchn;go_enter Tryz.func10,Tryz.ntmps10
 go_wp2_with fail
 refine(HREC.out _ (Below.refl _ _)).mono ?_;rintro e w1 ⟨ra,rc,rfl,hr1,hb1⟩;obtain⟨v2,w2,hrun2,hr2,hg2,-⟩:=run_appP hr1 (by have:=HLR.out;omega) hb1.size HN.out (HRP.out _ hb1) HEF.out (by have:=HEL.out;omega) HENA.out;have HB2:=hid (hb1.grown hg2 hb1.size fun k e=>(World.ownsRow.lt hr1 k e).1);have HR2:=hid hr2;clear hr1 hb1 hr2 hg2;go_wp2_with (at_builtin;go_loud (refine Lib.wpList_append_run _ rfl _ _ _ _ rfl _ _ rfl rfl _ _ hrun2 ?_))
 obtain⟨a2,c2,hv2,-⟩:=slice_shape HR2.out;subst hv2;refine(row_any (RowP.reads HR2.out).1 (HFR.out.append HEF.out) (by have:=HLR.out;have:=HEL.out;simp;omega) c2).mono ?_;rintro e w3 ⟨la,lc,l3,k3,rfl,hri,-,hb3⟩;have hk3:k3=(recsOf L).length+N:=by rw[(hri.some HCH.out.choose_spec).1,HN.out,List.length_append]
 subst hk3;have HB3:=hid (HB2.out.trans (hb3.mono HB2.out.size));clear hri hb3 hrun2;go_wp2_with fail
 refine(HREC.out _ HB3.out).mono ?_;rintro e w4 ⟨ra4,rc4,rfl,-,hb4⟩;have HB4:=hid (HB3.out.trans (hb4.mono HB3.out.size));have hkne:(((recsOf L).length:Int)+(N:Int) != ((recsOf L).length:Int)+(N:Int))=false:=by simp
 have hkm:((recsOf L).length:Int)≤142208:=by have:=HLR.out;omega
 clear hb4 HREC;go_wp2_with fail
 go_loopw [7] (fun i wr=> ∃(j:Nat),i= .int .i64 (j:Int)∧j≤N∧Hid (Below w.heap.size w wr)) (fun i _=>N - (intOf i).toNat)
 case atStart=>exact⟨0,rfl,Nat.zero_le _,HB4⟩
 case round=>
  obtain⟨j,rfl,hj,HB⟩:=hrel;by_cases hlt:j<N
  ·have hjl:j<es.length:=by rw[←HN.out];exact hlt
   obtain⟨-,-,e2⟩:=pcells_at es j hjl;have k2:=HEC.out _ _ e2;obtain⟨pa,pc,hpv,-,-,-⟩:=HEB.out es[j] (List.getElem_mem hjl);have hae:=HEA.out (fun e=>by rw[e] at hjl;simp at hjl);subst hae;rw[hpv,←Nat.add_assoc] at k2;have c2:=stays' HB.out k2.2.2;have hbl:((es[j].1.body.length:Nat):Int)≤2000:=by have:=(HOK.out es[j] (List.getElem_mem hjl)).2.2.2.1;omega
   obtain⟨bl,hbl2⟩: ∃x,x=es[j].1.body.length:=⟨_,rfl⟩;rw[←hbl2] at c2 hbl;have dk:decide ((j:Int)<(N:Int))=true:=decide_eq_true (by omega);have dk2:decide (j<N)=true:=decide_eq_true hlt;have dk3:decide ((j:Int)<0)=false:=by simp
   have dk4:decide ((2000:Int)<(bl:Int))=false:=decide_eq_false (by omega);have hk0:(0:Int)≤j:=by omega
   have hk1:(j:Int)≤1000:=by omega
   have hk2:(j:Int)<(N:Int):=by omega
   clear k2 e2 hpv hbl2;go_wp2_with fail
   go_roundw
   case rel=>exact⟨j+1,by go_num,by omega,HB⟩
   case measure=>simp [intOf];omega
  ·have dk:decide ((j:Int)<(N:Int))=false:=decide_eq_false (by omega)
   have dk2:decide (j<N)=false:=decide_eq_false hlt;have HB5:=HB;clear HB;go_wp2_with fail
   go_loopw [8] (fun i wr=> ∃(j:Nat) (Sx Tx Kx:Nat→Prop) (Mx:Files) (Lx:List SV) (Ex:List Ent),i= .int .i64 (j:Int)∧j≤N∧Hid (RS wr B (n+j) h g Sx Tx Kx Mx Lx)∧Hid (Mv S T K w wr Sx Tx Kx)∧Hid (Inv Mx)∧Hid (Whole Mx (logOf Lx) Ex)∧Hid (∃E',chain Ex ((es.drop j).map Prod.fst)=some E')∧Hid (PutsL Mx (logOf Lx) ((es.drop j).map Prod.fst) er M2 L2)) (fun i _=>N - (intOf i).toNat)
   case atStart=>
    refine⟨0,S,T,K,M,L,E,rfl,Nat.zero_le _,hid (HR.out.below HB5.out),hid (Mv.of_below HB5.out),HI,HW,?_,?_⟩
    ·rw[List.drop_zero];exact HC
    ·rw[List.drop_zero];exact HP
   case round=>
    obtain⟨j,Sx,Tx,Kx,Mx,Lx,Ex,rfl,hj,HRX,HMX,HIX,HWX,HCX,HPX⟩:=hrel;by_cases hlt:j<N
    ·have hjl:j<es.length:=by rw[←HN.out];exact hlt
     have dk:decide ((j:Int)<(N:Int))=true:=decide_eq_true (by omega);have dk2:decide (j<N)=true:=decide_eq_true hlt;have dk3:decide ((j:Int)<0)=false:=by simp
     have hk0:(0:Int)≤j:=by omega
     have hk1:(j:Int)≤1000:=by omega
     have hk2:(j:Int)<(N:Int):=by omega
     have hae:=HEA.out (fun e=>by rw[e] at hjl;simp at hjl);subst hae;have hsk:=segk_mv HES.out HMX.out HKS.out;obtain⟨a9,c9,hv9,⟨eg9,eo9,ha9,hcell9⟩,-,-,hbo9⟩:=hsk;dsimp only at hv9 ha9 hcell9 hbo9;cases hv9;have ha9':=ha9 (fun e=>by rw[e] at hjl;simp at hjl);cases ha9';obtain⟨e0,e1,e2⟩:=pcells_at es j hjl;have k0:=(hcell9 _ _ e0).2.2;have k1:=(hcell9 _ _ e1).2.2;have k2:=(hcell9 _ _ e2).2.2;obtain⟨pa,pc,hpv,hpna,hprd,hpk⟩:=hbo9 es[j] (List.getElem_mem hjl);have hpok:=HOK.out es[j] (List.getElem_mem hjl);have hdr:(es.drop j).map Prod.fst=es[j].1::(es.drop (j+1)).map Prod.fst:=by rw[List.drop_eq_getElem_cons hjl,List.map_cons]
     rw[hdr] at HPX HCX;rw[hpv] at k2;obtain⟨P,hP⟩: ∃P,P=es[j].1:=⟨_,rfl⟩;rw[←hP] at k0 k1 k2 hpok hprd HPX HCX;rw[←Nat.add_assoc] at k1 k2;have HPE:=hid hP;have HPO:=hid hpok;have HFO:=hid (show∃E1,Wl.follow Ex P=some E1∧ ∃E',chain E1 ((es.drop (j+1)).map Prod.fst)=some E' by
      obtain⟨E',h1⟩:=HCX.out;cases hf:Wl.follow Ex P with
      | none=>simp [chain,hf] at h1
      | some E1=>exact⟨E1,rfl,E',by rw[←h1,chain_cons _ hf]⟩)
     have HRC:=hid (refRecord_any P pa pc wr hpok hprd);clear hcell9 hbo9 e0 e1 e2 hpv hpna hpk ha9 hdr hP hpok hprd HCX;go_wp2_with fail
     refine HRC.out.mono ?_;rintro e w5 ⟨rg,rc5,rfl,hrow5,hb5⟩;have hrl:=rec_len HPO.out;have HFP:=hid (refFramePut_any (some ⟨rg,0,none⟩) (recOf P).length rc5 (recOf P) w5 rfl (hrow5.here (rec_range HPO.out) (by omega)).1.reads (by omega));have HB5':=hid hb5;clear hrow5 hb5 hrl HRC k0 k1 k2;go_wp2_with fail
     refine HFP.out.mono ?_;rintro e w6 ⟨fg,fc,rfl,hfr,hb6⟩;have hfrm:Frame.frameOf (recOf P)=frm P:=rfl;rw[hfrm] at hfr ⊢;have hb7:=HB5'.out.trans (hb6.mono HB5'.out.size);have HR6:=hid (HRX.out.below hb7);have HM6:=hid (HMX.out.trans (Mv.of_below hb7));have hfl:=(frm_len HPO.out).2;have HRD6:=hid (reads_row (S:=Sx) hfr (frm_range HPO.out) (by omega) fun k hk=>Nat.lt_of_lt_of_le (HRX.out.sS k hk) HB5'.out.size);have HFL:=hid hfl;obtain⟨fl,hfl9⟩: ∃x,x=(frm P).length:=⟨_,rfl⟩;obtain⟨hX64,hXs,hXr⟩:=whole_small HWX.out HIX.out;have HXS:=hid hXs;obtain⟨sv,hwal,hrow⟩:=HR6.out.log.wal;have HROW:=hid hrow;have HWAL:=hid hwal;clear hfr hb6 hb7 hfl hfrm hfl9 hXs hXr hrow hwal HFP HB5' HRX HMX;rcases List.eq_nil_or_concat Lx with hLx | ⟨L0,s,hLx⟩
     ·subst hLx
      have hcu:curL (logOf [])=⟨0,0⟩:=rfl;have hsy:syncM Mx (curL (logOf []))=Mx:=rfl;have hnx:(curL (logOf [])).next=⟨1,0⟩:=next_zero 0;have hnw:=HWX.out.next' (.inl (by rw[hcu];decide));rw[hsy,hnx] at hnw;dsimp only at hnw;have hme:putM Mx (curL (logOf [])) P=upd Mx (nameOf 1) (some (appF (Mx.at (nameOf 1)) (frm P))):=by rw[putM,hsy,hnx]
      have HMF:=hid hme;obtain⟨sa,sc,hsv,-⟩:=HROW.out.reads;subst hsv;have c0:w6.cell? ⟨h,1,none⟩=some (.slice sa 0 sc):=by rw[cell_of_row _ _ _ _ _ _ HWAL.out];rfl
      have HNUM:=hid (show 1≤99999999 by decide);have HSZ:=hid (fun ht=>(hnw.2.1 ht).1);have hd9:decide ((0:Int)≤ -1)=false:=by decide
      clear hme hnw;rcases puts_inv HPX.out with hpi | ⟨h8,-⟩ | ⟨-,hfu,h1,h2,h3⟩
      ·have hrm:=hpi.2.1
       rw[hsy,hnx] at hrm;dsimp only at hrm;have HRM:=hid hrm;have HPI:=hid hpi;clear hpi hrm hcu hsy hnx HPX;go_upto_region 25 with fail
       refine app_rs _ _ _ _ _ _ _ _ _ _ _ _ _ _ _ _ _ _ _ _ _ _ _ _ _ _ _ _ _ _ _ _ _ _ _ _ _ _ _ _ _ _ _ _ _ _ _ _ _ _ _ _ _ _ _ _ _ _ _ _ _ _ _ _ _ _ _ _ _ _ _ _ _ _ _ _ _ _ _ _ _ _ _ _ _ _ _ _ _ _ _ _ _ _ _ _ _ _ _ _ _ _ _ _ _ _ _ _ _ _ _ _ _ _ _ _ _ _ _ _ _ _ _ _ _ _ _ _ _ _ _ _ _ _ _ _ _ _ _ _ _ _ _ _ _ _ _ _ _ _ _ _ (sn:=1) (bs:=frm P) HR6.out HIX.out (by have:=HEL.out;have:=HN.out;omega) HNUM.out HRD6.out (fun e=>by cases e) HFL.out HSZ.out HRM.out (fun _ _ _ _ _ h=>h) ?_;intro y107 y108 y109 y110 y111 y112 y113 wz Sz rz mz;have HRZ:=hid rz;have HMZ:=hid (HM6.out.trans mz);clear rz mz;go_upto_region 29 with fail
       refine seg_rs _ _ _ _ _ _ _ _ _ _ _ _ _ _ _ _ _ _ _ _ _ _ _ _ _ _ _ _ _ _ _ _ _ _ _ _ _ _ _ _ _ _ _ _ _ _ _ _ _ _ _ _ _ _ _ _ _ _ _ _ _ _ _ _ _ _ _ _ _ _ _ _ _ _ _ _ _ _ _ _ _ _ _ _ _ _ _ _ _ _ _ _ _ _ _ _ _ _ _ _ _ _ _ _ _ _ _ _ _ _ _ _ _ _ _ _ _ _ _ _ _ _ _ _ _ _ _ _ _ _ _ _ _ _ _ _ _ _ _ _ _ _ _ _ _ _ _ _ _ _ _ _ _ (sn:=1) HRZ.out (by first | omega | (have:=HM.out;simp;omega) | simp) ?_;intro y119 y120 y121 y122 y123 y124 y125 y126 y127 y128 y129 ws Tz rs ms;have HRS:=hid rs;have HMS:=hid (HMZ.out.trans ms);clear rs ms;go_upto_region 31 with fail
       refine tail_rs _ _ _ _ _ _ _ _ _ _ _ _ _ _ _ _ _ _ _ _ _ _ _ _ _ _ _ _ _ _ _ _ _ _ _ _ _ _ _ _ _ _ _ _ _ _ _ _ _ _ _ _ _ _ _ _ _ _ _ _ _ _ _ _ _ _ _ _ _ _ _ _ _ _ _ _ _ _ _ _ _ _ _ _ _ _ _ _ _ _ _ _ _ _ _ _ _ _ _ _ _ _ _ _ _ _ _ _ _ _ _ _ _ _ _ _ _ _ _ _ _ _ _ _ _ _ _ _ _ _ _ _ _ _ _ _ _ _ _ _ _ _ _ _ _ _ _ _ _ _ _ (i:=j) (k:=0) (Lp:= []) (s:=(⟨1,.slice none 0 0,[]⟩:SV)) (es:=es) HRS.out (segk_mv HES.out HMS.out HKS.out) hjl HEL.out (by simp) (by first | omega | (simp<;>omega)) (by simp) (fun _ _ _ _ _ h=>h) ?_;intro y132 y133 y134 y135 y136 y137 y138 y139 y140 y141 y142 y143 y144 y145 y146 y147 y148 y149 y150 y151 y152 y153 y154 we ve Kz re me;have HRE:=hid re;have HME:=hid (HMS.out.trans me);clear re me;go_wp2_with fail
       go_roundw
       case rel=>
        obtain⟨E1,hf1,hc1⟩:=HFO.out;obtain⟨hk1,hr1,hp1⟩:=HPI.out;have hinv:=HIX.out.put HWX.out HPO.out hk1 hr1;have hwho:=HWX.out.put' HPO.out hf1 hk1;have hle:putL (logOf []) P=logOf ([]++ [⟨(⟨1,.slice none 0 0,[]⟩:SV).n,ve,(⟨1,.slice none 0 0,[]⟩:SV).l++ [es[j]]⟩]):=by rw[HPE.out];exact rfl
        have hme:=HMF.out;rw[hle] at hwho hp1;rw[hme] at hwho hp1 hinv;exact⟨j+1,_,_,Kz,_,_,E1,by go_num,by omega,hid (HRE.out.le (by omega)),HME,hid hinv,hid hwho,hid hc1,hid hp1⟩
       case measure=>simp [intOf];omega
      ·exact absurd h8 (by rw[hcu];decide)
      ·rw[hsy,hnx] at hfu
       rw[hsy] at h2;have HFU:=hid (And.intro hfu (And.intro h1 (And.intro h2 h3)));clear hfu h1 h2 h3 hcu hsy hnx HPX;go_upto_region 25 with fail
       refine app_full_rs _ _ _ _ _ _ _ _ _ _ _ _ _ _ _ _ _ _ _ _ _ _ _ _ _ _ _ _ _ _ _ _ _ _ _ _ _ _ _ _ _ _ _ _ _ _ _ _ _ _ _ _ _ _ _ _ _ _ _ _ _ _ _ _ _ _ _ _ _ _ _ _ _ _ _ _ _ _ _ _ _ _ _ _ _ _ _ _ _ _ _ _ _ _ _ _ _ _ _ _ _ _ _ _ _ _ _ _ _ _ _ _ _ _ _ _ _ _ _ _ _ _ _ _ _ _ _ _ _ _ _ _ _ _ _ _ _ _ _ _ _ _ _ _ _ _ _ _ _ _ _ _ (sn:=1) (bs:=frm P) HR6.out HIX.out (by have:=HEL.out;have:=HN.out;omega) HNUM.out HRD6.out (fun e=>by cases e) HFL.out HFU.out.1 (fun _ _ _ _ _ h=>h) ?_;intro y107 y108 y109 y110 y111 y112 y113 wz hbz;have HRZ:=hid (HR6.out.below hbz);have HMZ:=hid (HM6.out.trans (Mv.of_below hbz));clear hbz;go_wp2_with fail
       go_ret
       obtain⟨-,h1,h2,h3⟩:=HFU.out;rw[h1,h2];exact⟨rfl,_,_,_,_,h3.symm,(HRZ.out.le (by omega)),HMZ.out⟩
     ·rw[List.concat_eq_append] at hLx
      subst hLx;obtain⟨q,o,c1,cur,hsv,-,-,hcur,hs0,hs1⟩:=HROW.out.last;subst hsv;obtain⟨sa,sc,hsv2,-⟩:=HR6.out.log.segs s (by simp);rw[hsv2] at hs1;have hlen:(L0++ [s]).length=L0.length+1:=by simp
      have c0:w6.cell? ⟨h,1,none⟩=some (.slice (some ⟨q,o,none⟩) (L0.length+1) c1):=by rw[cell_of_row _ _ _ _ _ _ HWAL.out,←hlen];rfl
      have hcu:=curL_log L0 s;obtain⟨m,hm⟩: ∃x,x=L0.length:=⟨_,rfl⟩;have hwl:1≤s.n∧s.n≤99999999∧(Mx.at (nameOf s.n)).now.there=true:=by
       have h1:=HWX.out;rw[logOf_append] at h1;have h2:=Wl.Whole.last (x:=(s.n,s.l.map Prod.fst)) h1;exact⟨h2.1.1,h2.1.2,h2.2.1⟩
      have hm64:m≤63:=by rw[hm];rw[hlen] at hX64;omega
      have HSL:=hid (HXS.out s (by simp));rw[←hm] at c0 hs0 hs1;have HM:=hid hm;obtain⟨sl,hsl⟩: ∃x,x=s.l.length:=⟨_,rfl⟩;rw[←hsl] at hs1;have HSLN:=hid hsl;have d1:decide ((0:Int)≤(m:Int))=true:=decide_eq_true (by omega);have d2:decide ((m:Int)<0)=false:=by simp
      have d3:(0:Int)≤m:=by omega
      have d4:(m:Int)≤1000:=by omega
      have d5:(m:Int)<(m:Int)+1:=by omega
      have d6:decide ((m:Int)<(m:Int)+1)=true:=decide_eq_true d5;obtain⟨sn,hsn⟩: ∃x,x=s.n:=⟨_,rfl⟩;rw[←hsn] at hs0 hwl;have HSN:=hid hsn;have d7:(sn:Int)≤99999999:=by have:=hwl.2.1;omega
      have d8:(sl:Int)≤2222:=by have:=HSL.out;have:=HSLN.out;omega
      have d9:(0:Int)≤sn:=by omega
      clear hcur hm hsl hsn hsv2 hlen;by_cases h8:8≤s.l.length
      ·have hd8:decide ((8:Int)≤(sl:Int))=true:=decide_eq_true (by have:=HSLN.out;omega)
       have hsy:syncM Mx (curL (logOf (L0++ [s])))=upd Mx (nameOf sn) (settled (Mx.at (nameOf sn)).now):=by rw[hcu,←HSN.out];exact if_pos h8
       have hnx:(curL (logOf (L0++ [s]))).next=⟨sn+1,0⟩:=by rw[hcu,←HSN.out];exact next_full h8
       have HIS:=hid (show Wl.Inv (upd Mx (nameOf sn) (settled (Mx.at (nameOf sn)).now)) by rw[←hsy];exact HIX.out.sync _);obtain⟨s1,hs9⟩: ∃x,x=sn+1:=⟨_,rfl⟩;have HCAST:=hid (show(sn:Int)+1=(s1:Int) by omega);have d11:(s1:Int)≤100000000:=by omega
       have d12:(0:Int)≤s1:=by omega
       have HS1:=hid hs9;rw[←hs9] at hnx;go_upto_region 21 with fail
       refine sync_rs _ _ _ _ _ _ _ _ _ _ _ _ _ _ _ _ _ _ _ _ _ _ _ _ _ _ _ _ _ _ _ _ _ _ _ _ _ _ _ _ _ _ _ _ _ _ _ _ _ _ _ _ _ _ _ _ _ _ _ _ _ _ _ _ _ _ _ _ _ _ _ _ _ _ _ _ _ _ _ _ _ _ _ _ _ _ _ _ _ _ _ _ _ _ _ _ _ _ _ _ _ _ _ _ _ _ _ _ _ _ _ _ _ _ _ _ _ _ _ _ _ _ _ _ _ _ _ _ _ _ _ _ _ _ _ _ _ _ _ _ _ _ _ _ _ _ _ _ _ _ _ _ _ (sn:=sn) HR6.out HIX.out (by have:=HEL.out;have:=HN.out;omega) hwl.2.1 (by obtain⟨f,h1,_⟩:=Rd.there_some hwl.2.2;rw[h1];rfl) (fun _ _ _ _ _ h=>h) ?_;intro y96 y97 y98 y99 y100 y101 y102 wz Sz rz mz hrdz;have HR7:=hid rz;have HM7:=hid (HM6.out.trans mz);have HRD7:=hid (hrdz _ _ HRD6.out);clear rz mz hrdz;by_cases h9:sn=99999999
       ·have hd9:decide ((99999999:Int)<(s1:Int))=true:=decide_eq_true (by omega)
        have hd10:decide ((99999999:Int)<(sn:Int)+1)=true:=decide_eq_true (by omega);have HFU:=hid (show er=6∧M2=upd Mx (nameOf sn) (settled (Mx.at (nameOf sn)).now)∧L2=logOf (L0++ [s]) by
         rcases puts_inv HPX.out with hpi | ⟨-,-,h1,h2,h3⟩ | ⟨-,-,h1,h2,h3⟩
         ·exfalso
          rcases hpi.1 with h1 | h1
          ·rw[hcu] at h1;dsimp only at h1;have:=HSN.out;omega
          ·rw[hcu] at h1;dsimp only at h1;omega
         ·exact⟨h1,by rw[h2,hsy],h3⟩
         ·exact⟨h1,by rw[h2,hsy],h3⟩)
        clear hcu hsy hnx HPX hwl h9 hs9;go_wp2_with fail
        go_ret
        obtain⟨h1,h2,h3⟩:=HFU.out;rw[h1,h2];exact⟨rfl,_,_,_,_,h3.symm,(HR7.out.le (by omega)),HM7.out⟩
       ·have hd9:decide ((99999999:Int)<(s1:Int))=false:=decide_eq_false (by have:=hwl.2.1;omega)
        have hd10:decide ((99999999:Int)<(sn:Int)+1)=false:=decide_eq_false (by have:=hwl.2.1;omega);have hk9:(curL (logOf (L0++ [s]))).num<99999999∨(curL (logOf (L0++ [s]))).n<8:= .inl (by rw[hcu];dsimp only;have:=HSN.out;have:=hwl.2.1;omega);have hnw:=HWX.out.next' hk9;rw[hsy,hnx] at hnw;dsimp only at hnw;have hme:putM Mx (curL (logOf (L0++ [s]))) P=upd (upd Mx (nameOf sn) (settled (Mx.at (nameOf sn)).now)) (nameOf s1) (some (appF ((upd Mx (nameOf sn) (settled (Mx.at (nameOf sn)).now)).at (nameOf s1)) (frm P))):=by rw[putM,hsy,hnx]
        have HMF:=hid hme;have HNUM:=hid hnw.1.2;have HSZ:=hid (fun ht=>(hnw.2.1 ht).1);rcases puts_inv HPX.out with hpi | ⟨-,h10,-⟩ | ⟨-,hfu,h1,h2,h3⟩
        ·have hrm:=hpi.2.1
         rw[hsy,hnx] at hrm;dsimp only at hrm;have HRM:=hid hrm;have HPI:=hid hpi;clear hpi hrm hsy hnx HPX hme hnw hcu hwl hk9;go_upto_region 25 with fail
         rw[HCAST.out];refine app_rs _ _ _ _ _ _ _ _ _ _ _ _ _ _ _ _ _ _ _ _ _ _ _ _ _ _ _ _ _ _ _ _ _ _ _ _ _ _ _ _ _ _ _ _ _ _ _ _ _ _ _ _ _ _ _ _ _ _ _ _ _ _ _ _ _ _ _ _ _ _ _ _ _ _ _ _ _ _ _ _ _ _ _ _ _ _ _ _ _ _ _ _ _ _ _ _ _ _ _ _ _ _ _ _ _ _ _ _ _ _ _ _ _ _ _ _ _ _ _ _ _ _ _ _ _ _ _ _ _ _ _ _ _ _ _ _ _ _ _ _ _ _ _ _ _ _ _ _ _ _ _ _ (sn:=s1) (bs:=frm P) HR7.out HIS.out (by have:=HEL.out;have:=HN.out;omega) HNUM.out HRD7.out (fun e=>by cases e) HFL.out HSZ.out HRM.out (fun _ _ _ _ _ h=>h) ?_;intro y107 y108 y109 y110 y111 y112 y113 wz Sz rz mz;have HRZ:=hid rz;have HMZ:=hid (HM7.out.trans mz);clear rz mz;obtain⟨m1,hm1⟩: ∃x,x=m+1:=⟨_,rfl⟩;have HCM:=hid (show(m:Int)+1=(m1:Int) by omega);have d13:(m1:Int)≤100:=by omega
         have d14:(0:Int)≤m1:=by omega
         go_upto_region 29 with fail
         refine seg_rs _ _ _ _ _ _ _ _ _ _ _ _ _ _ _ _ _ _ _ _ _ _ _ _ _ _ _ _ _ _ _ _ _ _ _ _ _ _ _ _ _ _ _ _ _ _ _ _ _ _ _ _ _ _ _ _ _ _ _ _ _ _ _ _ _ _ _ _ _ _ _ _ _ _ _ _ _ _ _ _ _ _ _ _ _ _ _ _ _ _ _ _ _ _ _ _ _ _ _ _ _ _ _ _ _ _ _ _ _ _ _ _ _ _ _ _ _ _ _ _ _ _ _ _ _ _ _ _ _ _ _ _ _ _ _ _ _ _ _ _ _ _ _ _ _ _ _ _ _ _ _ _ _ (sn:=s1) HRZ.out (by first | omega | (have:=HM.out;simp;omega) | simp) ?_;intro y119 y120 y121 y122 y123 y124 y125 y126 y127 y128 y129 ws Tz rs ms;have HRS:=hid rs;have HMS:=hid (HMZ.out.trans ms);clear rs ms;go_upto_region 31 with fail
         rw[HCM.out];refine tail_rs _ _ _ _ _ _ _ _ _ _ _ _ _ _ _ _ _ _ _ _ _ _ _ _ _ _ _ _ _ _ _ _ _ _ _ _ _ _ _ _ _ _ _ _ _ _ _ _ _ _ _ _ _ _ _ _ _ _ _ _ _ _ _ _ _ _ _ _ _ _ _ _ _ _ _ _ _ _ _ _ _ _ _ _ _ _ _ _ _ _ _ _ _ _ _ _ _ _ _ _ _ _ _ _ _ _ _ _ _ _ _ _ _ _ _ _ _ _ _ _ _ _ _ _ _ _ _ _ _ _ _ _ _ _ _ _ _ _ _ _ _ _ _ _ _ _ _ _ _ _ _ (i:=j) (k:=m1) (Lp:=(L0++ [s])) (s:=(⟨s1,.slice none 0 0,[]⟩:SV)) (es:=es) HRS.out (segk_mv HES.out HMS.out HKS.out) hjl HEL.out (by have:=HM.out;first | omega | (simp;omega)) (by have:=HM.out;first | omega | (simp;omega)) (by simp) (fun _ _ _ _ _ h=>h) ?_;intro y132 y133 y134 y135 y136 y137 y138 y139 y140 y141 y142 y143 y144 y145 y146 y147 y148 y149 y150 y151 y152 y153 y154 we ve Kz re me;have HRE:=hid re;have HME:=hid (HMS.out.trans me);clear re me;go_wp2_with fail
         go_roundw
         case rel=>
          obtain⟨E1,hf1,hc1⟩:=HFO.out;obtain⟨hk1,hr1,hp1⟩:=HPI.out;have hinv:=HIX.out.put HWX.out HPO.out hk1 hr1;have hwho:=HWX.out.put' HPO.out hf1 hk1;have hle:putL (logOf (L0++ [s])) P=logOf ((L0++ [s])++ [⟨(⟨s1,.slice none 0 0,[]⟩:SV).n,ve,(⟨s1,.slice none 0 0,[]⟩:SV).l++ [es[j]]⟩]):=by rw[HPE.out];exact(putL_log_full L0 s es[j] ve h8).trans (by rw[←HSN.out,←HS1.out])
          have hme:=HMF.out;rw[hle] at hwho hp1;rw[hme] at hwho hp1 hinv;exact⟨j+1,_,_,Kz,_,_,E1,by go_num,by omega,hid (HRE.out.le (by omega)),HME,hid hinv,hid hwho,hid hc1,hid hp1⟩
         case measure=>simp [intOf];omega
        ·exfalso
         rw[hcu] at h10;dsimp only at h10;have:=HSN.out;omega
        ·rw[hsy,hnx] at hfu
         rw[hsy] at h2;have HFU:=hid (And.intro hfu (And.intro h1 (And.intro h2 h3)));clear hfu h1 h2 h3 hcu hsy hnx HPX hme hnw hwl hk9;go_upto_region 25 with fail
         rw[HCAST.out];refine app_full_rs _ _ _ _ _ _ _ _ _ _ _ _ _ _ _ _ _ _ _ _ _ _ _ _ _ _ _ _ _ _ _ _ _ _ _ _ _ _ _ _ _ _ _ _ _ _ _ _ _ _ _ _ _ _ _ _ _ _ _ _ _ _ _ _ _ _ _ _ _ _ _ _ _ _ _ _ _ _ _ _ _ _ _ _ _ _ _ _ _ _ _ _ _ _ _ _ _ _ _ _ _ _ _ _ _ _ _ _ _ _ _ _ _ _ _ _ _ _ _ _ _ _ _ _ _ _ _ _ _ _ _ _ _ _ _ _ _ _ _ _ _ _ _ _ _ _ _ _ _ _ _ _ (sn:=s1) (bs:=frm P) HR7.out HIS.out (by have:=HEL.out;have:=HN.out;omega) HNUM.out HRD7.out (fun e=>by cases e) HFL.out HFU.out.1 (fun _ _ _ _ _ h=>h) ?_;intro y107 y108 y109 y110 y111 y112 y113 wz hbz;have HRZ:=hid (HR7.out.below hbz);have HMZ:=hid (HM7.out.trans (Mv.of_below hbz));clear hbz;go_wp2_with fail
         go_ret
         obtain⟨-,h1,h2,h3⟩:=HFU.out;rw[h1,h2];exact⟨rfl,_,_,_,_,h3.symm,(HRZ.out.le (by omega)),HMZ.out⟩
      ·have hd8:decide ((8:Int)≤(sl:Int))=false:=decide_eq_false (by have:=HSLN.out;omega)
       have hsy:syncM Mx (curL (logOf (L0++ [s])))=Mx:=by rw[hcu];exact if_neg h8
       have hnx:(curL (logOf (L0++ [s]))).next=⟨sn,s.l.length⟩:=by rw[hcu,←HSN.out];exact next_same (by have:=hwl.1;omega) h8
       have hnw:=HWX.out.next' (.inr (by rw[hcu];dsimp only;omega));rw[hsy,hnx] at hnw;dsimp only at hnw;have hme:putM Mx (curL (logOf (L0++ [s]))) P=upd Mx (nameOf sn) (some (appF (Mx.at (nameOf sn)) (frm P))):=by rw[putM,hsy,hnx]
       have HMF:=hid hme;have HNUM:=hid hwl.2.1;have HSZ:=hid (fun ht=>(hnw.2.1 ht).1);rcases puts_inv HPX.out with hpi | ⟨h9,-⟩ | ⟨-,hfu,-⟩
       ·have hrm:=hpi.2.1
        rw[hsy,hnx] at hrm;dsimp only at hrm;have HRM:=hid hrm;have HPI:=hid hpi;clear hpi hrm hsy hnx HPX hme hnw hcu hwl;go_upto_region 25 with fail
        refine app_rs _ _ _ _ _ _ _ _ _ _ _ _ _ _ _ _ _ _ _ _ _ _ _ _ _ _ _ _ _ _ _ _ _ _ _ _ _ _ _ _ _ _ _ _ _ _ _ _ _ _ _ _ _ _ _ _ _ _ _ _ _ _ _ _ _ _ _ _ _ _ _ _ _ _ _ _ _ _ _ _ _ _ _ _ _ _ _ _ _ _ _ _ _ _ _ _ _ _ _ _ _ _ _ _ _ _ _ _ _ _ _ _ _ _ _ _ _ _ _ _ _ _ _ _ _ _ _ _ _ _ _ _ _ _ _ _ _ _ _ _ _ _ _ _ _ _ _ _ _ _ _ _ (sn:=sn) (bs:=frm P) HR6.out HIX.out (by have:=HEL.out;have:=HN.out;omega) HNUM.out HRD6.out (fun e=>by cases e) HFL.out HSZ.out HRM.out (fun _ _ _ _ _ h=>h) ?_;intro y107 y108 y109 y110 y111 y112 y113 wz Sz rz mz;have HRZ:=hid rz;have HMZ:=hid (HM6.out.trans mz);clear rz mz;have hm9:=HM.out;subst hm9;go_upto_region 31 with fail
        refine tail_rs _ _ _ _ _ _ _ _ _ _ _ _ _ _ _ _ _ _ _ _ _ _ _ _ _ _ _ _ _ _ _ _ _ _ _ _ _ _ _ _ _ _ _ _ _ _ _ _ _ _ _ _ _ _ _ _ _ _ _ _ _ _ _ _ _ _ _ _ _ _ _ _ _ _ _ _ _ _ _ _ _ _ _ _ _ _ _ _ _ _ _ _ _ _ _ _ _ _ _ _ _ _ _ _ _ _ _ _ _ _ _ _ _ _ _ _ _ _ _ _ _ _ _ _ _ _ _ _ _ _ _ _ _ _ _ _ _ _ _ _ _ _ _ _ _ _ _ _ _ _ _ (i:=j) (k:=L0.length) (Lp:=L0) (s:=s) (es:=es) HRZ.out (segk_mv HES.out HMZ.out HKS.out) hjl HEL.out (by simp) (by first | omega | (simp<;>omega)) (by have:=HSL.out;omega) (fun _ _ _ _ _ h=>h) ?_;intro y132 y133 y134 y135 y136 y137 y138 y139 y140 y141 y142 y143 y144 y145 y146 y147 y148 y149 y150 y151 y152 y153 y154 we ve Kz re me;have HRE:=hid re;have HME:=hid (HMZ.out.trans me);clear re me;go_wp2_with fail
        go_roundw
        case rel=>
         obtain⟨E1,hf1,hc1⟩:=HFO.out;obtain⟨hk1,hr1,hp1⟩:=HPI.out;have hinv:=HIX.out.put HWX.out HPO.out hk1 hr1;have hwho:=HWX.out.put' HPO.out hf1 hk1;have hle:putL (logOf (L0++ [s])) P=logOf (L0++ [⟨s.n,ve,s.l++ [es[j]]⟩]):=by rw[HPE.out];exact putL_log_more L0 s es[j] ve h8
         have hme:=HMF.out;rw[hle] at hwho hp1;rw[hme] at hwho hp1 hinv;exact⟨j+1,_,_,Kz,_,_,E1,by go_num,by omega,hid (HRE.out.le (by omega)),HME,hid hinv,hid hwho,hid hc1,hid hp1⟩
        case measure=>simp [intOf];omega
       ·exact absurd h9 (by rw[hcu];exact h8)
       ·rw[hsy,hnx] at hfu
        have:=hfu.1;rw[hwl.2.2] at this;cases this
    ·have dk:decide ((j:Int)<(N:Int))=false:=decide_eq_false (by omega)
     have dk2:decide (j<N)=false:=decide_eq_false hlt;have hd0:es.drop j= []:=List.drop_of_length_le (by have:=HN.out;omega);have hj2:j=N:=by omega
     subst hj2;rw[hd0] at HPX;have hp0:=HPX.out;rw[List.map_nil] at hp0;have HE:=hid (show er=0∧Mx=M2∧logOf Lx=L2 by cases hp0;exact⟨rfl,rfl,rfl⟩);clear hp0 hd0;go_wp2_with fail
     go_ret
     obtain⟨h1,h2,h3⟩:=HE.out;subst h1 h2;exact⟨rfl,Sx,Tx,Kx,Lx,h3,HRX.out,HMX.out⟩
end Rl
end Go.Proofs.YtalfbcbnljhldaaGreatDoor
