/-  -/
import Derived.Test.YtalfbcbnljhldaaGreatDoorMan
import Derived.BigQuiet
import Derived.Deep.QuietTactic
import Derived.Test.YtalfbcbnljhldaaGreatDoorMae
set_option linter.unusedSimpArgs false
namespace Go.Proofs.YtalfbcbnljhldaaGreatDoor
open Go.Lib (hid)
open Go.RowKit Go.Maps Dsk Rd Wl
namespace Rl
def slLen:Value→Nat
 | .slice _ n _=>n
 | _=>0
theorem many_drew (w:World) (n:Nat):Below w.heap.size w (w.drewN n):=⟨rfl,rfl,rfl,Nat.le_refl _,fun _ _=>rfl⟩
theorem followP_no {l:List EV} {p:EV} (h:follows (lastP l) p.1.ix=false):followP l p=none:=by
 unfold followP;rw[h];rfl
theorem followP_yes {l:List EV} {p:EV} (h:follows (lastP l) p.1.ix=true):followP l p=some (cutP p.1.ix l++ [p]):=by
 unfold followP;rw[h];rfl
section
variable {w:World} {a:Option Addr} {ps:List EV}
set_option maxRecDepth 100000 in
set_option maxHeartbeats 8000000 in
theorem row_any (hz:ReadsP w a ps) (hq:Fine ps) (hl:ps.length≤1000000) (c:Nat):
  Calls Tryz.prog 33 #[.slice a ps.length c] w fun e w'=> ∃la lc l k,e= .returned (.tuple #[.slice la l.length lc,.int .i64 ((k:Nat):Int)])∧RowIs ps l k∧RowP w' w.heap.size (.slice la l.length lc) l∧Below w.heap.size w w':=by
 obtain⟨N,hN⟩: ∃x,x=ps.length:=⟨_,rfl⟩;rw[←hN] at hl ⊢;have HZ:=hid hz;have HQ:=hid hq;have HN:=hid hN;have hNm:(N:Int)≤1000000:=by omega
 have HB0:=hid (Below.refl w.heap.size w);have HE0:=hid (World.ownsRow_nil w w.heap.size 55 3:RowP w w.heap.size (.slice none 0 0) []);clear hz hq hN;go_enter Tryz.func33,Tryz.ntmps33
 go_wp2_with fail
 go_loopw [2,4] (fun v2 v4 wr=> ∃(k:Nat) (l:List EV),v4= .int .i64 (k:Int)∧k≤N∧Hid (chainP [] (ps.take k)=some l)∧Hid (RowP wr w.heap.size v2 l)∧Hid (Below w.heap.size w wr)) (fun _ v4 _=>N - (intOf v4).toNat)
 case atStart=>exact⟨0,[],rfl,Nat.zero_le _,hid rfl,HE0,HB0⟩
 case round=>
  obtain⟨k,l,rfl,hk,HC,HR,HB⟩:=hrel;by_cases hlt:k<N
  ·have hkp:k<ps.length:=by rw[←HN.out];exact hlt
   obtain⟨p,hp⟩: ∃p,p=ps[k]:=⟨_,rfl⟩;obtain⟨g,o,rfl,hg,c0,c1,c2⟩:=(HZ.out.below HB.out).at_ hkp;rw[←hp] at c0 c1 c2;have hfine:=HQ.out ps[k] (List.getElem_mem hkp);rw[←hp] at hfine;have HF:=hid hfine;have HTK:=hid (show ps.take (k+1)=ps.take k++ [p] by rw[List.take_succ_eq_append_getElem hkp,hp]);have dk:decide ((k:Int)<(N:Int))=true:=decide_eq_true (by omega);have dk2:decide (k<N)=true:=decide_eq_true hlt;have dk3:decide ((k:Int)<0)=false:=by simp
   have hk0:(0:Int)≤k:=by omega
   have hk1:(k:Int)≤1000000:=by omega
   have hk2:(k:Int)<(N:Int):=by omega
   obtain⟨⟨px,pt,pb⟩,p2⟩:=p;obtain⟨hpx1,-,pa,pn,pc,rfl⟩:=HF.out;dsimp only at c0 c1 c2 hpx1;have HFP:=hid (fun e he=>by simp at he;rw[he];exact HF.out:Fine [((⟨px,pt,pb⟩,.slice pa pn pc):EV)]);have HSTOP:=hid (fun(h:follows (lastP l) px=false)=>show chainP [] (ps.take (k+1))=none by
    rw[HTK.out,chainP_snoc _ _ _ HC.out];exact followP_no h)
   have HPOS:=hid (chainP_pos _ _ (fun e he=>by cases he) HC.out);have HFI:=hid (fun e he=>HQ.out e (by
    rcases chainP_mem _ _ HC.out e he with h | h
    ·cases h
    ·exact List.mem_of_mem_take h):Fine l)
   have hlen:=chainP_len _ _ HC.out;rw[List.length_nil,List.length_take] at hlen;have HLM:=hid (show l.length≤1000000 by have:=Nat.min_le_left k ps.length;omega);clear hp hfine hg hlen;go_wp2_with fail
   have hal:Below wr.heap.size wr (wr.alloc (.cells #[.int .u64 (px:Int),.int .u64 (pt:Int),.slice pa pn pc] 55)):=(Below.refl _ _).alloc (Nat.le_refl _) _;have hbx:=heap_alloc_new wr (.cells #[.int .u64 (px:Int),.int .u64 (pt:Int),.slice pa pn pc] 55);obtain⟨W0,hW⟩: ∃W,W=wr.alloc (.cells #[.int .u64 (px:Int),.int .u64 (pt:Int),.slice pa pn pc] 55):=⟨_,rfl⟩;rw[←hW] at hal hbx ⊢;obtain⟨b,hb⟩: ∃b,b=wr.heap.size:=⟨_,rfl⟩;rw[←hb] at hbx ⊢;have x0:W0.cell? ⟨b,0,none⟩=some (.int .u64 (px:Int)):=by rw[cell_of_row _ _ _ _ _ _ hbx];rfl
   have x1:W0.cell? ⟨b,1,none⟩=some (.int .u64 (pt:Int)):=by rw[cell_of_row _ _ _ _ _ _ hbx];rfl
   have x2:W0.cell? ⟨b,2,none⟩=some (.slice pa pn pc):=by rw[cell_of_row _ _ _ _ _ _ hbx];rfl
   have HR0:=hid (show RowP W0 w.heap.size u2 l from ownsRow_keep HR.out fun k e=>hal.block k (World.ownsRow.lt HR.out k e).2);have HBW0:=hid (HB.out.trans (hal.mono HB.out.size));have HX0:=hid (⟨x0,x1,x2⟩:W0.cell? ⟨b,0,none⟩=some (.int .u64 (px:Int))∧W0.cell? ⟨b,1,none⟩=some (.int .u64 (pt:Int))∧W0.cell? ⟨b,2,none⟩=some (.slice pa pn pc));have HOPEN:=hid (fun nq=>(⟨ownsRow_keep HR0.out fun k e=>(many_drew W0 nq).block k (World.ownsRow.lt HR0.out k e).2,HBW0.out.trans ((many_drew W0 nq).mono HBW0.out.size),stays' (many_drew W0 nq) x0,stays' (many_drew W0 nq) x1,stays' (many_drew W0 nq) x2⟩:RowP (W0.drewN nq) w.heap.size u2 l∧Below w.heap.size w (W0.drewN nq)∧(W0.drewN nq).cell? ⟨b,0,none⟩=some (.int .u64 (px:Int))∧(W0.drewN nq).cell? ⟨b,1,none⟩=some (.int .u64 (pt:Int))∧(W0.drewN nq).cell? ⟨b,2,none⟩=some (.slice pa pn pc)));clear hal hbx hW hb x1 x2 c0 c1 c2;obtain⟨la0,lc0,hv,_⟩:=slice_shape HR0.out;subst hv;by_cases hx0:px=0
   ·have e0:((px:Int) == 0)=true:=by simp;omega
    have HST:=HSTOP.out (by unfold follows;rw[decide_eq_false (by omega)];rfl);go_quiet (fail)
    obtain⟨hr1,hb1,-⟩:=HOPEN.out nq;go_wp2_with fail
    go_ret2
    have hlen:=HN.out;exact⟨la0,lc0,l,k,rfl,⟨by omega,HC.out,fun _=>HST⟩,hr1,hb1⟩
   ·have e0:((px:Int) == 0)=false:=by simp;omega
    rcases List.eq_nil_or_concat l with hl0 | ⟨r,q,hlq⟩
    ·have hl00:l.length=0:=by rw[hl0];rfl
     have HFOL:=hid (show followP l ((⟨px,pt,pb⟩,.slice pa pn pc):EV)=some (cutP px l++ [((⟨px,pt,pb⟩,.slice pa pn pc):EV)]) from followP_yes (by rw[hl0];unfold follows lastP;simp [lastIx_nil];omega));clear hl0;go_quiet (fail)
     obtain⟨hr1,hb1,hx1⟩:=HOPEN.out nq;obtain⟨W,hW⟩: ∃W,W=W0.drewN nq:=⟨_,rfl⟩;rw[←hW] at hr1 hb1 hx1 ⊢;have HRW:=hid hr1;have HBW:=hid hb1;have HXW:=hid hx1;clear hr1 hb1 hx1 hW HOPEN HX0 HBW0 x0;go_wp2_with fail
     go_loopw [2] (fun x2 wq=> ∃(m:Nat) (la:Option Addr) (lc:Nat) (l2:List EV),x2= .slice la m lc∧m≤1000000∧Hid (cutP px l=cutP px l2)∧Hid (RowP wq w.heap.size (.slice la m lc) l2)∧Hid (∀e∈l2,e∈l)∧Hid (Below W.heap.size W wq)) (fun x2 _=>slLen x2)
     case atStart=>exact⟨_,_,_,l,rfl,HLM.out,hid rfl,HRW,hid (fun _ h=>h),hid (Below.refl _ _)⟩
     case round=>
      obtain⟨m,la,lc,l2,rfl,hm,HCU,HRI,HME,HBI⟩:=hrel;have x0:=stays' HBI.out HXW.out.1;rcases List.eq_nil_or_concat l2 with rfl | ⟨r2,q2,rfl⟩
      ·obtain rfl:m=0:=HRI.out.reads.2.1
       go_wp2_with fail
       go_quiet (fail)
       obtain⟨Wx,hWx⟩: ∃x,x=wr.drewN nq:=⟨_,rfl⟩;rw[←hWx];have hbx:Below wr.heap.size wr Wx:=by rw[hWx];exact many_drew _ _
       obtain⟨l2,hl2⟩: ∃x:List EV,x= []:=⟨_,rfl⟩;rw[←hl2] at HRI HCU HME;have HCUT:=hid (show cutP px l=l2 by rw[HCU.out,hl2];rfl);clear hl2;have HRQ:=hid (ownsRow_keep HRI.out fun k e=>hbx.block k (World.ownsRow.lt HRI.out k e).2);have HXQ:=hid (⟨stays' hbx (stays' HBI.out HXW.out.1),stays' hbx (stays' HBI.out HXW.out.2.1),stays' hbx (stays' HBI.out HXW.out.2.2)⟩:Wx.cell? ⟨b,0,none⟩=some (.int .u64 (px:Int))∧Wx.cell? ⟨b,1,none⟩=some (.int .u64 (pt:Int))∧Wx.cell? ⟨b,2,none⟩=some (.slice pa pn pc));have HBQ:=hid ((HBW.out.trans (HBI.out.mono HBW.out.size)).trans (hbx.mono (Nat.le_trans HBW.out.size HBI.out.size)));have HFL:=hid (fun e he=>HFI.out e (HME.out e he):Fine l2);have HLL:=hid (show l2.length≤1000000000 by have:=HRI.out.reads.2.1;omega);clear hbx hWx x0;go_wp2_with fail
       have HRD:=hid (RowP.reads HRQ.out);obtain⟨u,hu⟩: ∃u,u=Wx.drew:=⟨_,rfl⟩;have HBu:=hid (show Below Wx.heap.size Wx u by rw[hu];exact(Below.refl _ _).drew);refine wp_region_heldM_drew 6 (S:=fun W=>W.cell? ⟨b,0,none⟩=some (.int .u64 (px:Int))∧W.cell? ⟨b,1,none⟩=some (.int .u64 (pt:Int))∧W.cell? ⟨b,2,none⟩=some (.slice pa pn pc)) (by kernel_rfl) (by rw[←hu];exact⟨stays' HBu.out HXQ.out.1,stays' HBu.out HXQ.out.2.1,stays' HBu.out HXQ.out.2.2⟩) (fun hHeld=>?_);rw[←hu] at hHeld ⊢;clear hu;have HCK:=hid (fun W (hW:Below u.heap.size u W)=>(⟨stays' hW (stays' HBu.out HXQ.out.1),stays' hW (stays' HBu.out HXQ.out.2.1),stays' hW (stays' HBu.out HXQ.out.2.2)⟩:W.cell? ⟨b,0,none⟩=some (.int .u64 (px:Int))∧W.cell? ⟨b,1,none⟩=some (.int .u64 (pt:Int))∧W.cell? ⟨b,2,none⟩=some (.slice pa pn pc)));have HRL:=hid (HRD.out.1.below HBu.out);have HM:=hid HRD.out.2.1;have HNA:=hid HRD.out.2.2;have HBU:=hid (HBQ.out.trans (HBu.out.mono HBQ.out.size));have HA0:=hid (A9.start u);refine zkM 1 (v:=?_) (h2:=?_) (h:=?_);rotate_left;focus (rintro W ⟨q1,q2,q3⟩;go_simp;(try with_reducible rfl))
       try simp only[Act.put,zsA,zsS,zsZ]
       refine zkM 3 (v:=?_) (h2:=?_) (h:=?_);rotate_left;focus (rintro W ⟨q1,q2,q3⟩;go_simp;(try with_reducible rfl))
       try simp only[Act.put,zsA,zsS,zsZ]
       refine wpAnyM_ready (rs:= [0,4]) (by kernel_rfl) (by simp) ?_;refine AllReadyM.cons (o:=?_) ?_ rfl (fun K hK=>?_) ?_;rotate_left;focus (simp only[zgT,zgS,zgZ];rfl)
       rw[if_pos (by rfl)]
       ·go_simp
        have hA:=HA0.out.empty;obtain⟨ga,hga⟩: ∃x,x=u.heap.size:=⟨_,rfl⟩;obtain⟨W1,hW⟩: ∃x,x=u.alloc (.cells #[] 55):=⟨_,rfl⟩;rw[←hga,←hW] at hA;rw[←hga,←hW];have HA1:=hid hA;have hs:=HCK.out _ hA.bel;clear hA hga hW;refine hK.out _ _ hs (fun hHeld=>?_);clear hK K;try simp only[Act.put,zsA,zsS,zsZ]
        refine wpAnyM_ready (rs:= [2,4]) (by kernel_rfl) (by simp) ?_;refine AllReadyM.cons (o:=?_) ?_ rfl (fun K hK=>?_) ?_;rotate_left;focus (simp only[zgT,zgS,zgZ];rfl)
        rw[if_pos (by rfl)]
        ·obtain⟨v1,W2,hrun,hA,-⟩:=HA1.out.app (by simp) HM.out (HRL.out.below HA1.out.bel) HFL.out HLL.out HNA.out
         refine wp_append_runR rfl rfl rfl hrun ?_;have HA2:=hid hA;have hs:=HCK.out _ hA.bel;clear hA hrun;refine hK.out _ _ hs (fun hHeld=>?_);clear hK K;try simp only[Act.put,zsA,zsS,zsZ]
         refine zrM 4 (h:=fun K hK=>?_);rw[if_pos (by rfl)];go_simp
         have hA:A9 u (W2.alloc (.cells #[.int .u64 (px:Int),.int .u64 (pt:Int),.slice pa pn pc] 55)) _ _ ((W2.heap.size,((⟨px,pt,pb⟩,.slice pa pn pc):EV))::_):=HA2.out.lit ((⟨px,pt,pb⟩,.slice pa pn pc):EV);obtain⟨gb,hgb⟩: ∃x,x=W2.heap.size:=⟨_,rfl⟩;obtain⟨W3,hW⟩: ∃x,x=W2.alloc (.cells #[.int .u64 (px:Int),.int .u64 (pt:Int),.slice pa pn pc] 55):=⟨_,rfl⟩;rw[←hgb,←hW] at hA;rw[←hgb,←hW];have HA3:=hid hA;have hs:=HCK.out _ hA.bel;clear hA hgb hW;refine hK.out _ _ hs (fun hHeld=>?_);clear hK K;try simp only[Act.put,zsA,zsS,zsZ]
         refine zrM 5 (h:=fun K hK=>?_);rw[if_pos (by rfl)];obtain⟨v2,W4,hrun,hA,-⟩:=HA3.out.app1 (by have:=HLL.out;simp;omega) (s:=gb) (p:=((⟨px,pt,pb⟩,.slice pa pn pc):EV)) (by simp) HFP.out;refine wp_append_runR rfl rfl rfl hrun ?_;have HA4:=hid hA;have hs:=HCK.out _ hA.bel;clear hA hrun;refine hK.out _ _ hs (fun hHeld=>?_);clear hK K;try simp only[Act.put,zsA,zsS,zsZ]
         refine zrL 6 (h:=fun K hK=>?_);rw[if_pos (by rfl)];go_simp
         refine hK.out _ _ ?_;clear hK K;try simp only[Act.put,zsA,zsS,zsZ]
         go_wp2_with fail
         go_roundw
         case rel=>
          refine⟨k+1,l2++ [((⟨px,pt,pb⟩,.slice pa pn pc):EV)],by go_num,by omega,hid ?_,hid ?_,hid (HBU.out.trans (HA4.out.bel.mono HBU.out.size))⟩
          ·rw[HTK.out,chainP_snoc _ _ _ HC.out,HFOL.out,HCUT.out]
          ·have h:=HA4.out.row
           rw[List.nil_append] at h;exact ownsRow_less h HBU.out.size
         case measure=>simp [intOf];omega
        refine AllReadyM.cons (o:=?_) ?_ rfl (fun K hK=>?_) AllReadyM.nil;rotate_left;focus (simp only[zgT,zgS,zgZ];rfl)
        rw[if_pos (by rfl)];go_simp
        have hA:A9 u (W1.alloc (.cells #[.int .u64 (px:Int),.int .u64 (pt:Int),.slice pa pn pc] 55)) _ _ ((W1.heap.size,((⟨px,pt,pb⟩,.slice pa pn pc):EV))::_):=HA1.out.lit ((⟨px,pt,pb⟩,.slice pa pn pc):EV);obtain⟨gb,hgb⟩: ∃x,x=W1.heap.size:=⟨_,rfl⟩;obtain⟨W2,hW⟩: ∃x,x=W1.alloc (.cells #[.int .u64 (px:Int),.int .u64 (pt:Int),.slice pa pn pc] 55):=⟨_,rfl⟩;rw[←hgb,←hW] at hA;rw[←hgb,←hW];have HA2:=hid hA;have hs:=HCK.out _ hA.bel;clear hA hgb hW;refine hK.out _ _ hs (fun hHeld=>?_);clear hK K;try simp only[Act.put,zsA,zsS,zsZ]
        refine zrM 2 (h:=fun K hK=>?_);rw[if_pos (by rfl)];obtain⟨v1,W3,hrun,hA,-⟩:=HA2.out.app (by simp) HM.out (HRL.out.below HA2.out.bel) HFL.out HLL.out HNA.out;refine wp_append_runR rfl rfl rfl hrun ?_;have HA3:=hid hA;have hs:=HCK.out _ hA.bel;clear hA hrun;refine hK.out _ _ hs (fun hHeld=>?_);clear hK K;try simp only[Act.put,zsA,zsS,zsZ]
        refine zrM 5 (h:=fun K hK=>?_);rw[if_pos (by rfl)];obtain⟨v2,W4,hrun,hA,-⟩:=HA3.out.app1 (by have:=HLL.out;simp;omega) (s:=gb) (p:=((⟨px,pt,pb⟩,.slice pa pn pc):EV)) (by simp) HFP.out;refine wp_append_runR rfl rfl rfl hrun ?_;have HA4:=hid hA;have hs:=HCK.out _ hA.bel;clear hA hrun;refine hK.out _ _ hs (fun hHeld=>?_);clear hK K;try simp only[Act.put,zsA,zsS,zsZ]
        refine zrL 6 (h:=fun K hK=>?_);rw[if_pos (by rfl)];go_simp
        refine hK.out _ _ ?_;clear hK K;try simp only[Act.put,zsA,zsS,zsZ]
        go_wp2_with fail
        go_roundw
        case rel=>
         refine⟨k+1,l2++ [((⟨px,pt,pb⟩,.slice pa pn pc):EV)],by go_num,by omega,hid ?_,hid ?_,hid (HBU.out.trans (HA4.out.bel.mono HBU.out.size))⟩
         ·rw[HTK.out,chainP_snoc _ _ _ HC.out,HFOL.out,HCUT.out]
         ·have h:=HA4.out.row
          rw[List.nil_append] at h;exact ownsRow_less h HBU.out.size
        case measure=>simp [intOf];omega
       refine AllReadyM.cons (o:=?_) ?_ rfl (fun K hK=>?_) AllReadyM.nil;rotate_left;focus (simp only[zgT,zgS,zgZ];rfl)
       rw[if_pos (by rfl)];go_simp
       have hA:A9 u (u.alloc (.cells #[.int .u64 (px:Int),.int .u64 (pt:Int),.slice pa pn pc] 55)) _ _ ((u.heap.size,((⟨px,pt,pb⟩,.slice pa pn pc):EV))::_):=HA0.out.lit ((⟨px,pt,pb⟩,.slice pa pn pc):EV);obtain⟨gb,hgb⟩: ∃x,x=u.heap.size:=⟨_,rfl⟩;obtain⟨W1,hW⟩: ∃x,x=u.alloc (.cells #[.int .u64 (px:Int),.int .u64 (pt:Int),.slice pa pn pc] 55):=⟨_,rfl⟩;rw[←hgb,←hW] at hA;rw[←hgb,←hW];have HA1:=hid hA;have hs:=HCK.out _ hA.bel;clear hA hgb hW;refine hK.out _ _ hs (fun hHeld=>?_);clear hK K;try simp only[Act.put,zsA,zsS,zsZ]
       refine zrM 0 (h:=fun K hK=>?_);rw[if_pos (by rfl)];go_simp
       have hA:=HA1.out.empty;obtain⟨ga,hga⟩: ∃x,x=W1.heap.size:=⟨_,rfl⟩;obtain⟨W2,hW⟩: ∃x,x=W1.alloc (.cells #[] 55):=⟨_,rfl⟩;rw[←hga,←hW] at hA;rw[←hga,←hW];have HA2:=hid hA;have hs:=HCK.out _ hA.bel;clear hA hga hW;refine hK.out _ _ hs (fun hHeld=>?_);clear hK K;try simp only[Act.put,zsA,zsS,zsZ]
       refine zrM 2 (h:=fun K hK=>?_);rw[if_pos (by rfl)];obtain⟨v1,W3,hrun,hA,-⟩:=HA2.out.app (by simp) HM.out (HRL.out.below HA2.out.bel) HFL.out HLL.out HNA.out;refine wp_append_runR rfl rfl rfl hrun ?_;have HA3:=hid hA;have hs:=HCK.out _ hA.bel;clear hA hrun;refine hK.out _ _ hs (fun hHeld=>?_);clear hK K;try simp only[Act.put,zsA,zsS,zsZ]
       refine zrM 5 (h:=fun K hK=>?_);rw[if_pos (by rfl)];obtain⟨v2,W4,hrun,hA,-⟩:=HA3.out.app1 (by have:=HLL.out;simp;omega) (s:=gb) (p:=((⟨px,pt,pb⟩,.slice pa pn pc):EV)) (by simp) HFP.out;refine wp_append_runR rfl rfl rfl hrun ?_;have HA4:=hid hA;have hs:=HCK.out _ hA.bel;clear hA hrun;refine hK.out _ _ hs (fun hHeld=>?_);clear hK K;try simp only[Act.put,zsA,zsS,zsZ]
       refine zrL 6 (h:=fun K hK=>?_);rw[if_pos (by rfl)];go_simp
       refine hK.out _ _ ?_;clear hK K;try simp only[Act.put,zsA,zsS,zsZ]
       go_wp2_with fail
       go_roundw
       case rel=>
        refine⟨k+1,l2++ [((⟨px,pt,pb⟩,.slice pa pn pc):EV)],by go_num,by omega,hid ?_,hid ?_,hid (HBU.out.trans (HA4.out.bel.mono HBU.out.size))⟩
        ·rw[HTK.out,chainP_snoc _ _ _ HC.out,HFOL.out,HCUT.out]
        ·have h:=HA4.out.row
         rw[List.nil_append] at h;exact ownsRow_less h HBU.out.size
       case measure=>simp [intOf];omega
      ·rw[List.concat_eq_append] at HRI HCU HME
       obtain⟨n2,hn2⟩: ∃n,(r2++ [q2]).length=n+1:=⟨r2.length,by simp⟩;obtain rfl:m=n2+1:=by rw[←hn2];exact HRI.out.reads.2.1
       obtain⟨g3,o3,rfl,hg3,y0,-,-⟩:=(HRI.out.reads).1.at_ (i:=n2) (by rw[hn2];omega);have hq2:(r2++ [q2])[n2]'(by rw[hn2];omega)=q2:=by
        have:n2=r2.length:=by simp at hn2;omega
        subst this;simp
       rw[hq2] at y0;obtain⟨qx,hqx⟩: ∃x,x=q2.1.ix:=⟨_,rfl⟩;rw[←hqx] at y0;have hnm:(n2:Int)≤1000000:=by omega
       have hcap:=HRI.out.cap;have hcap1:(n2:Int)≤(lc:Int):=by omega
       have hcap2:n2≤lc:=by omega
       clear hcap;have HQX:=hid hqx;clear hqx hq2 hg3;by_cases hge:px≤qx
       ·have dg:decide ((px:Int)≤(qx:Int))=true:=decide_eq_true (by omega)
        have dg2:decide (px≤qx)=true:=decide_eq_true hge;go_wp2_with fail
        go_quiet (fail)
        go_wp2_with fail
        go_roundw
        case rel=>
         refine⟨n2,_,_,r2,rfl,by omega,hid ?_,hid ?_,hid ?_,hid (HBI.out.trans ((many_drew _ _).mono HBI.out.size))⟩
         ·rw[HCU.out];exact cutP_yes (by rw[←HQX.out];exact hge)
         ·exact ownsRow_keep (RowP.pop HRI.out) fun k e=>(many_drew wr nq).block k (World.ownsRow.lt (RowP.pop HRI.out) k e).2
         ·exact fun e he=>HME.out e (by simp [he])
        case measure=>simp [slLen]
       ·have dg:decide ((px:Int)≤(qx:Int))=false:=decide_eq_false (by omega)
        have dg2:decide (px≤qx)=false:=decide_eq_false hge;go_wp2_with fail
        go_quiet (fail)
        obtain⟨Wx,hWx⟩: ∃x,x=wr.drewN nq:=⟨_,rfl⟩;rw[←hWx];have hbx:Below wr.heap.size wr Wx:=by rw[hWx];exact many_drew _ _
        have HCUT:=hid (show cutP px l=r2++ [q2] by rw[HCU.out];exact cutP_no (by rw[←HQX.out];exact hge));obtain⟨l2,hl2⟩: ∃x:List EV,x=r2++ [q2]:=⟨_,rfl⟩;rw[←hl2] at HRI HCU HME HCUT;clear hn2 hnm y0 HQX hge dg dg2 hl2 hcap1 hcap2;have HRQ:=hid (ownsRow_keep HRI.out fun k e=>hbx.block k (World.ownsRow.lt HRI.out k e).2);have HXQ:=hid (⟨stays' hbx (stays' HBI.out HXW.out.1),stays' hbx (stays' HBI.out HXW.out.2.1),stays' hbx (stays' HBI.out HXW.out.2.2)⟩:Wx.cell? ⟨b,0,none⟩=some (.int .u64 (px:Int))∧Wx.cell? ⟨b,1,none⟩=some (.int .u64 (pt:Int))∧Wx.cell? ⟨b,2,none⟩=some (.slice pa pn pc));have HBQ:=hid ((HBW.out.trans (HBI.out.mono HBW.out.size)).trans (hbx.mono (Nat.le_trans HBW.out.size HBI.out.size)));have HFL:=hid (fun e he=>HFI.out e (HME.out e he):Fine l2);have HLL:=hid (show l2.length≤1000000000 by have:=HRI.out.reads.2.1;omega);clear hbx hWx x0;go_wp2_with fail
        have HRD:=hid (RowP.reads HRQ.out);obtain⟨u,hu⟩: ∃u,u=Wx.drew:=⟨_,rfl⟩;have HBu:=hid (show Below Wx.heap.size Wx u by rw[hu];exact(Below.refl _ _).drew);refine wp_region_heldM_drew 6 (S:=fun W=>W.cell? ⟨b,0,none⟩=some (.int .u64 (px:Int))∧W.cell? ⟨b,1,none⟩=some (.int .u64 (pt:Int))∧W.cell? ⟨b,2,none⟩=some (.slice pa pn pc)) (by kernel_rfl) (by rw[←hu];exact⟨stays' HBu.out HXQ.out.1,stays' HBu.out HXQ.out.2.1,stays' HBu.out HXQ.out.2.2⟩) (fun hHeld=>?_);rw[←hu] at hHeld ⊢;clear hu;have HCK:=hid (fun W (hW:Below u.heap.size u W)=>(⟨stays' hW (stays' HBu.out HXQ.out.1),stays' hW (stays' HBu.out HXQ.out.2.1),stays' hW (stays' HBu.out HXQ.out.2.2)⟩:W.cell? ⟨b,0,none⟩=some (.int .u64 (px:Int))∧W.cell? ⟨b,1,none⟩=some (.int .u64 (pt:Int))∧W.cell? ⟨b,2,none⟩=some (.slice pa pn pc)));have HRL:=hid (HRD.out.1.below HBu.out);have HM:=hid HRD.out.2.1;have HNA:=hid HRD.out.2.2;have HBU:=hid (HBQ.out.trans (HBu.out.mono HBQ.out.size));have HA0:=hid (A9.start u);refine zkM 1 (v:=?_) (h2:=?_) (h:=?_);rotate_left;focus (rintro W ⟨q1,q2,q3⟩;go_simp;(try with_reducible rfl))
        try simp only[Act.put,zsA,zsS,zsZ]
        refine zkM 3 (v:=?_) (h2:=?_) (h:=?_);rotate_left;focus (rintro W ⟨q1,q2,q3⟩;go_simp;(try with_reducible rfl))
        try simp only[Act.put,zsA,zsS,zsZ]
        refine wpAnyM_ready (rs:= [0,4]) (by kernel_rfl) (by simp) ?_;refine AllReadyM.cons (o:=?_) ?_ rfl (fun K hK=>?_) ?_;rotate_left;focus (simp only[zgT,zgS,zgZ];rfl)
        rw[if_pos (by rfl)]
        ·go_simp
         have hA:=HA0.out.empty;obtain⟨ga,hga⟩: ∃x,x=u.heap.size:=⟨_,rfl⟩;obtain⟨W1,hW⟩: ∃x,x=u.alloc (.cells #[] 55):=⟨_,rfl⟩;rw[←hga,←hW] at hA;rw[←hga,←hW];have HA1:=hid hA;have hs:=HCK.out _ hA.bel;clear hA hga hW;refine hK.out _ _ hs (fun hHeld=>?_);clear hK K;try simp only[Act.put,zsA,zsS,zsZ]
         refine wpAnyM_ready (rs:= [2,4]) (by kernel_rfl) (by simp) ?_;refine AllReadyM.cons (o:=?_) ?_ rfl (fun K hK=>?_) ?_;rotate_left;focus (simp only[zgT,zgS,zgZ];rfl)
         rw[if_pos (by rfl)]
         ·obtain⟨v1,W2,hrun,hA,-⟩:=HA1.out.app (by simp) HM.out (HRL.out.below HA1.out.bel) HFL.out HLL.out HNA.out
          refine wp_append_runR rfl rfl rfl hrun ?_;have HA2:=hid hA;have hs:=HCK.out _ hA.bel;clear hA hrun;refine hK.out _ _ hs (fun hHeld=>?_);clear hK K;try simp only[Act.put,zsA,zsS,zsZ]
          refine zrM 4 (h:=fun K hK=>?_);rw[if_pos (by rfl)];go_simp
          have hA:A9 u (W2.alloc (.cells #[.int .u64 (px:Int),.int .u64 (pt:Int),.slice pa pn pc] 55)) _ _ ((W2.heap.size,((⟨px,pt,pb⟩,.slice pa pn pc):EV))::_):=HA2.out.lit ((⟨px,pt,pb⟩,.slice pa pn pc):EV);obtain⟨gb,hgb⟩: ∃x,x=W2.heap.size:=⟨_,rfl⟩;obtain⟨W3,hW⟩: ∃x,x=W2.alloc (.cells #[.int .u64 (px:Int),.int .u64 (pt:Int),.slice pa pn pc] 55):=⟨_,rfl⟩;rw[←hgb,←hW] at hA;rw[←hgb,←hW];have HA3:=hid hA;have hs:=HCK.out _ hA.bel;clear hA hgb hW;refine hK.out _ _ hs (fun hHeld=>?_);clear hK K;try simp only[Act.put,zsA,zsS,zsZ]
          refine zrM 5 (h:=fun K hK=>?_);rw[if_pos (by rfl)];obtain⟨v2,W4,hrun,hA,-⟩:=HA3.out.app1 (by have:=HLL.out;simp;omega) (s:=gb) (p:=((⟨px,pt,pb⟩,.slice pa pn pc):EV)) (by simp) HFP.out;refine wp_append_runR rfl rfl rfl hrun ?_;have HA4:=hid hA;have hs:=HCK.out _ hA.bel;clear hA hrun;refine hK.out _ _ hs (fun hHeld=>?_);clear hK K;try simp only[Act.put,zsA,zsS,zsZ]
          refine zrL 6 (h:=fun K hK=>?_);rw[if_pos (by rfl)];go_simp
          refine hK.out _ _ ?_;clear hK K;try simp only[Act.put,zsA,zsS,zsZ]
          go_wp2_with fail
          go_roundw
          case rel=>
           refine⟨k+1,l2++ [((⟨px,pt,pb⟩,.slice pa pn pc):EV)],by go_num,by omega,hid ?_,hid ?_,hid (HBU.out.trans (HA4.out.bel.mono HBU.out.size))⟩
           ·rw[HTK.out,chainP_snoc _ _ _ HC.out,HFOL.out,HCUT.out]
           ·have h:=HA4.out.row
            rw[List.nil_append] at h;exact ownsRow_less h HBU.out.size
          case measure=>simp [intOf];omega
         refine AllReadyM.cons (o:=?_) ?_ rfl (fun K hK=>?_) AllReadyM.nil;rotate_left;focus (simp only[zgT,zgS,zgZ];rfl)
         rw[if_pos (by rfl)];go_simp
         have hA:A9 u (W1.alloc (.cells #[.int .u64 (px:Int),.int .u64 (pt:Int),.slice pa pn pc] 55)) _ _ ((W1.heap.size,((⟨px,pt,pb⟩,.slice pa pn pc):EV))::_):=HA1.out.lit ((⟨px,pt,pb⟩,.slice pa pn pc):EV);obtain⟨gb,hgb⟩: ∃x,x=W1.heap.size:=⟨_,rfl⟩;obtain⟨W2,hW⟩: ∃x,x=W1.alloc (.cells #[.int .u64 (px:Int),.int .u64 (pt:Int),.slice pa pn pc] 55):=⟨_,rfl⟩;rw[←hgb,←hW] at hA;rw[←hgb,←hW];have HA2:=hid hA;have hs:=HCK.out _ hA.bel;clear hA hgb hW;refine hK.out _ _ hs (fun hHeld=>?_);clear hK K;try simp only[Act.put,zsA,zsS,zsZ]
         refine zrM 2 (h:=fun K hK=>?_);rw[if_pos (by rfl)];obtain⟨v1,W3,hrun,hA,-⟩:=HA2.out.app (by simp) HM.out (HRL.out.below HA2.out.bel) HFL.out HLL.out HNA.out;refine wp_append_runR rfl rfl rfl hrun ?_;have HA3:=hid hA;have hs:=HCK.out _ hA.bel;clear hA hrun;refine hK.out _ _ hs (fun hHeld=>?_);clear hK K;try simp only[Act.put,zsA,zsS,zsZ]
         refine zrM 5 (h:=fun K hK=>?_);rw[if_pos (by rfl)];obtain⟨v2,W4,hrun,hA,-⟩:=HA3.out.app1 (by have:=HLL.out;simp;omega) (s:=gb) (p:=((⟨px,pt,pb⟩,.slice pa pn pc):EV)) (by simp) HFP.out;refine wp_append_runR rfl rfl rfl hrun ?_;have HA4:=hid hA;have hs:=HCK.out _ hA.bel;clear hA hrun;refine hK.out _ _ hs (fun hHeld=>?_);clear hK K;try simp only[Act.put,zsA,zsS,zsZ]
         refine zrL 6 (h:=fun K hK=>?_);rw[if_pos (by rfl)];go_simp
         refine hK.out _ _ ?_;clear hK K;try simp only[Act.put,zsA,zsS,zsZ]
         go_wp2_with fail
         go_roundw
         case rel=>
          refine⟨k+1,l2++ [((⟨px,pt,pb⟩,.slice pa pn pc):EV)],by go_num,by omega,hid ?_,hid ?_,hid (HBU.out.trans (HA4.out.bel.mono HBU.out.size))⟩
          ·rw[HTK.out,chainP_snoc _ _ _ HC.out,HFOL.out,HCUT.out]
          ·have h:=HA4.out.row
           rw[List.nil_append] at h;exact ownsRow_less h HBU.out.size
         case measure=>simp [intOf];omega
        refine AllReadyM.cons (o:=?_) ?_ rfl (fun K hK=>?_) AllReadyM.nil;rotate_left;focus (simp only[zgT,zgS,zgZ];rfl)
        rw[if_pos (by rfl)];go_simp
        have hA:A9 u (u.alloc (.cells #[.int .u64 (px:Int),.int .u64 (pt:Int),.slice pa pn pc] 55)) _ _ ((u.heap.size,((⟨px,pt,pb⟩,.slice pa pn pc):EV))::_):=HA0.out.lit ((⟨px,pt,pb⟩,.slice pa pn pc):EV);obtain⟨gb,hgb⟩: ∃x,x=u.heap.size:=⟨_,rfl⟩;obtain⟨W1,hW⟩: ∃x,x=u.alloc (.cells #[.int .u64 (px:Int),.int .u64 (pt:Int),.slice pa pn pc] 55):=⟨_,rfl⟩;rw[←hgb,←hW] at hA;rw[←hgb,←hW];have HA1:=hid hA;have hs:=HCK.out _ hA.bel;clear hA hgb hW;refine hK.out _ _ hs (fun hHeld=>?_);clear hK K;try simp only[Act.put,zsA,zsS,zsZ]
        refine zrM 0 (h:=fun K hK=>?_);rw[if_pos (by rfl)];go_simp
        have hA:=HA1.out.empty;obtain⟨ga,hga⟩: ∃x,x=W1.heap.size:=⟨_,rfl⟩;obtain⟨W2,hW⟩: ∃x,x=W1.alloc (.cells #[] 55):=⟨_,rfl⟩;rw[←hga,←hW] at hA;rw[←hga,←hW];have HA2:=hid hA;have hs:=HCK.out _ hA.bel;clear hA hga hW;refine hK.out _ _ hs (fun hHeld=>?_);clear hK K;try simp only[Act.put,zsA,zsS,zsZ]
        refine zrM 2 (h:=fun K hK=>?_);rw[if_pos (by rfl)];obtain⟨v1,W3,hrun,hA,-⟩:=HA2.out.app (by simp) HM.out (HRL.out.below HA2.out.bel) HFL.out HLL.out HNA.out;refine wp_append_runR rfl rfl rfl hrun ?_;have HA3:=hid hA;have hs:=HCK.out _ hA.bel;clear hA hrun;refine hK.out _ _ hs (fun hHeld=>?_);clear hK K;try simp only[Act.put,zsA,zsS,zsZ]
        refine zrM 5 (h:=fun K hK=>?_);rw[if_pos (by rfl)];obtain⟨v2,W4,hrun,hA,-⟩:=HA3.out.app1 (by have:=HLL.out;simp;omega) (s:=gb) (p:=((⟨px,pt,pb⟩,.slice pa pn pc):EV)) (by simp) HFP.out;refine wp_append_runR rfl rfl rfl hrun ?_;have HA4:=hid hA;have hs:=HCK.out _ hA.bel;clear hA hrun;refine hK.out _ _ hs (fun hHeld=>?_);clear hK K;try simp only[Act.put,zsA,zsS,zsZ]
        refine zrL 6 (h:=fun K hK=>?_);rw[if_pos (by rfl)];go_simp
        refine hK.out _ _ ?_;clear hK K;try simp only[Act.put,zsA,zsS,zsZ]
        go_wp2_with fail
        go_roundw
        case rel=>
         refine⟨k+1,l2++ [((⟨px,pt,pb⟩,.slice pa pn pc):EV)],by go_num,by omega,hid ?_,hid ?_,hid (HBU.out.trans (HA4.out.bel.mono HBU.out.size))⟩
         ·rw[HTK.out,chainP_snoc _ _ _ HC.out,HFOL.out,HCUT.out]
         ·have h:=HA4.out.row
          rw[List.nil_append] at h;exact ownsRow_less h HBU.out.size
        case measure=>simp [intOf];omega
    ·obtain⟨n,hn⟩: ∃n,l.length=n+1:=⟨r.length,by rw[hlq];simp⟩
     obtain⟨g2,o2,hae,hg2,y0,-,-⟩:=(HR0.out.reads).1.at_ (i:=n) (by rw[hn];omega);have hlast:l[n]'(by omega)=q:=by
      have:n=r.length:=by rw[hlq] at hn;simp at hn;omega
      subst this;simp [hlq]
     rw[hlast] at y0;subst hae;obtain⟨qx,hqx⟩: ∃x,x=q.1.ix:=⟨_,rfl⟩;rw[←hqx] at y0;have hql:q∈l:=by rw[hlq];simp
     have hq0:0<qx:=by rw[hqx];exact HPOS.out q hql
     have hq1:qx<18446744073709551616:=by rw[hqx];exact(HFI.out q hql).1
     have hlp:lastP l=qx:=by rw[hlq,List.concat_eq_append,lastP_snoc,hqx]
     have hnm:(n:Int)≤1000000:=by have:=HLM.out;omega
     obtain⟨y,hy⟩: ∃y,y=(qx+1) % 18446744073709551616:=⟨_,rfl⟩;have hwr:IntKind.u64.wrap ((qx:Int)+1)=(y:Int):=by
      rw[hy];show((qx:Int)+1) % 18446744073709551616=_;omega
     rw[hn];have HHN:=hid hn;by_cases hfo:y<px
     ·have df:decide ((y:Int)<(px:Int))=true:=decide_eq_true (by omega)
      have df2:decide (y<px)=true:=decide_eq_true hfo;have HST:=hid (HSTOP.out (by rw[hlp];unfold follows;rw[←hy,decide_eq_false (show¬qx=0 by omega),decide_eq_false (show¬px≤y by omega)];simp));clear hlq hlast hql hlp hqx hq0 hy hn;go_quiet (fail)
      obtain⟨hr1,hb1,-⟩:=HOPEN.out nq;go_wp2_with fail
      go_ret2
      have hlen:=HN.out;exact⟨_,_,l,k,by rw[HHN.out];rfl,⟨by omega,HC.out,fun _=>HST.out⟩,by rw[HHN.out] at hr1;rw[HHN.out];exact hr1,hb1⟩
     ·have df:decide ((y:Int)<(px:Int))=false:=decide_eq_false (by omega)
      have df2:decide (y<px)=false:=decide_eq_false hfo;have HFOL:=hid (show followP l ((⟨px,pt,pb⟩,.slice pa pn pc):EV)=some (cutP px l++ [((⟨px,pt,pb⟩,.slice pa pn pc):EV)]) from followP_yes (by
       rw[hlp];unfold follows;rw[←hy,decide_eq_true (show px≤y by omega),decide_eq_true (show 0<px by omega)];simp))
      clear hlq hlast hql hlp hqx hq0 hy hn;go_quiet (fail)
      obtain⟨hr1,hb1,hx1⟩:=HOPEN.out nq;obtain⟨W,hW⟩: ∃W,W=W0.drewN nq:=⟨_,rfl⟩;rw[←hW] at hr1 hb1 hx1 ⊢;rw[HHN.out] at hr1;have HRW:=hid hr1;have HBW:=hid hb1;have HXW:=hid hx1;rw[HHN.out] at HLM;clear hr1 hb1 hx1 hW HOPEN HX0 HBW0 x0 y0 hwr df df2 hfo;go_wp2_with fail
      go_loopw [2] (fun x2 wq=> ∃(m:Nat) (la:Option Addr) (lc:Nat) (l2:List EV),x2= .slice la m lc∧m≤1000000∧Hid (cutP px l=cutP px l2)∧Hid (RowP wq w.heap.size (.slice la m lc) l2)∧Hid (∀e∈l2,e∈l)∧Hid (Below W.heap.size W wq)) (fun x2 _=>slLen x2)
      case atStart=>exact⟨_,_,_,l,rfl,HLM.out,hid rfl,HRW,hid (fun _ h=>h),hid (Below.refl _ _)⟩
      case round=>
       obtain⟨m,la,lc,l2,rfl,hm,HCU,HRI,HME,HBI⟩:=hrel;have x0:=stays' HBI.out HXW.out.1;rcases List.eq_nil_or_concat l2 with rfl | ⟨r2,q2,rfl⟩
       ·obtain rfl:m=0:=HRI.out.reads.2.1
        go_wp2_with fail
        go_quiet (fail)
        obtain⟨Wx,hWx⟩: ∃x,x=wr.drewN nq:=⟨_,rfl⟩;rw[←hWx];have hbx:Below wr.heap.size wr Wx:=by rw[hWx];exact many_drew _ _
        obtain⟨l2,hl2⟩: ∃x:List EV,x= []:=⟨_,rfl⟩;rw[←hl2] at HRI HCU HME;have HCUT:=hid (show cutP px l=l2 by rw[HCU.out,hl2];rfl);clear hl2;have HRQ:=hid (ownsRow_keep HRI.out fun k e=>hbx.block k (World.ownsRow.lt HRI.out k e).2);have HXQ:=hid (⟨stays' hbx (stays' HBI.out HXW.out.1),stays' hbx (stays' HBI.out HXW.out.2.1),stays' hbx (stays' HBI.out HXW.out.2.2)⟩:Wx.cell? ⟨b,0,none⟩=some (.int .u64 (px:Int))∧Wx.cell? ⟨b,1,none⟩=some (.int .u64 (pt:Int))∧Wx.cell? ⟨b,2,none⟩=some (.slice pa pn pc));have HBQ:=hid ((HBW.out.trans (HBI.out.mono HBW.out.size)).trans (hbx.mono (Nat.le_trans HBW.out.size HBI.out.size)));have HFL:=hid (fun e he=>HFI.out e (HME.out e he):Fine l2);have HLL:=hid (show l2.length≤1000000000 by have:=HRI.out.reads.2.1;omega);clear hbx hWx x0;go_wp2_with fail
        have HRD:=hid (RowP.reads HRQ.out);obtain⟨u,hu⟩: ∃u,u=Wx.drew:=⟨_,rfl⟩;have HBu:=hid (show Below Wx.heap.size Wx u by rw[hu];exact(Below.refl _ _).drew);refine wp_region_heldM_drew 6 (S:=fun W=>W.cell? ⟨b,0,none⟩=some (.int .u64 (px:Int))∧W.cell? ⟨b,1,none⟩=some (.int .u64 (pt:Int))∧W.cell? ⟨b,2,none⟩=some (.slice pa pn pc)) (by kernel_rfl) (by rw[←hu];exact⟨stays' HBu.out HXQ.out.1,stays' HBu.out HXQ.out.2.1,stays' HBu.out HXQ.out.2.2⟩) (fun hHeld=>?_);rw[←hu] at hHeld ⊢;clear hu;have HCK:=hid (fun W (hW:Below u.heap.size u W)=>(⟨stays' hW (stays' HBu.out HXQ.out.1),stays' hW (stays' HBu.out HXQ.out.2.1),stays' hW (stays' HBu.out HXQ.out.2.2)⟩:W.cell? ⟨b,0,none⟩=some (.int .u64 (px:Int))∧W.cell? ⟨b,1,none⟩=some (.int .u64 (pt:Int))∧W.cell? ⟨b,2,none⟩=some (.slice pa pn pc)));have HRL:=hid (HRD.out.1.below HBu.out);have HM:=hid HRD.out.2.1;have HNA:=hid HRD.out.2.2;have HBU:=hid (HBQ.out.trans (HBu.out.mono HBQ.out.size));have HA0:=hid (A9.start u);refine zkM 1 (v:=?_) (h2:=?_) (h:=?_);rotate_left;focus (rintro W ⟨q1,q2,q3⟩;go_simp;(try with_reducible rfl))
        try simp only[Act.put,zsA,zsS,zsZ]
        refine zkM 3 (v:=?_) (h2:=?_) (h:=?_);rotate_left;focus (rintro W ⟨q1,q2,q3⟩;go_simp;(try with_reducible rfl))
        try simp only[Act.put,zsA,zsS,zsZ]
        refine wpAnyM_ready (rs:= [0,4]) (by kernel_rfl) (by simp) ?_;refine AllReadyM.cons (o:=?_) ?_ rfl (fun K hK=>?_) ?_;rotate_left;focus (simp only[zgT,zgS,zgZ];rfl)
        rw[if_pos (by rfl)]
        ·go_simp
         have hA:=HA0.out.empty;obtain⟨ga,hga⟩: ∃x,x=u.heap.size:=⟨_,rfl⟩;obtain⟨W1,hW⟩: ∃x,x=u.alloc (.cells #[] 55):=⟨_,rfl⟩;rw[←hga,←hW] at hA;rw[←hga,←hW];have HA1:=hid hA;have hs:=HCK.out _ hA.bel;clear hA hga hW;refine hK.out _ _ hs (fun hHeld=>?_);clear hK K;try simp only[Act.put,zsA,zsS,zsZ]
         refine wpAnyM_ready (rs:= [2,4]) (by kernel_rfl) (by simp) ?_;refine AllReadyM.cons (o:=?_) ?_ rfl (fun K hK=>?_) ?_;rotate_left;focus (simp only[zgT,zgS,zgZ];rfl)
         rw[if_pos (by rfl)]
         ·obtain⟨v1,W2,hrun,hA,-⟩:=HA1.out.app (by simp) HM.out (HRL.out.below HA1.out.bel) HFL.out HLL.out HNA.out
          refine wp_append_runR rfl rfl rfl hrun ?_;have HA2:=hid hA;have hs:=HCK.out _ hA.bel;clear hA hrun;refine hK.out _ _ hs (fun hHeld=>?_);clear hK K;try simp only[Act.put,zsA,zsS,zsZ]
          refine zrM 4 (h:=fun K hK=>?_);rw[if_pos (by rfl)];go_simp
          have hA:A9 u (W2.alloc (.cells #[.int .u64 (px:Int),.int .u64 (pt:Int),.slice pa pn pc] 55)) _ _ ((W2.heap.size,((⟨px,pt,pb⟩,.slice pa pn pc):EV))::_):=HA2.out.lit ((⟨px,pt,pb⟩,.slice pa pn pc):EV);obtain⟨gb,hgb⟩: ∃x,x=W2.heap.size:=⟨_,rfl⟩;obtain⟨W3,hW⟩: ∃x,x=W2.alloc (.cells #[.int .u64 (px:Int),.int .u64 (pt:Int),.slice pa pn pc] 55):=⟨_,rfl⟩;rw[←hgb,←hW] at hA;rw[←hgb,←hW];have HA3:=hid hA;have hs:=HCK.out _ hA.bel;clear hA hgb hW;refine hK.out _ _ hs (fun hHeld=>?_);clear hK K;try simp only[Act.put,zsA,zsS,zsZ]
          refine zrM 5 (h:=fun K hK=>?_);rw[if_pos (by rfl)];obtain⟨v2,W4,hrun,hA,-⟩:=HA3.out.app1 (by have:=HLL.out;simp;omega) (s:=gb) (p:=((⟨px,pt,pb⟩,.slice pa pn pc):EV)) (by simp) HFP.out;refine wp_append_runR rfl rfl rfl hrun ?_;have HA4:=hid hA;have hs:=HCK.out _ hA.bel;clear hA hrun;refine hK.out _ _ hs (fun hHeld=>?_);clear hK K;try simp only[Act.put,zsA,zsS,zsZ]
          refine zrL 6 (h:=fun K hK=>?_);rw[if_pos (by rfl)];go_simp
          refine hK.out _ _ ?_;clear hK K;try simp only[Act.put,zsA,zsS,zsZ]
          go_wp2_with fail
          go_roundw
          case rel=>
           refine⟨k+1,l2++ [((⟨px,pt,pb⟩,.slice pa pn pc):EV)],by go_num,by omega,hid ?_,hid ?_,hid (HBU.out.trans (HA4.out.bel.mono HBU.out.size))⟩
           ·rw[HTK.out,chainP_snoc _ _ _ HC.out,HFOL.out,HCUT.out]
           ·have h:=HA4.out.row
            rw[List.nil_append] at h;exact ownsRow_less h HBU.out.size
          case measure=>simp [intOf];omega
         refine AllReadyM.cons (o:=?_) ?_ rfl (fun K hK=>?_) AllReadyM.nil;rotate_left;focus (simp only[zgT,zgS,zgZ];rfl)
         rw[if_pos (by rfl)];go_simp
         have hA:A9 u (W1.alloc (.cells #[.int .u64 (px:Int),.int .u64 (pt:Int),.slice pa pn pc] 55)) _ _ ((W1.heap.size,((⟨px,pt,pb⟩,.slice pa pn pc):EV))::_):=HA1.out.lit ((⟨px,pt,pb⟩,.slice pa pn pc):EV);obtain⟨gb,hgb⟩: ∃x,x=W1.heap.size:=⟨_,rfl⟩;obtain⟨W2,hW⟩: ∃x,x=W1.alloc (.cells #[.int .u64 (px:Int),.int .u64 (pt:Int),.slice pa pn pc] 55):=⟨_,rfl⟩;rw[←hgb,←hW] at hA;rw[←hgb,←hW];have HA2:=hid hA;have hs:=HCK.out _ hA.bel;clear hA hgb hW;refine hK.out _ _ hs (fun hHeld=>?_);clear hK K;try simp only[Act.put,zsA,zsS,zsZ]
         refine zrM 2 (h:=fun K hK=>?_);rw[if_pos (by rfl)];obtain⟨v1,W3,hrun,hA,-⟩:=HA2.out.app (by simp) HM.out (HRL.out.below HA2.out.bel) HFL.out HLL.out HNA.out;refine wp_append_runR rfl rfl rfl hrun ?_;have HA3:=hid hA;have hs:=HCK.out _ hA.bel;clear hA hrun;refine hK.out _ _ hs (fun hHeld=>?_);clear hK K;try simp only[Act.put,zsA,zsS,zsZ]
         refine zrM 5 (h:=fun K hK=>?_);rw[if_pos (by rfl)];obtain⟨v2,W4,hrun,hA,-⟩:=HA3.out.app1 (by have:=HLL.out;simp;omega) (s:=gb) (p:=((⟨px,pt,pb⟩,.slice pa pn pc):EV)) (by simp) HFP.out;refine wp_append_runR rfl rfl rfl hrun ?_;have HA4:=hid hA;have hs:=HCK.out _ hA.bel;clear hA hrun;refine hK.out _ _ hs (fun hHeld=>?_);clear hK K;try simp only[Act.put,zsA,zsS,zsZ]
         refine zrL 6 (h:=fun K hK=>?_);rw[if_pos (by rfl)];go_simp
         refine hK.out _ _ ?_;clear hK K;try simp only[Act.put,zsA,zsS,zsZ]
         go_wp2_with fail
         go_roundw
         case rel=>
          refine⟨k+1,l2++ [((⟨px,pt,pb⟩,.slice pa pn pc):EV)],by go_num,by omega,hid ?_,hid ?_,hid (HBU.out.trans (HA4.out.bel.mono HBU.out.size))⟩
          ·rw[HTK.out,chainP_snoc _ _ _ HC.out,HFOL.out,HCUT.out]
          ·have h:=HA4.out.row
           rw[List.nil_append] at h;exact ownsRow_less h HBU.out.size
         case measure=>simp [intOf];omega
        refine AllReadyM.cons (o:=?_) ?_ rfl (fun K hK=>?_) AllReadyM.nil;rotate_left;focus (simp only[zgT,zgS,zgZ];rfl)
        rw[if_pos (by rfl)];go_simp
        have hA:A9 u (u.alloc (.cells #[.int .u64 (px:Int),.int .u64 (pt:Int),.slice pa pn pc] 55)) _ _ ((u.heap.size,((⟨px,pt,pb⟩,.slice pa pn pc):EV))::_):=HA0.out.lit ((⟨px,pt,pb⟩,.slice pa pn pc):EV);obtain⟨gb,hgb⟩: ∃x,x=u.heap.size:=⟨_,rfl⟩;obtain⟨W1,hW⟩: ∃x,x=u.alloc (.cells #[.int .u64 (px:Int),.int .u64 (pt:Int),.slice pa pn pc] 55):=⟨_,rfl⟩;rw[←hgb,←hW] at hA;rw[←hgb,←hW];have HA1:=hid hA;have hs:=HCK.out _ hA.bel;clear hA hgb hW;refine hK.out _ _ hs (fun hHeld=>?_);clear hK K;try simp only[Act.put,zsA,zsS,zsZ]
        refine zrM 0 (h:=fun K hK=>?_);rw[if_pos (by rfl)];go_simp
        have hA:=HA1.out.empty;obtain⟨ga,hga⟩: ∃x,x=W1.heap.size:=⟨_,rfl⟩;obtain⟨W2,hW⟩: ∃x,x=W1.alloc (.cells #[] 55):=⟨_,rfl⟩;rw[←hga,←hW] at hA;rw[←hga,←hW];have HA2:=hid hA;have hs:=HCK.out _ hA.bel;clear hA hga hW;refine hK.out _ _ hs (fun hHeld=>?_);clear hK K;try simp only[Act.put,zsA,zsS,zsZ]
        refine zrM 2 (h:=fun K hK=>?_);rw[if_pos (by rfl)];obtain⟨v1,W3,hrun,hA,-⟩:=HA2.out.app (by simp) HM.out (HRL.out.below HA2.out.bel) HFL.out HLL.out HNA.out;refine wp_append_runR rfl rfl rfl hrun ?_;have HA3:=hid hA;have hs:=HCK.out _ hA.bel;clear hA hrun;refine hK.out _ _ hs (fun hHeld=>?_);clear hK K;try simp only[Act.put,zsA,zsS,zsZ]
        refine zrM 5 (h:=fun K hK=>?_);rw[if_pos (by rfl)];obtain⟨v2,W4,hrun,hA,-⟩:=HA3.out.app1 (by have:=HLL.out;simp;omega) (s:=gb) (p:=((⟨px,pt,pb⟩,.slice pa pn pc):EV)) (by simp) HFP.out;refine wp_append_runR rfl rfl rfl hrun ?_;have HA4:=hid hA;have hs:=HCK.out _ hA.bel;clear hA hrun;refine hK.out _ _ hs (fun hHeld=>?_);clear hK K;try simp only[Act.put,zsA,zsS,zsZ]
        refine zrL 6 (h:=fun K hK=>?_);rw[if_pos (by rfl)];go_simp
        refine hK.out _ _ ?_;clear hK K;try simp only[Act.put,zsA,zsS,zsZ]
        go_wp2_with fail
        go_roundw
        case rel=>
         refine⟨k+1,l2++ [((⟨px,pt,pb⟩,.slice pa pn pc):EV)],by go_num,by omega,hid ?_,hid ?_,hid (HBU.out.trans (HA4.out.bel.mono HBU.out.size))⟩
         ·rw[HTK.out,chainP_snoc _ _ _ HC.out,HFOL.out,HCUT.out]
         ·have h:=HA4.out.row
          rw[List.nil_append] at h;exact ownsRow_less h HBU.out.size
        case measure=>simp [intOf];omega
       ·rw[List.concat_eq_append] at HRI HCU HME
        obtain⟨n2,hn2⟩: ∃n,(r2++ [q2]).length=n+1:=⟨r2.length,by simp⟩;obtain rfl:m=n2+1:=by rw[←hn2];exact HRI.out.reads.2.1
        obtain⟨g3,o3,rfl,hg3,y0,-,-⟩:=(HRI.out.reads).1.at_ (i:=n2) (by rw[hn2];omega);have hq2:(r2++ [q2])[n2]'(by rw[hn2];omega)=q2:=by
         have:n2=r2.length:=by simp at hn2;omega
         subst this;simp
        rw[hq2] at y0;obtain⟨qx,hqx⟩: ∃x,x=q2.1.ix:=⟨_,rfl⟩;rw[←hqx] at y0;have hnm:(n2:Int)≤1000000:=by omega
        have hcap:=HRI.out.cap;have hcap1:(n2:Int)≤(lc:Int):=by omega
        have hcap2:n2≤lc:=by omega
        clear hcap;have HQX:=hid hqx;clear hqx hq2 hg3;by_cases hge:px≤qx
        ·have dg:decide ((px:Int)≤(qx:Int))=true:=decide_eq_true (by omega)
         have dg2:decide (px≤qx)=true:=decide_eq_true hge;go_wp2_with fail
         go_quiet (fail)
         go_wp2_with fail
         go_roundw
         case rel=>
          refine⟨n2,_,_,r2,rfl,by omega,hid ?_,hid ?_,hid ?_,hid (HBI.out.trans ((many_drew _ _).mono HBI.out.size))⟩
          ·rw[HCU.out];exact cutP_yes (by rw[←HQX.out];exact hge)
          ·exact ownsRow_keep (RowP.pop HRI.out) fun k e=>(many_drew wr nq).block k (World.ownsRow.lt (RowP.pop HRI.out) k e).2
          ·exact fun e he=>HME.out e (by simp [he])
         case measure=>simp [slLen]
        ·have dg:decide ((px:Int)≤(qx:Int))=false:=decide_eq_false (by omega)
         have dg2:decide (px≤qx)=false:=decide_eq_false hge;go_wp2_with fail
         go_quiet (fail)
         obtain⟨Wx,hWx⟩: ∃x,x=wr.drewN nq:=⟨_,rfl⟩;rw[←hWx];have hbx:Below wr.heap.size wr Wx:=by rw[hWx];exact many_drew _ _
         have HCUT:=hid (show cutP px l=r2++ [q2] by rw[HCU.out];exact cutP_no (by rw[←HQX.out];exact hge));obtain⟨l2,hl2⟩: ∃x:List EV,x=r2++ [q2]:=⟨_,rfl⟩;rw[←hl2] at HRI HCU HME HCUT;clear hn2 hnm y0 HQX hge dg dg2 hl2 hcap1 hcap2;have HRQ:=hid (ownsRow_keep HRI.out fun k e=>hbx.block k (World.ownsRow.lt HRI.out k e).2);have HXQ:=hid (⟨stays' hbx (stays' HBI.out HXW.out.1),stays' hbx (stays' HBI.out HXW.out.2.1),stays' hbx (stays' HBI.out HXW.out.2.2)⟩:Wx.cell? ⟨b,0,none⟩=some (.int .u64 (px:Int))∧Wx.cell? ⟨b,1,none⟩=some (.int .u64 (pt:Int))∧Wx.cell? ⟨b,2,none⟩=some (.slice pa pn pc));have HBQ:=hid ((HBW.out.trans (HBI.out.mono HBW.out.size)).trans (hbx.mono (Nat.le_trans HBW.out.size HBI.out.size)));have HFL:=hid (fun e he=>HFI.out e (HME.out e he):Fine l2);have HLL:=hid (show l2.length≤1000000000 by have:=HRI.out.reads.2.1;omega);clear hbx hWx x0;go_wp2_with fail
         have HRD:=hid (RowP.reads HRQ.out);obtain⟨u,hu⟩: ∃u,u=Wx.drew:=⟨_,rfl⟩;have HBu:=hid (show Below Wx.heap.size Wx u by rw[hu];exact(Below.refl _ _).drew);refine wp_region_heldM_drew 6 (S:=fun W=>W.cell? ⟨b,0,none⟩=some (.int .u64 (px:Int))∧W.cell? ⟨b,1,none⟩=some (.int .u64 (pt:Int))∧W.cell? ⟨b,2,none⟩=some (.slice pa pn pc)) (by kernel_rfl) (by rw[←hu];exact⟨stays' HBu.out HXQ.out.1,stays' HBu.out HXQ.out.2.1,stays' HBu.out HXQ.out.2.2⟩) (fun hHeld=>?_);rw[←hu] at hHeld ⊢;clear hu;have HCK:=hid (fun W (hW:Below u.heap.size u W)=>(⟨stays' hW (stays' HBu.out HXQ.out.1),stays' hW (stays' HBu.out HXQ.out.2.1),stays' hW (stays' HBu.out HXQ.out.2.2)⟩:W.cell? ⟨b,0,none⟩=some (.int .u64 (px:Int))∧W.cell? ⟨b,1,none⟩=some (.int .u64 (pt:Int))∧W.cell? ⟨b,2,none⟩=some (.slice pa pn pc)));have HRL:=hid (HRD.out.1.below HBu.out);have HM:=hid HRD.out.2.1;have HNA:=hid HRD.out.2.2;have HBU:=hid (HBQ.out.trans (HBu.out.mono HBQ.out.size));have HA0:=hid (A9.start u);refine zkM 1 (v:=?_) (h2:=?_) (h:=?_);rotate_left;focus (rintro W ⟨q1,q2,q3⟩;go_simp;(try with_reducible rfl))
         try simp only[Act.put,zsA,zsS,zsZ]
         refine zkM 3 (v:=?_) (h2:=?_) (h:=?_);rotate_left;focus (rintro W ⟨q1,q2,q3⟩;go_simp;(try with_reducible rfl))
         try simp only[Act.put,zsA,zsS,zsZ]
         refine wpAnyM_ready (rs:= [0,4]) (by kernel_rfl) (by simp) ?_;refine AllReadyM.cons (o:=?_) ?_ rfl (fun K hK=>?_) ?_;rotate_left;focus (simp only[zgT,zgS,zgZ];rfl)
         rw[if_pos (by rfl)]
         ·go_simp
          have hA:=HA0.out.empty;obtain⟨ga,hga⟩: ∃x,x=u.heap.size:=⟨_,rfl⟩;obtain⟨W1,hW⟩: ∃x,x=u.alloc (.cells #[] 55):=⟨_,rfl⟩;rw[←hga,←hW] at hA;rw[←hga,←hW];have HA1:=hid hA;have hs:=HCK.out _ hA.bel;clear hA hga hW;refine hK.out _ _ hs (fun hHeld=>?_);clear hK K;try simp only[Act.put,zsA,zsS,zsZ]
          refine wpAnyM_ready (rs:= [2,4]) (by kernel_rfl) (by simp) ?_;refine AllReadyM.cons (o:=?_) ?_ rfl (fun K hK=>?_) ?_;rotate_left;focus (simp only[zgT,zgS,zgZ];rfl)
          rw[if_pos (by rfl)]
          ·obtain⟨v1,W2,hrun,hA,-⟩:=HA1.out.app (by simp) HM.out (HRL.out.below HA1.out.bel) HFL.out HLL.out HNA.out
           refine wp_append_runR rfl rfl rfl hrun ?_;have HA2:=hid hA;have hs:=HCK.out _ hA.bel;clear hA hrun;refine hK.out _ _ hs (fun hHeld=>?_);clear hK K;try simp only[Act.put,zsA,zsS,zsZ]
           refine zrM 4 (h:=fun K hK=>?_);rw[if_pos (by rfl)];go_simp
           have hA:A9 u (W2.alloc (.cells #[.int .u64 (px:Int),.int .u64 (pt:Int),.slice pa pn pc] 55)) _ _ ((W2.heap.size,((⟨px,pt,pb⟩,.slice pa pn pc):EV))::_):=HA2.out.lit ((⟨px,pt,pb⟩,.slice pa pn pc):EV);obtain⟨gb,hgb⟩: ∃x,x=W2.heap.size:=⟨_,rfl⟩;obtain⟨W3,hW⟩: ∃x,x=W2.alloc (.cells #[.int .u64 (px:Int),.int .u64 (pt:Int),.slice pa pn pc] 55):=⟨_,rfl⟩;rw[←hgb,←hW] at hA;rw[←hgb,←hW];have HA3:=hid hA;have hs:=HCK.out _ hA.bel;clear hA hgb hW;refine hK.out _ _ hs (fun hHeld=>?_);clear hK K;try simp only[Act.put,zsA,zsS,zsZ]
           refine zrM 5 (h:=fun K hK=>?_);rw[if_pos (by rfl)];obtain⟨v2,W4,hrun,hA,-⟩:=HA3.out.app1 (by have:=HLL.out;simp;omega) (s:=gb) (p:=((⟨px,pt,pb⟩,.slice pa pn pc):EV)) (by simp) HFP.out;refine wp_append_runR rfl rfl rfl hrun ?_;have HA4:=hid hA;have hs:=HCK.out _ hA.bel;clear hA hrun;refine hK.out _ _ hs (fun hHeld=>?_);clear hK K;try simp only[Act.put,zsA,zsS,zsZ]
           refine zrL 6 (h:=fun K hK=>?_);rw[if_pos (by rfl)];go_simp
           refine hK.out _ _ ?_;clear hK K;try simp only[Act.put,zsA,zsS,zsZ]
           go_wp2_with fail
           go_roundw
           case rel=>
            refine⟨k+1,l2++ [((⟨px,pt,pb⟩,.slice pa pn pc):EV)],by go_num,by omega,hid ?_,hid ?_,hid (HBU.out.trans (HA4.out.bel.mono HBU.out.size))⟩
            ·rw[HTK.out,chainP_snoc _ _ _ HC.out,HFOL.out,HCUT.out]
            ·have h:=HA4.out.row
             rw[List.nil_append] at h;exact ownsRow_less h HBU.out.size
           case measure=>simp [intOf];omega
          refine AllReadyM.cons (o:=?_) ?_ rfl (fun K hK=>?_) AllReadyM.nil;rotate_left;focus (simp only[zgT,zgS,zgZ];rfl)
          rw[if_pos (by rfl)];go_simp
          have hA:A9 u (W1.alloc (.cells #[.int .u64 (px:Int),.int .u64 (pt:Int),.slice pa pn pc] 55)) _ _ ((W1.heap.size,((⟨px,pt,pb⟩,.slice pa pn pc):EV))::_):=HA1.out.lit ((⟨px,pt,pb⟩,.slice pa pn pc):EV);obtain⟨gb,hgb⟩: ∃x,x=W1.heap.size:=⟨_,rfl⟩;obtain⟨W2,hW⟩: ∃x,x=W1.alloc (.cells #[.int .u64 (px:Int),.int .u64 (pt:Int),.slice pa pn pc] 55):=⟨_,rfl⟩;rw[←hgb,←hW] at hA;rw[←hgb,←hW];have HA2:=hid hA;have hs:=HCK.out _ hA.bel;clear hA hgb hW;refine hK.out _ _ hs (fun hHeld=>?_);clear hK K;try simp only[Act.put,zsA,zsS,zsZ]
          refine zrM 2 (h:=fun K hK=>?_);rw[if_pos (by rfl)];obtain⟨v1,W3,hrun,hA,-⟩:=HA2.out.app (by simp) HM.out (HRL.out.below HA2.out.bel) HFL.out HLL.out HNA.out;refine wp_append_runR rfl rfl rfl hrun ?_;have HA3:=hid hA;have hs:=HCK.out _ hA.bel;clear hA hrun;refine hK.out _ _ hs (fun hHeld=>?_);clear hK K;try simp only[Act.put,zsA,zsS,zsZ]
          refine zrM 5 (h:=fun K hK=>?_);rw[if_pos (by rfl)];obtain⟨v2,W4,hrun,hA,-⟩:=HA3.out.app1 (by have:=HLL.out;simp;omega) (s:=gb) (p:=((⟨px,pt,pb⟩,.slice pa pn pc):EV)) (by simp) HFP.out;refine wp_append_runR rfl rfl rfl hrun ?_;have HA4:=hid hA;have hs:=HCK.out _ hA.bel;clear hA hrun;refine hK.out _ _ hs (fun hHeld=>?_);clear hK K;try simp only[Act.put,zsA,zsS,zsZ]
          refine zrL 6 (h:=fun K hK=>?_);rw[if_pos (by rfl)];go_simp
          refine hK.out _ _ ?_;clear hK K;try simp only[Act.put,zsA,zsS,zsZ]
          go_wp2_with fail
          go_roundw
          case rel=>
           refine⟨k+1,l2++ [((⟨px,pt,pb⟩,.slice pa pn pc):EV)],by go_num,by omega,hid ?_,hid ?_,hid (HBU.out.trans (HA4.out.bel.mono HBU.out.size))⟩
           ·rw[HTK.out,chainP_snoc _ _ _ HC.out,HFOL.out,HCUT.out]
           ·have h:=HA4.out.row
            rw[List.nil_append] at h;exact ownsRow_less h HBU.out.size
          case measure=>simp [intOf];omega
         refine AllReadyM.cons (o:=?_) ?_ rfl (fun K hK=>?_) AllReadyM.nil;rotate_left;focus (simp only[zgT,zgS,zgZ];rfl)
         rw[if_pos (by rfl)];go_simp
         have hA:A9 u (u.alloc (.cells #[.int .u64 (px:Int),.int .u64 (pt:Int),.slice pa pn pc] 55)) _ _ ((u.heap.size,((⟨px,pt,pb⟩,.slice pa pn pc):EV))::_):=HA0.out.lit ((⟨px,pt,pb⟩,.slice pa pn pc):EV);obtain⟨gb,hgb⟩: ∃x,x=u.heap.size:=⟨_,rfl⟩;obtain⟨W1,hW⟩: ∃x,x=u.alloc (.cells #[.int .u64 (px:Int),.int .u64 (pt:Int),.slice pa pn pc] 55):=⟨_,rfl⟩;rw[←hgb,←hW] at hA;rw[←hgb,←hW];have HA1:=hid hA;have hs:=HCK.out _ hA.bel;clear hA hgb hW;refine hK.out _ _ hs (fun hHeld=>?_);clear hK K;try simp only[Act.put,zsA,zsS,zsZ]
         refine zrM 0 (h:=fun K hK=>?_);rw[if_pos (by rfl)];go_simp
         have hA:=HA1.out.empty;obtain⟨ga,hga⟩: ∃x,x=W1.heap.size:=⟨_,rfl⟩;obtain⟨W2,hW⟩: ∃x,x=W1.alloc (.cells #[] 55):=⟨_,rfl⟩;rw[←hga,←hW] at hA;rw[←hga,←hW];have HA2:=hid hA;have hs:=HCK.out _ hA.bel;clear hA hga hW;refine hK.out _ _ hs (fun hHeld=>?_);clear hK K;try simp only[Act.put,zsA,zsS,zsZ]
         refine zrM 2 (h:=fun K hK=>?_);rw[if_pos (by rfl)];obtain⟨v1,W3,hrun,hA,-⟩:=HA2.out.app (by simp) HM.out (HRL.out.below HA2.out.bel) HFL.out HLL.out HNA.out;refine wp_append_runR rfl rfl rfl hrun ?_;have HA3:=hid hA;have hs:=HCK.out _ hA.bel;clear hA hrun;refine hK.out _ _ hs (fun hHeld=>?_);clear hK K;try simp only[Act.put,zsA,zsS,zsZ]
         refine zrM 5 (h:=fun K hK=>?_);rw[if_pos (by rfl)];obtain⟨v2,W4,hrun,hA,-⟩:=HA3.out.app1 (by have:=HLL.out;simp;omega) (s:=gb) (p:=((⟨px,pt,pb⟩,.slice pa pn pc):EV)) (by simp) HFP.out;refine wp_append_runR rfl rfl rfl hrun ?_;have HA4:=hid hA;have hs:=HCK.out _ hA.bel;clear hA hrun;refine hK.out _ _ hs (fun hHeld=>?_);clear hK K;try simp only[Act.put,zsA,zsS,zsZ]
         refine zrL 6 (h:=fun K hK=>?_);rw[if_pos (by rfl)];go_simp
         refine hK.out _ _ ?_;clear hK K;try simp only[Act.put,zsA,zsS,zsZ]
         go_wp2_with fail
         go_roundw
         case rel=>
          refine⟨k+1,l2++ [((⟨px,pt,pb⟩,.slice pa pn pc):EV)],by go_num,by omega,hid ?_,hid ?_,hid (HBU.out.trans (HA4.out.bel.mono HBU.out.size))⟩
          ·rw[HTK.out,chainP_snoc _ _ _ HC.out,HFOL.out,HCUT.out]
          ·have h:=HA4.out.row
           rw[List.nil_append] at h;exact ownsRow_less h HBU.out.size
         case measure=>simp [intOf];omega
  ·have dk:decide ((k:Int)<(N:Int))=false:=decide_eq_false (by omega)
   have dk2:decide (k<N)=false:=decide_eq_false hlt;obtain rfl:k=N:=by omega
   go_wp2_with fail
   go_ret2
   obtain⟨la,lc,e,_⟩:=slice_shape HR.out;subst e;have hlen:=HN.out;exact⟨la,lc,l,k,rfl,⟨by omega,HC.out,fun h=>by omega⟩,HR.out,HB.out⟩
end
end Rl
end Go.Proofs.YtalfbcbnljhldaaGreatDoor
