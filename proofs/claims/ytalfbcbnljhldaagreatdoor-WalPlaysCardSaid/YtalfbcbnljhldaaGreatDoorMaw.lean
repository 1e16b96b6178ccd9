/-  -/
import Derived.Test.YtalfbcbnljhldaaGreatDoorMav
import Derived.Test.YtalfbcbnljhldaaGreatDoorMae
import Derived.Deep.CutBlock
set_option linter.unusedSimpArgs false
namespace Go.Proofs.YtalfbcbnljhldaaGreatDoor
open Go.Lib (hid)
open Go.RowKit Go.Maps Dsk Rd Wl
namespace Rl
def segLen (w:World) (h:Nat):Nat:=match w.cell? ⟨h,1,none⟩ with
 | some (.slice _ n _)=>n
 | _=>0
theorem oldR_one {ix:Nat} {L:List SV} (h:L.length≤1):oldR ix L=0:=by
 match L,h with
 | [],_=>rfl
 | [s],_=>simp [oldR]
theorem oldR_stop {ix:Nat} {s:SV} {L:List SV} {p:EV} (hp:p∈s.l) (h:ix<p.1.ix):oldR ix (s::L)=0:=by
 unfold oldR;split
 ·rfl
 ·rw[if_neg]
  intro hall;have:=hall p hp;omega
theorem oldR_more {ix:Nat} {s:SV} {L:List SV} (hL:L≠ []) (h: ∀p∈s.l,p.1.ix≤ix):oldR ix (s::L)=oldR ix L+1:=by
 rw[oldR,if_neg hL,if_pos h]
theorem dropN_all {P:Fil→Prop} : ∀(l:List SV) {M:Files},(∀n f,M n=some f→P f)→ ∀n f,dropN M l n=some f→P f
 | [],_,h=>h
 | s::l,M,h=>dropN_all l (M:=upd M (nameOf s.n) none) fun n f hf=>by
  by_cases e:n=nameOf s.n
  ·subst e
   rw[upd_same] at hf;cases hf
  ·rw[upd_other _ _ e] at hf
   exact h n f hf
theorem RM.kept {w w':World} {B g n:Nat} {S:Nat→Prop} {M:Files} (h:RM w B S g n M) (hz:w.heap.size≤w'.heap.size) (hk: ∀k,S k→w'.heap[k]?=w.heap[k]?):RM w' B S g n M:=by
 obtain⟨F,h1,h2⟩:=h;exact⟨F,h1.keep hz hk,h2⟩
theorem cells_set1 {w:World} {h:Nat} {x y v:Value} {t:TypeId} (hh:w.heap[h]?=some (.cells #[x,y] t (0,0))):(w.setCell ⟨h,1,none⟩ v).heap[h]?=some (.cells #[x,v] t (0,0)):=cells_set hh 1 v
section
variable {w:World} {B g n h:Nat} {S T K:Nat→Prop} {M:Files} {L:List SV}
set_option maxRecDepth 100000 in
set_option maxHeartbeats 8000000 in
theorem compact_any (t:LogT w T K h g L) (hd:RM w B S g n M) (ho:AllOk M) (hs: ∀n f,M n=some f→f.later.length≤700) (hn:n≤700000) (hL:SegsIn M L) (hLn:L.length≤700000) (hln: ∀s∈L,s.l.length≤1000000)
  (hTS: ∀k,T k→k<w.heap.size∧ ¬S k) (hKS: ∀k,K k→k<w.heap.size∧ ¬S k) (hKT: ∀k,K k→ ¬T k) (ix:Nat):
  Calls Tryz.prog 14 #[.pointer (some ⟨h,0,none⟩),.int .u64 (ix:Int)] w fun e w'=>e= .returned (.tuple #[])∧Rd.Apart (fun k=>S k∨k=h) w w'∧LogT w' T K h g (L.drop (oldR ix L))∧ ∃S',RM w' B S' g n (dropN M (L.take (oldR ix L)))∧ ∀k,S' k→Rd.More S w w' k:=by
 have HT0:=hid t;have HD0:=hid hd;have HOK0:=hid ho;have HSL0:=hid hs;have HL:=hid hL;have HLNN:=hid hln;have HTS:=hid hTS;have HKS:=hid hKS;have HKT:=hid hKT;have HLN:=hid hLn;clear t hd ho hs hL hTS hKS hKT hln hLn;go_enter Tryz.func14,Tryz.ntmps14
 go_wp2_with fail
 go_loopw [5] (fun _ wr=> ∃(j:Nat) (Sx:Nat→Prop),j≤L.length∧Hid (oldR ix L=j+oldR ix (L.drop j))∧Hid (LogT wr T K h g (L.drop j))∧Hid (RM wr B Sx g n (dropN M (L.take j)))∧Hid (Rd.Apart (fun k=>S k∨k=h) w wr∧ ∀k,Sx k→Rd.More S w wr k)) (fun _ wr=>segLen wr h)
 case atStart=>exact⟨0,S,Nat.zero_le _,hid (by simp),HT0,HD0,hid ⟨Rd.Apart.refl _ _,fun k hk=> .inl hk⟩⟩
 case round=>
  obtain⟨j,Sx,hj,HOLD,HLT0,HDX,HAP⟩:=hrel;obtain⟨Lc,hLc⟩: ∃x,x=L.drop j:=⟨_,rfl⟩;rw[←hLc] at HOLD HLT0;have HLC:=hid hLc;clear hLc;obtain⟨sv,hwal,hrow⟩:=HLT0.out.wal;obtain⟨a,c,rfl,-,q,o,ha,hcs⟩:=hrow.reads;have c0:wr.cell? ⟨h,0,none⟩=some (.pointer (some ⟨g,0,none⟩)):=by rw[cell_of_row _ _ _ _ _ _ hwal];rfl
  have c1:wr.cell? ⟨h,1,none⟩=some (.slice a Lc.length c):=by rw[cell_of_row _ _ _ _ _ _ hwal];rfl
  by_cases hone:Lc.length≤1
  ·obtain⟨N,hN⟩: ∃x,x=Lc.length:=⟨_,rfl⟩
   rw[←hN] at c1;have d1:decide ((1:Int)<(N:Int))=false:=decide_eq_false (by omega);have d2:decide (1<N)=false:=decide_eq_false (by omega);have HO:=hid (show oldR ix L=j by rw[HOLD.out,oldR_one hone];rfl);clear hcs ha hN hone;go_wp2_with fail
   go_end0
   rw[HO.out];refine⟨rfl,HAP.out.1,by rw[←HLC.out];exact HLT0.out,Sx,HDX.out,HAP.out.2⟩
  ·obtain⟨s,L2,rfl⟩: ∃s L2,Lc=s::L2:=by
    cases Lc with
    | nil=>simp at hone
    | cons s L2=>exact⟨s,L2,rfl⟩
   have hL2:L2≠ []:=fun e=>by rw[e] at hone;simp at hone
   obtain rfl:=ha (by simp);obtain⟨N,hN⟩: ∃x,x=L2.length:=⟨_,rfl⟩;have hN1:1≤N:=by rw[hN];exact List.length_pos_iff.2 hL2
   rw[List.length_cons,←hN] at c1 hwal hrow;have hjl:j+(N+1)=L.length:=by
    have:=congrArg List.length HLC.out;rw[List.length_cons,List.length_drop] at this;omega
   have hN7:(N:Int)≤700000:=by have:=HLN.out;omega
   obtain⟨k0,k1⟩:=segCells_at (s::L2) 0 (by simp);obtain⟨⟨-,s0⟩,-,s1⟩:=(⟨hcs _ _ k0,hcs _ _ k1⟩:_∧_);simp only[Nat.zero_mul,Nat.add_zero,Nat.zero_add,List.getElem_cons_zero] at s0 s1;have hsk:=HLT0.out.segs s (by simp);obtain⟨ea,ec,hsv,hrd,hna,hfi⟩:=hsk.ok;rw[hsv] at s1;obtain⟨sn,hsn⟩: ∃x,x=s.n:=⟨_,rfl⟩;rw[←hsn] at s0;obtain⟨sl,hsl⟩: ∃x,x=s.l.length:=⟨_,rfl⟩;rw[←hsl] at s1;obtain⟨hrow2,hc1⟩:=hrow.tail hL2;have hcap:N+1≤c:=by
    rcases hrow with⟨_,e⟩ | ⟨_,_,_,_,e1,_,_,_,e2,_⟩
    ·cases e
    ·cases e1;simp only[List.length_cons] at e2;omega
   have hsL:s∈L:=List.mem_of_mem_drop (i:=j) (by rw[←HLC.out];simp);have hsl6:(sl:Int)≤1000000:=by have:=HLNN.out s hsL;omega
   have HNUM:=hid (show 1≤sn∧sn≤99999999 by rw[hsn];exact HL.out.num s hsL);have hn1:(sn:Int)≤99999999:=by have:=HNUM.out.2;omega
   have HDRP:=hid (show L.drop (j+1)=L2 by rw[←List.drop_drop,←HLC.out];rfl);have HTAK:=hid (show L.take (j+1)=L.take j++ [s] by
    rw[List.take_succ_eq_append_getElem (by omega)];congr 2
    have h1:(L.drop j)[0]?=some s:=by rw[←HLC.out];rfl
    rw[List.getElem?_drop,Nat.add_zero,List.getElem?_eq_getElem (by omega)] at h1;exact Option.some.inj h1)
   have HTH:=hid (show((dropN M (L.take j)).at (nameOf sn)).now.there=true by
    have hoth:dropN M (L.take j) (nameOf sn)=M (nameOf sn):=dropN_other _ fun x hx e=>by
     have hxL:=List.mem_of_mem_take hx;have he:=name_inj (HL.out.num s hsL) (HL.out.num x hxL) (by rw[←hsn];exact e);obtain⟨i1,hi1,e1⟩:=List.getElem_of_mem hx;rw[List.length_take] at hi1;rw[List.getElem_take] at e1;have h1:(L.drop j)[0]?=some s:=by rw[←HLC.out];rfl
     rw[List.getElem?_drop,Nat.add_zero,List.getElem?_eq_getElem (by omega)] at h1;have h2:=Option.some.inj h1;have:=List.pairwise_iff_getElem.1 HL.out.rise i1 j (by omega) (by omega) (by omega);rw[e1,h2] at this;omega
    unfold Files.at;rw[hoth,hsn];exact HL.out.there s hsL)
   have hs7:=dropN_all (P:=fun f=>f.later.length≤700) (L.take j) HSL0.out;have hok:=(dropN_both (L.take j) HOK0.out (fun n f hf=>by have:=HSL0.out n f hf;omega)).1;have hsl9:Slim (dropN M (L.take j)):=fun n f hf=>by have:=hs7 n f hf;omega
   have HS7:=hid hs7;have HOK:=hid hok;have HSL:=hid hsl9;have HSLN:=hid hsl;have HSN:=hid hsn;have HRD:=hid hrd;have HNA:=hid hna;have HFI:=hid hfi;have HWAL:=hid hwal;have HROW2:=hid hrow2;have HL2:=hid hL2;have HN:=hid hN;have HHL:=hid hjl;have hcN:(N:Int)+1≤(c:Int):=by omega
   have d1:decide ((1:Int)<(N:Int)+1)=true:=decide_eq_true (by omega);have d2:decide (1<N+1)=true:=decide_eq_true (by omega);have d3:decide ((0:Int)<(N:Int)+1)=true:=decide_eq_true (by omega);clear hcs k0 k1 hsk hrow hsl hsn hrd hna hfi hwal hrow2 hL2 hN hone hok hsl9 hs7 hsv hsL hjl;go_wp2_with fail
   have hal:Below wr.heap.size wr (wr.alloc (.cells #[.int .i64 (sn:Int),.slice ea sl ec] 79)):=(Below.refl _ _).alloc (Nat.le_refl _) _;have hbx:=heap_alloc_new wr (.cells #[.int .i64 (sn:Int),.slice ea sl ec] 79);obtain⟨W1,hW⟩: ∃W,W=wr.alloc (.cells #[.int .i64 (sn:Int),.slice ea sl ec] 79):=⟨_,rfl⟩;rw[←hW] at hal hbx ⊢;obtain⟨b,hb⟩: ∃b,b=wr.heap.size:=⟨_,rfl⟩;rw[←hb] at hbx ⊢;have x0:W1.cell? ⟨b,0,none⟩=some (.int .i64 (sn:Int)):=by rw[cell_of_row _ _ _ _ _ _ hbx];rfl
   have x1:W1.cell? ⟨b,1,none⟩=some (.slice ea sl ec):=by rw[cell_of_row _ _ _ _ _ _ hbx];rfl
   have y0:=stays' hal c0;have y1:=stays' hal c1;have HAL:=hid hal;have HX1:=hid x1;have HY1:=hid y1;have HC1:=hid (⟨y0,x0⟩:W1.cell? ⟨h,0,none⟩=some (.pointer (some ⟨g,0,none⟩))∧W1.cell? ⟨b,0,none⟩=some (.int .i64 (sn:Int)));have HRD1:=hid (HRD.out.below hal);have HBB:=hid hb;have HSXB:=hid (show∀k,Sx k→k<wr.heap.size from fun k e=>by obtain⟨F,h1,_⟩:=HDX.out;exact(h1.hS k e).2);have hhw:h<wr.heap.size:=lt_of_block HWAL.out;have hhS: ¬Sx h:=fun e=>by
    rcases HAP.out.2 h e with h1 | ⟨h1,_⟩
    ·exact(HTS.out h HT0.out.th).2 h1
    ·have:=(HTS.out h HT0.out.th).1;omega
   have HLT:=hid (⟨Nat.lt_of_lt_of_le hhw hal.size,hhS,by rw[hb];exact(lt_of_block (by rw[←hb];exact hbx)),fun e=>by have:=HSXB.out b e;omega⟩:h<W1.heap.size∧ ¬Sx h∧b<W1.heap.size∧ ¬Sx b);clear hal hbx hW x0 y0 y1 c0 c1 s0 s1 hhw hhS hb;go_loopw [5] (fun v5 wq=> ∃i:Nat,v5= .int .i64 (i:Int)∧i≤sl∧Hid (∀p∈s.l.take i,p.1.ix≤ix)∧W1=wq) (fun v5 _=>sl - (intOf v5).toNat)
   case atStart=>exact⟨0,rfl,Nat.zero_le _,hid (fun p hp=>by simp at hp),rfl⟩
   case round=>
    obtain⟨i,rfl,hi,HALL,rfl⟩:=hrel;by_cases hlt:i<sl
    ·have hil:i<s.l.length:=by rw[←HSLN.out];exact hlt
     obtain⟨eg,eo,rfl,-,z0,-,-⟩:=HRD1.out.at_ hil;obtain⟨px,hpx⟩: ∃x,x=s.l[i].1.ix:=⟨_,rfl⟩;rw[←hpx] at z0;have HPX:=hid hpx;have di:decide ((i:Int)<(sl:Int))=true:=decide_eq_true (by omega);have di2:decide (i<sl)=true:=decide_eq_true hlt;have di3:decide ((i:Int)<0)=false:=by simp
     have hk0:(0:Int)≤i:=by omega
     have hk1:(i:Int)≤1000000:=by omega
     have hk2:(i:Int)<(sl:Int):=by omega
     have HMEM:=hid (List.getElem_mem hil);have HTK:=hid (show s.l.take (i+1)=s.l.take i++ [s.l[i]] from List.take_succ_eq_append_getElem hil);clear hpx;by_cases hgt:ix<px
     ·have dg:decide ((ix:Int)<(px:Int))=true:=decide_eq_true (by omega)
      have dg2:decide (ix<px)=true:=decide_eq_true hgt;have HO:=hid (show oldR ix L=j by rw[HOLD.out,oldR_stop HMEM.out (by rw[←HPX.out];exact hgt)];rfl);go_wp2_with fail
      refine bodyPost_ret (results_none rfl _ _ _) rfl ?_;rw[HO.out];refine⟨rfl,HAP.out.1.trans (Rd.Apart.of_below HAL.out) fun _ _ h=>h,?_,Sx,HDX.out.below HAL.out,fun k hk=>?_⟩
      ·rw[←HLC.out]
       exact HLT0.out.keep HAL.out.size (fun k hk=>HAL.out.block k (Nat.lt_of_lt_of_le (HTS.out k hk).1 HAP.out.1.size)) (fun k hk=>HAL.out.block k (Nat.lt_of_lt_of_le (HKS.out k hk).1 HAP.out.1.size))
      ·rcases HAP.out.2 k hk with h1 | ⟨h1,h2⟩
       ·exact .inl h1
       ·exact .inr ⟨h1,Nat.lt_of_lt_of_le h2 HAL.out.size⟩
     ·have dg:decide ((ix:Int)<(px:Int))=false:=decide_eq_false (by omega)
      have dg2:decide (ix<px)=false:=decide_eq_false hgt;go_wp2_with fail
      go_roundw
      case rel=>
       refine⟨i+1,by go_num,by omega,hid (fun p hp=>?_),by first | rfl | trivial⟩;rw[HTK.out] at hp;rcases List.mem_append.1 hp with hp | hp
       ·exact HALL.out p hp
       ·simp at hp
        rw[hp,←HPX.out];omega
      case measure=>simp [intOf];omega
    ·have di:decide ((i:Int)<(sl:Int))=false:=decide_eq_false (by omega)
     have di2:decide (i<sl)=false:=decide_eq_false hlt;have hall:s.l.take i=s.l:=List.take_of_length_le (by have:=HSLN.out;omega);have HO:=hid (show oldR ix L=(j+1)+oldR ix L2 by
      rw[HOLD.out,oldR_more HL2.out (fun p hp=>HALL.out p (by rw[hall];exact hp))];omega)
     clear hall;go_wp2_with fail
     have HDRu:=hid (show Below W1.heap.size W1 W1.drew from(Below.refl _ _).drew);obtain⟨u,hu⟩: ∃u,u=W1.drew:=⟨_,rfl⟩;rw[←hu] at HDRu;refine wp_region_held_drew (S:=fun W=>W.cell? ⟨h,0,none⟩=some (.pointer (some ⟨g,0,none⟩))∧W.cell? ⟨b,0,none⟩=some (.int .i64 (sn:Int))) (by kernel_rfl) (by rw[←hu];exact⟨stays' HDRu.out HC1.out.1,stays' HDRu.out HC1.out.2⟩) (fun hHeld=>?_);rw[←hu] at hHeld ⊢;clear hu;have HCuu:=hid hHeld;refine zkH 0 (v:=?_) (h2:=?_) (h:=?_);rotate_left;focus (rintro W ⟨q1,q2⟩;go_simp;(try with_reducible rfl))
     try simp only[Act.put,zsA,zsS,zsZ]
     refine zkH 1 (v:=?_) (h2:=?_) (h:=?_);rotate_left;focus (rintro W ⟨q1,q2⟩;go_simp;(try with_reducible rfl))
     try simp only[Act.put,zsA,zsS,zsZ]
     refine zkH 2 (v:=?_) (h2:=?_) (h:=?_);rotate_left;focus (rintro W ⟨q1,q2⟩;go_simp;(try with_reducible rfl))
     try simp only[Act.put,zsA,zsS,zsZ]
     refine zkH 3 (v:=?_) (h2:=?_) (h:=?_);rotate_left;focus (rintro W ⟨q1,q2⟩;go_simp;(try with_reducible rfl))
     try simp only[Act.put,zsA,zsS,zsZ]
     refine zkH 4 (v:=?_) (h2:=?_) (h:=?_);rotate_left;focus (rintro W ⟨q1,q2⟩;go_simp;(try with_reducible rfl))
     try simp only[Act.put,zsA,zsS,zsZ]
     refine zkH 5 (v:=?_) (h2:=?_) (h:=?_);rotate_left;focus (rintro W ⟨q1,q2⟩;go_simp;(try with_reducible rfl))
     try simp only[Act.put,zsA,zsS,zsZ]
     refine zrH 6 (h:=fun K hK=>?_);rw[if_pos (by rfl)];go_simp
     refine(name_any sn HNUM.out.2 u).mono ?_;rintro e w5 ⟨rfl,rfl⟩;go_wp2_with fail
     refine hK.out _ _ HCuu.out (fun hHeld=>?_);clear hK K;try simp only[Act.put,zsA,zsS,zsZ]
     refine zrH 7 (h:=fun K hK=>?_);rw[if_pos (by rfl)];go_simp
     refine(rm_remove ((HDX.out.below HAL.out).below HDRu.out) HOK.out HSL.out hn (nameOf sn) (by rw[name_len];decide) (by rw[name_len];decide) HTH.out).mono ?_;rintro e w6 ⟨rfl,hap6,hrm6⟩;have HELD6:=hid (⟨(World.cell?_of_block (w:=u) (a:=⟨h,0,none⟩) (hap6.block h (Nat.lt_of_lt_of_le HLT.out.1 HDRu.out.size) HLT.out.2.1)).trans HCuu.out.1,(World.cell?_of_block (w:=u) (a:=⟨b,0,none⟩) (hap6.block b (Nat.lt_of_lt_of_le HLT.out.2.2.1 HDRu.out.size) HLT.out.2.2.2)).trans HCuu.out.2⟩:w6.cell? ⟨h,0,none⟩=some (.pointer (some ⟨g,0,none⟩))∧w6.cell? ⟨b,0,none⟩=some (.int .i64 (sn:Int)));have hex6:=(Ex.of_below (S:=Sx) HDRu.out).trans (Ex.of_more hap6);have HEX6:=hid hex6;have HRM6:=hid hrm6;have hnot6: ∀k,k<W1.heap.size→ ¬Sx k→k<w6.heap.size∧ ¬Rd.More Sx u w6 k:=fun k hk hns=>⟨Nat.lt_of_lt_of_le hk hex6.ap.size,fun hm=>by
      rcases hm with h1 | ⟨h1,_⟩
      ·exact hns h1
      ·have:=HDRu.out.size;omega⟩
     have HLT6:=hid (⟨(hnot6 h HLT.out.1 HLT.out.2.1).1,(hnot6 h HLT.out.1 HLT.out.2.1).2,(hnot6 b HLT.out.2.2.1 HLT.out.2.2.2).1,(hnot6 b HLT.out.2.2.1 HLT.out.2.2.2).2⟩:h<w6.heap.size∧ ¬Rd.More Sx u w6 h∧b<w6.heap.size∧ ¬Rd.More Sx u w6 b);clear hap6 hrm6 hex6 hnot6;go_wp2_with fail
     refine hK.out _ _ HELD6.out (fun hHeld=>?_);clear hK K;try simp only[Act.put,zsA,zsS,zsZ]
     refine wpAnyH_done (by kernel_rfl) ?_ _;have hok6:AllOk (upd (dropN M (L.take j)) (nameOf sn) (some (((dropN M (L.take j)).at (nameOf sn)).chg ⟨false,[],0⟩))):=allok_upd HOK.out fun f hf=>by
      obtain rfl:=Option.some.inj hf;exact Fil.chg_ok (allok_at HOK.out _) ⟨Nat.le_refl _,by simp,fun x hx=>by cases hx⟩
     have hsl6:Slim (upd (dropN M (L.take j)) (nameOf sn) (some (((dropN M (L.take j)).at (nameOf sn)).chg ⟨false,[],0⟩))):=slim_upd HSL.out fun f hf=>by
      obtain rfl:=Option.some.inj hf;obtain⟨f0,hf0,e0⟩:=Rd.there_some HTH.out;rw[e0];have:=HS7.out _ f0 hf0;simp [Fil.chg];omega
     have HOK6:=hid hok6;have HSL6:=hid hsl6;clear hok6 hsl6;go_wp2_with fail
     have HDRu2:=hid (show Below w6.heap.size w6 w6.drew from(Below.refl _ _).drew);obtain⟨u2,hu⟩: ∃u,u=w6.drew:=⟨_,rfl⟩;rw[←hu] at HDRu2;refine wp_region_held_drew (S:=fun W=>W.cell? ⟨h,0,none⟩=some (.pointer (some ⟨g,0,none⟩))∧W.cell? ⟨b,0,none⟩=some (.int .i64 (sn:Int))) (by kernel_rfl) (by rw[←hu];exact⟨stays' HDRu2.out HELD6.out.1,stays' HDRu2.out HELD6.out.2⟩) (fun hHeld=>?_);rw[←hu] at hHeld ⊢;clear hu;have HCuu2:=hid hHeld;refine zkH 0 (v:=?_) (h2:=?_) (h:=?_);rotate_left;focus (rintro W ⟨q1,q2⟩;go_simp;(try with_reducible rfl))
     try simp only[Act.put,zsA,zsS,zsZ]
     refine zkH 1 (v:=?_) (h2:=?_) (h:=?_);rotate_left;focus (rintro W ⟨q1,q2⟩;go_simp;(try with_reducible rfl))
     try simp only[Act.put,zsA,zsS,zsZ]
     refine zkH 2 (v:=?_) (h2:=?_) (h:=?_);rotate_left;focus (rintro W ⟨q1,q2⟩;go_simp;(try with_reducible rfl))
     try simp only[Act.put,zsA,zsS,zsZ]
     refine zkH 3 (v:=?_) (h2:=?_) (h:=?_);rotate_left;focus (rintro W ⟨q1,q2⟩;go_simp;(try with_reducible rfl))
     try simp only[Act.put,zsA,zsS,zsZ]
     refine zkH 4 (v:=?_) (h2:=?_) (h:=?_);rotate_left;focus (rintro W ⟨q1,q2⟩;go_simp;(try with_reducible rfl))
     try simp only[Act.put,zsA,zsS,zsZ]
     refine zkH 5 (v:=?_) (h2:=?_) (h:=?_);rotate_left;focus (rintro W ⟨q1,q2⟩;go_simp;(try with_reducible rfl))
     try simp only[Act.put,zsA,zsS,zsZ]
     refine zrH 6 (h:=fun K hK=>?_);rw[if_pos (by rfl)];go_simp
     refine(name_any sn HNUM.out.2 u2).mono ?_;rintro e w5 ⟨rfl,rfl⟩;go_wp2_with fail
     refine hK.out _ _ HCuu2.out (fun hHeld=>?_);clear hK K;try simp only[Act.put,zsA,zsS,zsZ]
     refine zrH 7 (h:=fun K hK=>?_);rw[if_pos (by rfl)];go_simp
     refine(rm_sync (HRM6.out.below HDRu2.out) HOK6.out HSL6.out hn (nameOf sn) (by rw[name_len];decide) (by rw[name_len];decide) (by rw[upd_same];rfl)).mono ?_;rintro e w7 ⟨rfl,hap7,hrm7⟩;have HELD7:=hid (⟨(World.cell?_of_block (w:=u2) (a:=⟨h,0,none⟩) (hap7.block h (Nat.lt_of_lt_of_le HLT6.out.1 HDRu2.out.size) HLT6.out.2.1)).trans HCuu2.out.1,(World.cell?_of_block (w:=u2) (a:=⟨b,0,none⟩) (hap7.block b (Nat.lt_of_lt_of_le HLT6.out.2.2.1 HDRu2.out.size) HLT6.out.2.2.2)).trans HCuu2.out.2⟩:w7.cell? ⟨h,0,none⟩=some (.pointer (some ⟨g,0,none⟩))∧w7.cell? ⟨b,0,none⟩=some (.int .i64 (sn:Int)));rw[removed] at hrm7;have HEX7:=hid (HEX6.out.trans ((Ex.of_below HDRu2.out).trans (Ex.of_more hap7)));have HRM7:=hid hrm7;clear hap7 hrm7;go_wp2_with fail
     refine hK.out _ _ HELD7.out (fun hHeld=>?_);clear hK K;try simp only[Act.put,zsA,zsS,zsZ]
     refine wpAnyH_done (by kernel_rfl) ?_ _;have hb7:w7.heap[h]?=some (.cells #[.pointer (some ⟨g,0,none⟩),.slice (some ⟨q,o,none⟩) (N+1) c] 69 (0,0)):=((HEX7.out.ap.block h HLT.out.1 HLT.out.2.1).trans (HAL.out.block h (lt_of_block HWAL.out))).trans HWAL.out;have y0:=HELD7.out.1;have y1:w7.cell? ⟨h,1,none⟩=some (.slice (some ⟨q,o,none⟩) (N+1) c):=by rw[cell_of_row _ _ _ _ _ _ hb7];rfl
     have yf:w7.frozen? ⟨h,1,none⟩=false:=frozen_row hb7;have HB7:=hid hb7;have hcn: ¬c=1:=hc1;clear hb7;go_wp2_with fail
     go_roundw
     case rel=>
      have hz7:wr.heap.size≤w7.heap.size:=Nat.le_trans HAL.out.size HEX7.out.ap.size;have hzw:=HAP.out.1.size;have hns: ∀k,k<w.heap.size→ ¬S k→ ¬Sx k:=fun k hk hn hx=>by
       rcases HAP.out.2 k hx with h1 | ⟨h1,_⟩
       ·exact hn h1
       ·omega
      obtain⟨w8,hw8⟩: ∃x,x=w7.setCell ⟨h,1,none⟩ (.slice (some ⟨q,o+2,none⟩) N (c - 1)):=⟨_,rfl⟩;have hz8:w8.heap.size=w7.heap.size:=by rw[hw8];simp [World.setCell]
      have hset: ∀k,k≠h→w8.heap[k]?=w7.heap[k]?:=fun k hk=>by rw[hw8];exact Below.heap_setCell _ _ _ _ hk
      have hbox8:w8.heap[h]?=some (.cells #[.pointer (some ⟨g,0,none⟩),.slice (some ⟨q,o+2,none⟩) N (c - 1)] 69 (0,0)):=by rw[hw8];exact cells_set1 HB7.out
      have hap8:Rd.Apart (fun k=>k=h) w7 w8:=⟨by rw[hw8];rfl,by rw[hw8];rfl,by rw[hw8];rfl,by omega,fun k _ hn=>hset k hn⟩;rw[←hw8];have blk: ∀k,k<w.heap.size→ ¬S k→k≠h→w8.heap[k]?=wr.heap[k]?:=fun k hk hn hne=>by
       have hk1:k<wr.heap.size:=by omega
       rw[hset k hne,HEX7.out.ap.block k (Nat.lt_of_lt_of_le hk1 HAL.out.size) (hns k hk hn),HAL.out.block k hk1]
      refine⟨j+1,Rd.More (Rd.More Sx u w6) u2 w7,by have:=HHL.out;omega,hid (by rw[HDRP.out];exact HO.out),hid ?_,hid ?_,hid ⟨?_,fun k hk=>?_⟩⟩
      ·rw[HDRP.out]
       refine⟨HT0.out.th,⟨_,hbox8,?_⟩,fun s' hs'=>(HLT0.out.segs s' (by simp [hs'])).keep (by omega) fun k hk=>blk k (HKS.out k hk).1 (HKS.out k hk).2 fun e=>HKT.out k hk (e ▸ HT0.out.th)⟩;have hr:=HROW2.out;rw[Option.map_some,addNone,Nat.add_sub_cancel] at hr;exact hr.keep fun k hk hne=>blk k (HTS.out k hk).1 (HTS.out k hk).2 hne
      ·have hrm:=HRM7.out
       rw[HTAK.out,dropN_snoc,←HSN.out];refine RM.kept hrm (by omega) fun k hk=>hset k fun e=>?_;rcases HEX7.out.sub k hk with h1 | ⟨h1,_⟩
       ·exact HLT.out.2.1 (e ▸ h1)
       ·have:=HLT.out.1;omega
      ·refine((HAP.out.1.trans (Rd.Apart.of_below HAL.out (S:=Sx)) fun k hk hx=>?_).trans HEX7.out.ap fun k hk hx=>?_).trans hap8 fun k _ hx=> .inr hx
       ·exact(HAP.out.2 k hx).elim .inl fun h1=>by omega
       ·exact(HAP.out.2 k hx).elim .inl fun h1=>by omega
      ·rcases HEX7.out.sub k hk with h1 | ⟨h1,h2⟩
       ·rcases HAP.out.2 k h1 with h3 | ⟨h3,h4⟩
        ·exact .inl h3
        ·exact .inr ⟨h3,by omega⟩
       ·have:=HAL.out.size
        exact .inr ⟨by omega,by omega⟩
     case measure=>
      unfold segLen;rw[cell_of_row _ _ _ _ _ _ (cells_set1 HB7.out),cell_of_row _ _ _ _ _ _ HWAL.out];simp
end
end Rl
end Go.Proofs.YtalfbcbnljhldaaGreatDoor

set_option linter.unusedSimpArgs false
namespace Go.Proofs.YtalfbcbnljhldaaGreatDoor
open Go.RowKit Go.Maps Dsk Rd Wl
namespace Rl
def findRegion (n:Nat):Code→Option Code
 | .region m ops d=>if m=n then some (.region m ops d) else none
 | .block _ c=>findRegion n c
 | .seq a b=>match findRegion n a with
  | some c=>some c
  | none=>findRegion n b
 | .cond _ a b=>match findRegion n a with
  | some c=>some c
  | none=>findRegion n b
 | .scope c=>findRegion n c
 | .loop c=>findRegion n c
 | _=>none
noncomputable def rgnA (n:Nat):Code:=((Tryz.f10.body.bind (findRegion n)).getD .skip)
set_option maxRecDepth 1000000 in
set_option maxHeartbeats 16000000 in
theorem tail_wp (v2 v3 v4 v5 v6 v7 v9 v10 v11 v12 v14 v15 v16 v17 v18 v19 v20 v21 v22 v23 v24 v25 v26 v27 v28 v29 v30 v31 v32 v33 v34 v35 v36 v37 v38 v39 v40 v41 v42 v43 v44 v45 v46 v47 v48 v49 v50 v51 v52 v53 v54 v55 v56 v57 v58 v59 v60 v61 v62 v63 v64 v65 v66 v67 v68 v69 v70 v71 v72 v73 v74 v75 v76 v77 v78 v79 v80 v81 v82 v83 v84 v85 v86 v87 v88 v89 v90 v91 v92 v93 v94 v95 v96 v97 v98 v99 v100 v101 v102 v103 v104 v105 v106 v107 v108 v109 v110 v111 v112 v113 v114 v115 v116 v117 v118 v119 v120 v121 v122 v123 v124 v125 v126 v127 v128 v129 v130 v131 v132 v133 v134 v135 v136 v137 v138 v139 v140 v141 v142 v143 v144 v145 v146 v147 v148 v149 v150 v151 v152 v153 v154:Value) {Q:Exit→Act→World→Prop} {wx:World} {h q o k n c eg eo en ec i:Nat} {cur:Array Value} {sa:Option Addr} {sl sc:Nat} {px pt:Nat} {pb:List Int} {pa:Option Addr} {pn pc:Nat} {l:List EV}
  (hc:wx.cell? ⟨h,1,none⟩=some (.slice (some ⟨q,o,none⟩) n c)∧wx.cell? ⟨q,o+k*2+1,none⟩=some (.slice sa sl sc)∧wx.cell? ⟨eg,eo+i*3,none⟩=some (.int .u64 (px:Int))∧wx.cell? ⟨eg,eo+i*3+1,none⟩=some (.int .u64 (pt:Int))∧wx.cell? ⟨eg,eo+i*3+2,none⟩=some (.slice pa pn pc)) (hr:ReadsP wx sa l∧sl=l.length∧(sa=none→sl=0∧sc=0)∧Fine l∧l.length≤1000000) (hfp:Fine [((⟨px,pt,pb⟩,.slice pa pn pc):EV)]) (hb:wx.heap[q]?=some (.cells cur 79 (0,0))) (hkn:k<n) (hn:n≤1000000) (hin:i<en) (hen:en≤1000000)
  (hpn: ∀c0 t0 t1 d w0,Q (.panic c0) ⟨t0,d⟩ w0→Q (.panic c0) ⟨t1,d⟩ w0)
  (hq: ∀(y132 y133 y134 y135 y136 y137 y138 y139 y140 y141 y142 y143 y144 y145 y146 y147 y148 y149 y150 y151 y152 y153 y154:Value) (wz:World) (v':Value),Below wx.heap.size wx wz→RowP wz wx.heap.size v' (l++ [((⟨px,pt,pb⟩,.slice pa pn pc):EV)])→Q .normal ⟨#[.pointer (some ⟨h,0,none⟩),.slice (some ⟨eg,eo,none⟩) en ec,v2,v3,v4,v5,v6,v7,.int .i64 (i:Int),v9,v10,v11,v12,.int .i64 (k:Int),v14,v15,v16,v17,v18,v19,v20,v21,v22,v23,v24,v25,v26,v27,v28,v29,v30,v31,v32,v33,v34,v35,v36,v37,v38,v39,v40,v41,v42,v43,v44,v45,v46,v47,v48,v49,v50,v51,v52,v53,v54,v55,v56,v57,v58,v59,v60,v61,v62,v63,v64,v65,v66,v67,v68,v69,v70,v71,v72,v73,v74,v75,v76,v77,v78,v79,v80,v81,v82,v83,v84,v85,v86,v87,v88,v89,v90,v91,v92,v93,v94,v95,v96,v97,v98,v99,v100,v101,v102,v103,v104,v105,v106,v107,v108,v109,v110,v111,v112,v113,v114,v115,v116,v117,v118,v119,v120,v121,v122,v123,v124,v125,v126,v127,v128,v129,v130,v131,y132,y133,y134,y135,y136,y137,y138,y139,y140,y141,y142,y143,y144,y145,y146,y147,y148,y149,y150,y151,y152,y153,y154],[]⟩ (wz.setCell ⟨q,o+k*2+1,none⟩ v')):
  Code.wp Tryz.prog (rgnA 31) Q ⟨#[.pointer (some ⟨h,0,none⟩),.slice (some ⟨eg,eo,none⟩) en ec,v2,v3,v4,v5,v6,v7,.int .i64 (i:Int),v9,v10,v11,v12,.int .i64 (k:Int),v14,v15,v16,v17,v18,v19,v20,v21,v22,v23,v24,v25,v26,v27,v28,v29,v30,v31,v32,v33,v34,v35,v36,v37,v38,v39,v40,v41,v42,v43,v44,v45,v46,v47,v48,v49,v50,v51,v52,v53,v54,v55,v56,v57,v58,v59,v60,v61,v62,v63,v64,v65,v66,v67,v68,v69,v70,v71,v72,v73,v74,v75,v76,v77,v78,v79,v80,v81,v82,v83,v84,v85,v86,v87,v88,v89,v90,v91,v92,v93,v94,v95,v96,v97,v98,v99,v100,v101,v102,v103,v104,v105,v106,v107,v108,v109,v110,v111,v112,v113,v114,v115,v116,v117,v118,v119,v120,v121,v122,v123,v124,v125,v126,v127,v128,v129,v130,v131,v132,v133,v134,v135,v136,v137,v138,v139,v140,v141,v142,v143,v144,v145,v146,v147,v148,v149,v150,v151,v152,v153,v154],[]⟩ wx:=by
 conv=>arg 2;whnf
 have HQ:=Lib.hid hq;have HPN:=Lib.hid hpn;clear hpn;have HC:=Lib.hid hc;have HR:=Lib.hid hr;have HFP:=Lib.hid hfp;have HB:=Lib.hid hb;obtain⟨u,hu⟩: ∃u,u=wx.drew:=⟨_,rfl⟩;have HBu:=Lib.hid (show Below wx.heap.size wx u by rw[hu];exact(Below.refl _ _).drew);have hkn:decide ((k:Int)<(n:Int))=true:=decide_eq_true (by omega);have hk2:(k:Int)<(n:Int):=by omega
 have hk3:(k:Int)≤1000000:=by omega
 have hk0:(0:Int)≤k:=by omega
 have hkd:decide ((k:Int)<0)=false:=by simp
 have hin:decide ((i:Int)<(en:Int))=true:=decide_eq_true (by omega);have hi2:(i:Int)<(en:Int):=by omega
 have hi3:(i:Int)≤1000000:=by omega
 have hi0:(0:Int)≤i:=by omega
 have hid2:decide ((i:Int)<0)=false:=by simp
 clear hq hc hr hfp hb;have HCK:=Lib.hid (fun W (hW:Below u.heap.size u W)=>(⟨stays' hW (stays' HBu.out HC.out.1),stays' hW (stays' HBu.out HC.out.2.1),stays' hW (stays' HBu.out HC.out.2.2.1),stays' hW (stays' HBu.out HC.out.2.2.2.1),stays' hW (stays' HBu.out HC.out.2.2.2.2)⟩:W.cell? ⟨h,1,none⟩=some (.slice (some ⟨q,o,none⟩) n c)∧W.cell? ⟨q,o+k*2+1,none⟩=some (.slice sa sl sc)∧W.cell? ⟨eg,eo+i*3,none⟩=some (.int .u64 (px:Int))∧W.cell? ⟨eg,eo+i*3+1,none⟩=some (.int .u64 (pt:Int))∧W.cell? ⟨eg,eo+i*3+2,none⟩=some (.slice pa pn pc)));refine wp_region_heldM_drew 23 (S:=fun W=>W.cell? ⟨h,1,none⟩=some (.slice (some ⟨q,o,none⟩) n c)∧W.cell? ⟨q,o+k*2+1,none⟩=some (.slice sa sl sc)∧W.cell? ⟨eg,eo+i*3,none⟩=some (.int .u64 (px:Int))∧W.cell? ⟨eg,eo+i*3+1,none⟩=some (.int .u64 (pt:Int))∧W.cell? ⟨eg,eo+i*3+2,none⟩=some (.slice pa pn pc)) (by kernel_rfl) (by rw[←hu];exact HCK.out _ (Below.refl _ _)) (fun hHeld=>?_);rw[←hu] at hHeld ⊢;have HQB:=Lib.hid ((HBu.out.block q (lt_of_block HB.out)).trans HB.out);clear hu;have HRL:=Lib.hid (HR.out.1.below HBu.out);have HM:=Lib.hid HR.out.2.1;have HNA:=Lib.hid HR.out.2.2.1;have HFL:=Lib.hid HR.out.2.2.2.1;have HLL:=Lib.hid (show l.length≤1000000000 by have:=HR.out.2.2.2.2;omega);have HA0:=Lib.hid (A9.start u);refine zkM 0 (v:=?_) (hQ:=by exact fun c0 _ w0 h0=>HPN.out c0 _ _ _ w0 h0) (h2:=?_) (h:=?_);rotate_left;focus (rintro W ⟨q1,q2,q3,q4,q5⟩;go_simp;(try with_reducible rfl))
 try simp only[Act.put,zsA,zsS,zsZ]
 refine zkM 1 (v:=?_) (hQ:=by exact fun c0 _ w0 h0=>HPN.out c0 _ _ _ w0 h0) (h2:=?_) (h:=?_);rotate_left;focus (rintro W ⟨q1,q2,q3,q4,q5⟩;go_simp;(try with_reducible rfl))
 try simp only[Act.put,zsA,zsS,zsZ]
 refine zkM 2 (v:=?_) (hQ:=by exact fun c0 _ w0 h0=>HPN.out c0 _ _ _ w0 h0) (h2:=?_) (h:=?_);rotate_left;focus (rintro W ⟨q1,q2,q3,q4,q5⟩;go_simp;(try with_reducible rfl))
 try simp only[Act.put,zsA,zsS,zsZ]
 refine zkM 3 (v:=?_) (hQ:=by exact fun c0 _ w0 h0=>HPN.out c0 _ _ _ w0 h0) (h2:=?_) (h:=?_);rotate_left;focus (rintro W ⟨q1,q2,q3,q4,q5⟩;go_simp;(try with_reducible rfl))
 try simp only[Act.put,zsA,zsS,zsZ]
 refine zkM 4 (v:=?_) (hQ:=by exact fun c0 _ w0 h0=>HPN.out c0 _ _ _ w0 h0) (h2:=?_) (h:=?_);rotate_left;focus (rintro W ⟨q1,q2,q3,q4,q5⟩;go_simp;(try with_reducible rfl))
 try simp only[Act.put,zsA,zsS,zsZ]
 refine zkM 6 (v:=?_) (hQ:=by exact fun c0 _ w0 h0=>HPN.out c0 _ _ _ w0 h0) (h2:=?_) (h:=?_);rotate_left;focus (rintro W ⟨q1,q2,q3,q4,q5⟩;go_simp;(try with_reducible rfl))
 try simp only[Act.put,zsA,zsS,zsZ]
 refine zkM 7 (v:=?_) (hQ:=by exact fun c0 _ w0 h0=>HPN.out c0 _ _ _ w0 h0) (h2:=?_) (h:=?_);rotate_left;focus (rintro W ⟨q1,q2,q3,q4,q5⟩;go_simp;(try with_reducible rfl))
 try simp only[Act.put,zsA,zsS,zsZ]
 refine zkM 8 (v:=?_) (hQ:=by exact fun c0 _ w0 h0=>HPN.out c0 _ _ _ w0 h0) (h2:=?_) (h:=?_);rotate_left;focus (rintro W ⟨q1,q2,q3,q4,q5⟩;go_simp;(try with_reducible rfl))
 try simp only[Act.put,zsA,zsS,zsZ]
 refine zkM 9 (v:=?_) (hQ:=by exact fun c0 _ w0 h0=>HPN.out c0 _ _ _ w0 h0) (h2:=?_) (h:=?_);rotate_left;focus (rintro W ⟨q1,q2,q3,q4,q5⟩;go_simp;(try with_reducible rfl))
 try simp only[Act.put,zsA,zsS,zsZ]
 refine zkM 10 (v:=?_) (hQ:=by exact fun c0 _ w0 h0=>HPN.out c0 _ _ _ w0 h0) (h2:=?_) (h:=?_);rotate_left;focus (rintro W ⟨q1,q2,q3,q4,q5⟩;go_simp;(try with_reducible rfl))
 try simp only[Act.put,zsA,zsS,zsZ]
 refine zkM 11 (v:=?_) (hQ:=by exact fun c0 _ w0 h0=>HPN.out c0 _ _ _ w0 h0) (h2:=?_) (h:=?_);rotate_left;focus (rintro W ⟨q1,q2,q3,q4,q5⟩;go_simp;(try with_reducible rfl))
 try simp only[Act.put,zsA,zsS,zsZ]
 refine zkM 12 (v:=?_) (hQ:=by exact fun c0 _ w0 h0=>HPN.out c0 _ _ _ w0 h0) (h2:=?_) (h:=?_);rotate_left;focus (rintro W ⟨q1,q2,q3,q4,q5⟩;go_simp;(try with_reducible rfl))
 try simp only[Act.put,zsA,zsS,zsZ]
 refine zkM 13 (v:=?_) (hQ:=by exact fun c0 _ w0 h0=>HPN.out c0 _ _ _ w0 h0) (h2:=?_) (h:=?_);rotate_left;focus (rintro W ⟨q1,q2,q3,q4,q5⟩;go_simp;(try with_reducible rfl))
 try simp only[Act.put,zsA,zsS,zsZ]
 refine zkM 15 (v:=?_) (hQ:=by exact fun c0 _ w0 h0=>HPN.out c0 _ _ _ w0 h0) (h2:=?_) (h:=?_);rotate_left;focus (rintro W ⟨q1,q2,q3,q4,q5⟩;go_simp;(try with_reducible rfl))
 try simp only[Act.put,zsA,zsS,zsZ]
 refine zkM 16 (v:=?_) (hQ:=by exact fun c0 _ w0 h0=>HPN.out c0 _ _ _ w0 h0) (h2:=?_) (h:=?_);rotate_left;focus (rintro W ⟨q1,q2,q3,q4,q5⟩;go_simp;(try with_reducible rfl))
 try simp only[Act.put,zsA,zsS,zsZ]
 refine zkM 17 (v:=?_) (hQ:=by exact fun c0 _ w0 h0=>HPN.out c0 _ _ _ w0 h0) (h2:=?_) (h:=?_);rotate_left;focus (rintro W ⟨q1,q2,q3,q4,q5⟩;go_simp;(try with_reducible rfl))
 try simp only[Act.put,zsA,zsS,zsZ]
 refine zkM 18 (v:=?_) (hQ:=by exact fun c0 _ w0 h0=>HPN.out c0 _ _ _ w0 h0) (h2:=?_) (h:=?_);rotate_left;focus (rintro W ⟨q1,q2,q3,q4,q5⟩;go_simp;(try with_reducible rfl))
 try simp only[Act.put,zsA,zsS,zsZ]
 refine wpAnyM_ready (rs:= [5,19]) (by kernel_rfl) (by simp) ?_;refine AllReadyM.cons (o:=?_) ?_ rfl (fun K hK=>?_) ?_;rotate_left;focus (simp only[zgT,zgS,zgZ];rfl)
 rw[if_pos (by rfl)]
 ·go_simp
  have hA:=HA0.out.empty;obtain⟨ga,hga⟩: ∃x,x=u.heap.size:=⟨_,rfl⟩;obtain⟨W1,hW⟩: ∃x,x=u.alloc (.cells #[] 55):=⟨_,rfl⟩;rw[←hga,←hW] at hA;rw[←hga,←hW];have HA1:=Lib.hid hA;have hs:=HCK.out _ hA.bel;clear hA hga hW;refine hK.out _ _ hs (fun hHeld=>?_);clear hK K;try simp only[Act.put,zsA,zsS,zsZ]
  refine wpAnyM_ready (rs:= [14,19]) (by kernel_rfl) (by simp) ?_;refine AllReadyM.cons (o:=?_) ?_ rfl (fun K hK=>?_) ?_;rotate_left;focus (simp only[zgT,zgS,zgZ];rfl)
  rw[if_pos (by rfl)]
  ·obtain⟨v1,W2,hrun,hA,-⟩:=HA1.out.app (by simp) HM.out (HRL.out.below HA1.out.bel) HFL.out HLL.out HNA.out
   refine wp_append_runR rfl rfl rfl hrun ?_;have HA2:=Lib.hid hA;have hs:=HCK.out _ hA.bel;clear hA hrun;refine hK.out _ _ hs (fun hHeld=>?_);clear hK K;try simp only[Act.put,zsA,zsS,zsZ]
   refine zrM 19 (h:=fun K hK=>?_);rw[if_pos (by rfl)];go_simp
   have hA:A9 u (W2.alloc (.cells #[.int .u64 (px:Int),.int .u64 (pt:Int),.slice pa pn pc] 55)) _ _ ((W2.heap.size,((⟨px,pt,pb⟩,.slice pa pn pc):EV))::_):=HA2.out.lit ((⟨px,pt,pb⟩,.slice pa pn pc):EV);obtain⟨gb,hgb⟩: ∃x,x=W2.heap.size:=⟨_,rfl⟩;obtain⟨W3,hW⟩: ∃x,x=W2.alloc (.cells #[.int .u64 (px:Int),.int .u64 (pt:Int),.slice pa pn pc] 55):=⟨_,rfl⟩;rw[←hgb,←hW] at hA;rw[←hgb,←hW];have HA3:=Lib.hid hA;have hs:=HCK.out _ hA.bel;clear hA hgb hW;refine hK.out _ _ hs (fun hHeld=>?_);clear hK K;try simp only[Act.put,zsA,zsS,zsZ]
   refine zrM 20 (h:=fun K hK=>?_);rw[if_pos (by rfl)];obtain⟨w2,W4,hrun,hA,-⟩:=HA3.out.app1 (by have:=HLL.out;simp;omega) (s:=gb) (p:=((⟨px,pt,pb⟩,.slice pa pn pc):EV)) (by simp) HFP.out;refine wp_append_runR rfl rfl rfl hrun ?_;have HA4:=Lib.hid hA;have hs:=HCK.out _ hA.bel;clear hA hrun;refine hK.out _ _ hs (fun hHeld=>?_);clear hK K;try simp only[Act.put,zsA,zsS,zsZ]
   refine zrM 21 (h:=fun K hK=>?_);rw[if_pos (by rfl)];have hs:=HCK.out _ HA4.out.bel;have q1:=hs.1;go_simp
   clear q1;refine hK.out _ _ hs (fun hHeld=>?_);clear hK K;try simp only[Act.put,zsA,zsS,zsZ]
   refine zkM 22 (v:=?_) (hQ:=by exact fun c0 _ w0 h0=>HPN.out c0 _ _ _ w0 h0) (h2:=?_) (h:=?_);rotate_left;focus (rintro W ⟨q1,q2,q3,q4,q5⟩;go_simp;(try with_reducible rfl))
   try simp only[Act.put,zsA,zsS,zsZ]
   refine zrL 23 (h:=fun K hK=>?_);rw[if_pos (by rfl)];obtain⟨a2,c2,hv2,_⟩:=slice_shape HA4.out.row;subst hv2;obtain⟨nn,hnn⟩: ∃x,x=([]++l++ [((⟨px,pt,pb⟩,.slice pa pn pc):EV)]).length:=⟨_,rfl⟩;rw[←hnn];have hgf:W4.frozen? ⟨q,o+k*2+1,none⟩=false:=frozen_row ((HA4.out.bel.block q (lt_of_block HQB.out)).trans HQB.out);have hgc:W4.cell? ⟨q,o+k*2+1,none⟩=some (.slice sa sl sc):=(HCK.out _ HA4.out.bel).2.1;have HNN:=Lib.hid hnn;clear hnn;go_simp
   clear hgf hgc;refine hK.out _ _ ?_;clear hK K;try simp only[Act.put,zsA,zsS,zsZ]
   refine HQ.out _ _ _ _ _ _ _ _ _ _ _ _ _ _ _ _ _ _ _ _ _ _ _ W4 _ (HBu.out.trans (HA4.out.bel.mono HBu.out.size)) ?_;have hr:=HA4.out.row;rw[List.nil_append] at hr;rw[HNN.out];exact ownsRow_less hr HBu.out.size
  refine AllReadyM.cons (o:=?_) ?_ rfl (fun K hK=>?_) AllReadyM.nil;rotate_left;focus (simp only[zgT,zgS,zgZ];rfl)
  rw[if_pos (by rfl)];go_simp
  have hA:A9 u (W1.alloc (.cells #[.int .u64 (px:Int),.int .u64 (pt:Int),.slice pa pn pc] 55)) _ _ ((W1.heap.size,((⟨px,pt,pb⟩,.slice pa pn pc):EV))::_):=HA1.out.lit ((⟨px,pt,pb⟩,.slice pa pn pc):EV);obtain⟨gb,hgb⟩: ∃x,x=W1.heap.size:=⟨_,rfl⟩;obtain⟨W2,hW⟩: ∃x,x=W1.alloc (.cells #[.int .u64 (px:Int),.int .u64 (pt:Int),.slice pa pn pc] 55):=⟨_,rfl⟩;rw[←hgb,←hW] at hA;rw[←hgb,←hW];have HA2:=Lib.hid hA;have hs:=HCK.out _ hA.bel;clear hA hgb hW;refine hK.out _ _ hs (fun hHeld=>?_);clear hK K;try simp only[Act.put,zsA,zsS,zsZ]
  refine zrM 14 (h:=fun K hK=>?_);rw[if_pos (by rfl)];obtain⟨v1,W3,hrun,hA,-⟩:=HA2.out.app (by simp) HM.out (HRL.out.below HA2.out.bel) HFL.out HLL.out HNA.out;refine wp_append_runR rfl rfl rfl hrun ?_;have HA3:=Lib.hid hA;have hs:=HCK.out _ hA.bel;clear hA hrun;refine hK.out _ _ hs (fun hHeld=>?_);clear hK K;try simp only[Act.put,zsA,zsS,zsZ]
  refine zrM 20 (h:=fun K hK=>?_);rw[if_pos (by rfl)];obtain⟨w2,W4,hrun,hA,-⟩:=HA3.out.app1 (by have:=HLL.out;simp;omega) (s:=gb) (p:=((⟨px,pt,pb⟩,.slice pa pn pc):EV)) (by simp) HFP.out;refine wp_append_runR rfl rfl rfl hrun ?_;have HA4:=Lib.hid hA;have hs:=HCK.out _ hA.bel;clear hA hrun;refine hK.out _ _ hs (fun hHeld=>?_);clear hK K;try simp only[Act.put,zsA,zsS,zsZ]
  refine zrM 21 (h:=fun K hK=>?_);rw[if_pos (by rfl)];have hs:=HCK.out _ HA4.out.bel;have q1:=hs.1;go_simp
  clear q1;refine hK.out _ _ hs (fun hHeld=>?_);clear hK K;try simp only[Act.put,zsA,zsS,zsZ]
  refine zkM 22 (v:=?_) (hQ:=by exact fun c0 _ w0 h0=>HPN.out c0 _ _ _ w0 h0) (h2:=?_) (h:=?_);rotate_left;focus (rintro W ⟨q1,q2,q3,q4,q5⟩;go_simp;(try with_reducible rfl))
  try simp only[Act.put,zsA,zsS,zsZ]
  refine zrL 23 (h:=fun K hK=>?_);rw[if_pos (by rfl)];obtain⟨a2,c2,hv2,_⟩:=slice_shape HA4.out.row;subst hv2;obtain⟨nn,hnn⟩: ∃x,x=([]++l++ [((⟨px,pt,pb⟩,.slice pa pn pc):EV)]).length:=⟨_,rfl⟩;rw[←hnn];have hgf:W4.frozen? ⟨q,o+k*2+1,none⟩=false:=frozen_row ((HA4.out.bel.block q (lt_of_block HQB.out)).trans HQB.out);have hgc:W4.cell? ⟨q,o+k*2+1,none⟩=some (.slice sa sl sc):=(HCK.out _ HA4.out.bel).2.1;have HNN:=Lib.hid hnn;clear hnn;go_simp
  clear hgf hgc;refine hK.out _ _ ?_;clear hK K;try simp only[Act.put,zsA,zsS,zsZ]
  refine HQ.out _ _ _ _ _ _ _ _ _ _ _ _ _ _ _ _ _ _ _ _ _ _ _ W4 _ (HBu.out.trans (HA4.out.bel.mono HBu.out.size)) ?_;have hr:=HA4.out.row;rw[List.nil_append] at hr;rw[HNN.out];exact ownsRow_less hr HBu.out.size
 refine AllReadyM.cons (o:=?_) ?_ rfl (fun K hK=>?_) AllReadyM.nil;rotate_left;focus (simp only[zgT,zgS,zgZ];rfl)
 rw[if_pos (by rfl)];go_simp
 have hA:A9 u (u.alloc (.cells #[.int .u64 (px:Int),.int .u64 (pt:Int),.slice pa pn pc] 55)) _ _ ((u.heap.size,((⟨px,pt,pb⟩,.slice pa pn pc):EV))::_):=HA0.out.lit ((⟨px,pt,pb⟩,.slice pa pn pc):EV);obtain⟨gb,hgb⟩: ∃x,x=u.heap.size:=⟨_,rfl⟩;obtain⟨W1,hW⟩: ∃x,x=u.alloc (.cells #[.int .u64 (px:Int),.int .u64 (pt:Int),.slice pa pn pc] 55):=⟨_,rfl⟩;rw[←hgb,←hW] at hA;rw[←hgb,←hW];have HA1:=Lib.hid hA;have hs:=HCK.out _ hA.bel;clear hA hgb hW;refine hK.out _ _ hs (fun hHeld=>?_);clear hK K;try simp only[Act.put,zsA,zsS,zsZ]
 refine zrM 5 (h:=fun K hK=>?_);rw[if_pos (by rfl)];go_simp
 have hA:=HA1.out.empty;obtain⟨ga,hga⟩: ∃x,x=W1.heap.size:=⟨_,rfl⟩;obtain⟨W2,hW⟩: ∃x,x=W1.alloc (.cells #[] 55):=⟨_,rfl⟩;rw[←hga,←hW] at hA;rw[←hga,←hW];have HA2:=Lib.hid hA;have hs:=HCK.out _ hA.bel;clear hA hga hW;refine hK.out _ _ hs (fun hHeld=>?_);clear hK K;try simp only[Act.put,zsA,zsS,zsZ]
 refine zrM 14 (h:=fun K hK=>?_);rw[if_pos (by rfl)];obtain⟨v1,W3,hrun,hA,-⟩:=HA2.out.app (by simp) HM.out (HRL.out.below HA2.out.bel) HFL.out HLL.out HNA.out;refine wp_append_runR rfl rfl rfl hrun ?_;have HA3:=Lib.hid hA;have hs:=HCK.out _ hA.bel;clear hA hrun;refine hK.out _ _ hs (fun hHeld=>?_);clear hK K;try simp only[Act.put,zsA,zsS,zsZ]
 refine zrM 20 (h:=fun K hK=>?_);rw[if_pos (by rfl)];obtain⟨w2,W4,hrun,hA,-⟩:=HA3.out.app1 (by have:=HLL.out;simp;omega) (s:=gb) (p:=((⟨px,pt,pb⟩,.slice pa pn pc):EV)) (by simp) HFP.out;refine wp_append_runR rfl rfl rfl hrun ?_;have HA4:=Lib.hid hA;have hs:=HCK.out _ hA.bel;clear hA hrun;refine hK.out _ _ hs (fun hHeld=>?_);clear hK K;try simp only[Act.put,zsA,zsS,zsZ]
 refine zrM 21 (h:=fun K hK=>?_);rw[if_pos (by rfl)];have hs:=HCK.out _ HA4.out.bel;have q1:=hs.1;go_simp
 clear q1;refine hK.out _ _ hs (fun hHeld=>?_);clear hK K;try simp only[Act.put,zsA,zsS,zsZ]
 refine zkM 22 (v:=?_) (hQ:=by exact fun c0 _ w0 h0=>HPN.out c0 _ _ _ w0 h0) (h2:=?_) (h:=?_);rotate_left;focus (rintro W ⟨q1,q2,q3,q4,q5⟩;go_simp;(try with_reducible rfl))
 try simp only[Act.put,zsA,zsS,zsZ]
 refine zrL 23 (h:=fun K hK=>?_);rw[if_pos (by rfl)];obtain⟨a2,c2,hv2,_⟩:=slice_shape HA4.out.row;subst hv2;obtain⟨nn,hnn⟩: ∃x,x=([]++l++ [((⟨px,pt,pb⟩,.slice pa pn pc):EV)]).length:=⟨_,rfl⟩;rw[←hnn];have hgf:W4.frozen? ⟨q,o+k*2+1,none⟩=false:=frozen_row ((HA4.out.bel.block q (lt_of_block HQB.out)).trans HQB.out);have hgc:W4.cell? ⟨q,o+k*2+1,none⟩=some (.slice sa sl sc):=(HCK.out _ HA4.out.bel).2.1;have HNN:=Lib.hid hnn;clear hnn;go_simp
 clear hgf hgc;refine hK.out _ _ ?_;clear hK K;try simp only[Act.put,zsA,zsS,zsZ]
 refine HQ.out _ _ _ _ _ _ _ _ _ _ _ _ _ _ _ _ _ _ _ _ _ _ _ W4 _ (HBu.out.trans (HA4.out.bel.mono HBu.out.size)) ?_;have hr:=HA4.out.row;rw[List.nil_append] at hr;rw[HNN.out];exact ownsRow_less hr HBu.out.size
end Rl
end Go.Proofs.YtalfbcbnljhldaaGreatDoor
