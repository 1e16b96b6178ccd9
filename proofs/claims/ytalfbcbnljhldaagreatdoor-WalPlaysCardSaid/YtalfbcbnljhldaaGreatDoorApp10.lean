/-  -/
import Derived.Test.YtalfbcbnljhldaaGreatDoorMau
import Derived.Test.YtalfbcbnljhldaaGreatDoorMae
set_option linter.unusedSimpArgs false
namespace Go.Proofs.YtalfbcbnljhldaaGreatDoor
open Go.Lib (hid)
open Go.RowKit Go.Maps Go.Sort Dsk Wl
def PutsTo (B g:Nat) (M:Files) (N:Nat) (c:Cur) (e:Ent) (er:Int) (M2:Files) (N2:Nat) (c2:Cur):Prop:= ∀(w:World) (o:Tags) (sb U:Nat) (a:Option Addr) (cp:Nat),Live w B o g M N→SBox w o sb c→ReadsF w o U a e.body→U≤sb→B≤sb→
 Calls Tryz.prog 38 #[.pointer (some ⟨sb,0,none⟩),.pointer (some ⟨g,0,none⟩),.agg #[.int .u64 (e.ix:Int),.int .u64 (e.term:Int),.slice a e.body.length cp]] w fun r w'=>r= .returned (.int .i64 er)∧ ∃o',Live w' B o' g M2 N2∧StepU sb o w o' w'∧SBox w' o' sb c2
inductive Puts (B g:Nat):Files→Nat→Cur→List Ent→Int→Files→Nat→Prop
 | nil (M:Files) (N:Nat) (c:Cur):Puts B g M N c [] 0 M N
 | step {M M1 M2:Files} {N N1 N2:Nat} {c c1:Cur} {e:Ent} {r:List Ent} {er:Int} :PutsTo B g M N c e 0 M1 N1 c1→Puts B g M1 N1 c1 r er M2 N2→Puts B g M N c (e::r) er M2 N2
 | stop {M M1:Files} {N N1:Nat} {c c1:Cur} {e:Ent} {r:List Ent} {er:Int} :PutsTo B g M N c e er M1 N1 c1→er≠0→Puts B g M N c (e::r) er M1 N1
theorem Puts.inv {B g:Nat} {M M2:Files} {N N2:Nat} {c:Cur} {l:List Ent} {er:Int} (h:Puts B g M N c l er M2 N2):
  (l= []∧er=0∧M2=M∧N2=N)∨(∃e r M1 N1 c1,l=e::r∧PutsTo B g M N c e 0 M1 N1 c1∧Puts B g M1 N1 c1 r er M2 N2)∨(∃e r c1,l=e::r∧PutsTo B g M N c e er M2 N2 c1∧er≠0):=by
 cases h with
 | nil=>exact .inl ⟨rfl,rfl,rfl,rfl⟩
 | step h1 h2=>exact .inr (.inl ⟨_,_,_,_,_,rfl,h1,h2⟩)
 | stop h1 h2=>exact .inr (.inr ⟨_,_,_,rfl,h1,h2⟩)
def curOf (segs:List Sg):Cur:=match segs.getLast? with
 | none=>⟨0,0⟩
 | some s=>⟨s.num,s.recs.length⟩
set_option maxRecDepth 100000 in
set_option maxHeartbeats 2000000 in
theorem append_refused {w:World} {B g N:Nat} {o:Tags} {M:Files} (h:Live w B o g M N) (hb:Nat) (hw:WalAt w o hb g) (es:List Ent) (a:Option Addr) (c:Nat) (U:Nat) (hs:EntsF w o U a es) (hn:es.length<1000000000) (hr: ∀ks,NamesOf M (fun f=>f.now.there) ks→refuse (lastIx (readGo (segsOf M (numsOf ks)) []).2) es≠0∧(readGo (segsOf M (numsOf ks)) []).2.length≤1000000000):
  Calls Tryz.prog 9 #[.pointer (some ⟨hb,0,none⟩),.slice a es.length c] w fun r w'=> ∃ks,NamesOf M (fun f=>f.now.there) ks∧r= .returned (.int .i64 (refuse (lastIx (readGo (segsOf M (numsOf ks)) []).2) es))∧Below w.heap.size w w':=by
 have hc:=hw.cell;have HRD:=hid h.read;have HS:=hid hs;have HR:=hid hr;clear h hs hw hr;go_enter Tryz.func9,Tryz.ntmps9
 go_wp2_with fail
 refine HRD.out.mono ?_;rintro r w2 ⟨ks,v1,v2,hks,hkN,rfl,htold⟩;obtain⟨hr0,hrl⟩:=HR.out ks hks;have HLA:=hid (last_any htold.ents hrl);have HRF:=hid (refusal_any (lastIx (readGo (segsOf M (numsOf ks)) []).2) es a c o U w2 (HS.out.below htold.below) hn);have HK:=hid hks;have HB:=hid htold.below;obtain⟨sa,sc,rfl,_⟩:=htold.segs.shape;obtain⟨ea,ec,rfl,_⟩:=htold.ents.shape;obtain⟨rv,hrv⟩: ∃rv,rv=refuse (lastIx (readGo (segsOf M (numsOf ks)) []).2) es:=⟨_,rfl⟩;rw[←hrv] at hr0 HRF;have HRV:=hid hrv;have hne:(rv == 0)=false:=by rw[beq_eq_false_iff_ne];exact hr0
 clear hks htold hrl hrv;generalize (readGo (segsOf M (numsOf ks)) []).2.length=n2 at*;generalize ((readGo (segsOf M (numsOf ks)) []).1.map Sg.raw).length=n1 at*;go_wp2_with fail
 refine HLA.out.mono ?_;rintro r w3 ⟨rfl,rfl⟩;go_wp2_with fail
 refine HRF.out.mono ?_;rintro r w4 ⟨rfl,hb4⟩;have HB4:=hid (HB.out.trans (hb4.mono HB.out.size));clear hb4;go_wp2_with fail
 go_ret
 exact⟨ks,HK.out,congrArg (fun z=>Ending.returned (.int .i64 z)) HRV.out,HB4.out⟩
theorem curOf_snoc (l:List Sg) (s:Sg):curOf (l++ [s])=⟨s.num,s.recs.length⟩:=by simp [curOf]
set_option maxRecDepth 100000 in
set_option maxHeartbeats 4000000 in
theorem append_puts {w:World} {B g N:Nat} {o:Tags} {M:Files} (h:Live w B o g M N) (hb:Nat) (hw:WalAt w o hb g) (es:List Ent) (a:Option Addr) (c:Nat) (U:Nat) (hs:EntsF w o U a es) (hn:es.length<1000000000) (er:Int) (M2:Files) (N2:Nat)
  (hr: ∀ks,NamesOf M (fun f=>f.now.there) ks→refuse (lastIx (readGo (segsOf M (numsOf ks)) []).2) es=0∧(readGo (segsOf M (numsOf ks)) []).2.length≤1000000000∧Puts B g M N (curOf (readGo (segsOf M (numsOf ks)) []).1) es er M2 N2):
  Calls Tryz.prog 9 #[.pointer (some ⟨hb,0,none⟩),.slice a es.length c] w fun r w'=>r= .returned (.int .i64 er)∧ ∃o',Live w' B o' g M2 N2∧Step o w o' w':=by
 have hc:=hw.cell;have hU:es= []∨U≤w.heap.size:=by
  cases es with
  | nil=>exact .inl rfl
  | cons e r=>
   obtain⟨_,_,_,_,_,_,_,h1,_⟩:=hs 0 (by simp);exact .inr h1
 have HRD:=hid h.read;have HS:=hid hs;have HR:=hid hr;have HL:=hid h;have HW:=hid hw;have HU:=hid hU;clear h hs hw hr hU;go_enter Tryz.func9,Tryz.ntmps9
 go_wp2_with fail
 refine HRD.out.mono ?_;rintro r w2 ⟨ks,v1,v2,hks,hkN,rfl,htold⟩;obtain⟨hr0,hrl,hputs⟩:=HR.out ks hks;have HLA:=hid (last_any htold.ents hrl);have HRF:=hid (refusal_any (lastIx (readGo (segsOf M (numsOf ks)) []).2) es a c o U w2 (HS.out.below htold.below) hn);rw[hr0] at HRF;have HB:=hid htold.below;obtain⟨segs,hsegs⟩: ∃segs,segs=(readGo (segsOf M (numsOf ks)) []).1:=⟨_,rfl⟩;have hsr:=htold.segs;rw[←hsegs] at hsr hputs;obtain⟨sa,sc,rfl,_⟩:=hsr.shape;obtain⟨ea,ec,rfl,_⟩:=htold.ents.shape;have HLEN:=hid (show segs.length≤5000 by
  have h1:=congrArg List.length (seg_nums M ks);rw[←hsegs,List.length_map] at h1;have h2:=nums_len ks;have h3:=HL.out.few;omega)
 have HSR:=hid hsr;have HPUTS:=hid hputs;clear hks htold hrl hr0 hsr hputs hsegs;generalize (readGo (segsOf M (numsOf ks)) []).2.length=n2 at*;generalize lastIx (readGo (segsOf M (numsOf ks)) []).2=li at*;rw[List.length_map] at HSR ⊢;go_wp2_with fail
 refine HLA.out.mono ?_;rintro r w3 ⟨rfl,rfl⟩;go_wp2_with fail
 refine HRF.out.mono ?_;rintro r w4 ⟨rfl,hb4⟩;have HB4:=hid (HB.out.trans (hb4.mono HB.out.size));have HSR4:=hid (HSR.out.below hb4);clear hb4 HRF HLA HSR HRD HB;by_cases hse:segs= []
 ·subst hse
  have HSB:=hid (show SBox (w4.alloc (.cells #[.int .i64 0,.slice none 0 0,.int .i64 0,.int .i64 0,.int .u64 0] 63)) o w4.heap.size (curOf []) from⟨⟨_,_,_,heap_alloc_new _ _⟩,HL.out.free HB4.out.size⟩);have HB5:=hid (HB4.out.trans (((Below.refl w4.heap.size w4).alloc (Nat.le_refl _) (.cells #[.int .i64 0,.slice none 0 0,.int .i64 0,.int .i64 0,.int .u64 0] 63)).mono HB4.out.size));go_wp2_with fail
  obtain⟨w5,hw5⟩: ∃w5,w5=w4.alloc (.cells #[.int .i64 0,.slice none 0 0,.int .i64 0,.int .i64 0,.int .u64 0] 63):=⟨_,rfl⟩;rw[←hw5] at HSB HB5 ⊢;obtain⟨sb,hsb⟩: ∃sb,sb=w4.heap.size:=⟨_,rfl⟩;rw[←hsb] at HSB ⊢;have HSBW:=hid (show w.heap.size≤sb by rw[hsb];exact HB4.out.size);have HL5:=hid (HL.out.below HB5.out);have HS5:=hid (HS.out.below HB5.out);have HW5:=hid (HW.out.below HB5.out);have HSTART:=hid (show Puts B g M N (curOf []) (es.drop 0) er M2 N2∧Live w5 B o g M N∧SBox w5 o sb (curOf [])∧StepU sb o w5 o w5 from⟨HPUTS.out,HL5.out,HSB.out,StepU.refl _ _ _⟩);clear hw5 hsb HSB;go_loopw [47] (fun v wr=> ∃(i:Nat) (Mi:Files) (Ni:Nat) (ci:Cur) (oi:Tags),i≤es.length∧v= .int .i64 (i:Int)∧Puts B g Mi Ni ci (es.drop i) er M2 N2∧Live wr B oi g Mi Ni∧SBox wr oi sb ci∧StepU sb o w5 oi wr) (fun v _=>es.length - (intOf v).toNat)
  case atStart=>exact⟨0,M,N,_,o,Nat.zero_le _,rfl,HSTART.out⟩
  case round=>
   clear HSTART;obtain⟨i,Mi,Ni,ci,oi,hi,rfl,hpu,hli,hsx,hst⟩:=hrel;by_cases hil:i<es.length
   ·have hUw:U≤w.heap.size:=by
     rcases HU.out with h1 | h1
     ·rw[h1] at hil;simp at hil
     ·exact h1
    have hUs:U≤sb:=Nat.le_trans hUw HSBW.out;obtain⟨b,q,A,C,rfl,_,_,_,c0,c1,c2,hrf,_⟩:=(HS5.out.stepU hst hUs) i hil;obtain⟨x,hx⟩: ∃x,x=es[i]:=⟨_,rfl⟩;rw[←hx] at c0 c1 c2 hrf;have HDR:=hid (show es.drop i=x::es.drop (i+1) by rw[hx];exact List.drop_eq_getElem_cons hil);have hhs:hb<w5.heap.size:=lt_of_block HW5.out.1;have hhne:hb≠sb:=by
     have h1:=lt_of_block HW.out.1;have h2:=HSBW.out;omega
    have hwi:WalAt wr oi hb g:=⟨(hst.block hb hhs hhne HW5.out.2).trans HW5.out.1,hst.free hb hhs HW5.out.2⟩;have hal:Below wr.heap.size wr (wr.alloc (.cells #[.int .u64 (x.ix:Int),.int .u64 (x.term:Int),.slice A x.body.length C] 55)):=(Below.refl _ _).alloc (Nat.le_refl _) _;have HHELD:=hid (show(wr.alloc (.cells #[.int .u64 (x.ix:Int),.int .u64 (x.term:Int),.slice A x.body.length C] 55)).heap[hb]?=some (.cells #[.pointer (some ⟨g,0,none⟩)] 66 (0,0))∧(wr.alloc (.cells #[.int .u64 (x.ix:Int),.int .u64 (x.term:Int),.slice A x.body.length C] 55)).heap[wr.heap.size]?=some (.cells #[.int .u64 (x.ix:Int),.int .u64 (x.term:Int),.slice A x.body.length C] 55 (0,0)) from⟨(hal.block hb (lt_of_block hwi.1)).trans hwi.1,heap_alloc_new _ _⟩);have hBsb:B≤sb:=Nat.le_trans HL.out.hB HSBW.out;have HWI:=hid hwi;have HAL:=hid hal;have HLI:=hid hli;have HSX:=hid hsx;have HST:=hid hst;have HRF2:=hid hrf;have HPU:=hid hpu;have hsbr:sb<wr.heap.size:=by
     obtain⟨⟨_,_,_,h1⟩,_⟩:=hsx;exact lt_of_block h1
    have HSBR:=hid hsbr;have HUS:=hid hUs;have HBSB:=hid hBsb;clear hUw hUs hrf hx hhs hhne hwi hal hli hsx hst hpu hsbr hBsb;go_wp2_with fail
    rcases HPU.out.inv with⟨h1,_⟩ | ⟨x',r',M1,N1,c1',he1,h1,h2⟩ | ⟨x',r',c1',he1,h1,h2⟩
    ·rw[HDR.out] at h1;cases h1
    ·rw[HDR.out] at he1
     simp only[List.cons.injEq] at he1;obtain⟨rfl,rfl⟩:=he1;have HPT:=hid (h1 _ oi sb U A C ((HLI.out.below HAL.out).below (Below.refl _ _).drew) ((HSX.out.below HAL.out).below (Below.refl _ _).drew) ⟨(HRF2.out.1.below HAL.out).below (Below.refl _ _).drew,HRF2.out.2⟩ HUS.out HBSB.out);have HP1:=hid h2;clear h1 h2;refine wp_region_held_drew (S:=fun W=>W.heap[hb]?=some (.cells #[.pointer (some ⟨g,0,none⟩)] 66 (0,0))∧W.heap[wr.heap.size]?=some (.cells #[.int .u64 (x.ix:Int),.int .u64 (x.term:Int),.slice A x.body.length C] 55 (0,0))) (by kernel_rfl) HHELD.out (fun hHeld=>?_);refine zkH 0 (v:=?_) (h2:=?_) (h:=?_);rotate_left;focus (intro W hS;(try dsimp only at hS);go_simp;(try with_reducible rfl))
     try simp only[Act.put,zsA,zsS,zsZ]
     refine zkH 1 (v:=?_) (h2:=?_) (h:=?_);rotate_left;focus (intro W hS;(try dsimp only at hS);go_simp;(try with_reducible rfl))
     try simp only[Act.put,zsA,zsS,zsZ]
     refine zkH 2 (v:=?_) (h2:=?_) (h:=?_);rotate_left;focus (intro W hS;(try dsimp only at hS);go_simp;(try with_reducible rfl))
     try simp only[Act.put,zsA,zsS,zsZ]
     refine zkH 3 (v:=?_) (h2:=?_) (h:=?_);rotate_left;focus (intro W hS;(try dsimp only at hS);have q:W.cell? ⟨hb,0,none⟩=some (.pointer (some ⟨g,0,none⟩)):=by {rw[cell_of_row _ _ 0 _ _ _ hS.1];rfl};go_simp;(try with_reducible rfl))
     try simp only[Act.put,zsA,zsS,zsZ]
     refine zkH 4 (v:=?_) (h2:=?_) (h:=?_);rotate_left;focus (intro W hS;(try dsimp only at hS);have q0:W.cell? ⟨wr.heap.size,0,none⟩=some (.int .u64 (x.ix:Int)):=by {rw[cell_of_row _ _ 0 _ _ _ hS.2];rfl};have q1:W.cell? ⟨wr.heap.size,1,none⟩=some (.int .u64 (x.term:Int)):=by {rw[cell_of_row _ _ 1 _ _ _ hS.2];rfl};have q2:W.cell? ⟨wr.heap.size,2,none⟩=some (.slice A x.body.length C):=by {rw[cell_of_row _ _ 2 _ _ _ hS.2];rfl};go_simp;(try with_reducible rfl))
     try simp only[Act.put,zsA,zsS,zsZ]
     refine zrH 5 (h:=fun K hK=>?_);rw[if_pos (by rfl)];go_simp
     refine HPT.out.mono ?_;rintro r w7 ⟨rfl,o7,hl7,hs7,hx7⟩;have HHELD7:=hid (show w7.heap[hb]?=_∧w7.heap[wr.heap.size]?=_ from⟨(hs7.block hb (lt_of_block HHELD.out.1) (by
      have h1:=lt_of_block HW.out.1;have h2:=HSBW.out;omega) HWI.out.2).trans HHELD.out.1,(hs7.block wr.heap.size (by simp) (Nat.ne_of_gt HSBR.out) (HLI.out.free (Nat.le_refl _))).trans HHELD.out.2⟩)
     have HL7:=hid hl7;have HS7:=hid ((HST.out.trans (((Step.of_below oi HAL.out).trans (Step.of_below oi (Below.refl _ _).drew)).toU sb)).trans hs7);have HX7:=hid hx7;clear hl7 hs7 hx7 HPT;go_wp2_with fail
     refine hK.out _ _ HHELD7.out (fun hHeld=>?_);clear hK K;try simp only[Act.put,zsA,zsS,zsZ]
     refine zkH 6 (v:=?_) (h2:=?_) (h:=?_);rotate_left;focus (intro W hS;(try dsimp only at hS);go_simp;(try with_reducible rfl))
     try simp only[Act.put,zsA,zsS,zsZ]
     refine wpAnyH_done (by kernel_rfl) ?_ _;go_wp2_with fail
     go_roundw
     case rel=>exact⟨i+1,_,_,_,o7,hil,by go_num,HP1.out,HL7.out,HX7.out,HS7.out⟩
     case measure=>simp [intOf];omega
    ·rw[HDR.out] at he1
     simp only[List.cons.injEq] at he1;obtain⟨rfl,rfl⟩:=he1;have HPT:=hid (h1 _ oi sb U A C ((HLI.out.below HAL.out).below (Below.refl _ _).drew) ((HSX.out.below HAL.out).below (Below.refl _ _).drew) ⟨(HRF2.out.1.below HAL.out).below (Below.refl _ _).drew,HRF2.out.2⟩ HUS.out HBSB.out);have HNE:=hid h2;clear h1 h2;refine wp_region_held_drew (S:=fun W=>W.heap[hb]?=some (.cells #[.pointer (some ⟨g,0,none⟩)] 66 (0,0))∧W.heap[wr.heap.size]?=some (.cells #[.int .u64 (x.ix:Int),.int .u64 (x.term:Int),.slice A x.body.length C] 55 (0,0))) (by kernel_rfl) HHELD.out (fun hHeld=>?_);refine zkH 0 (v:=?_) (h2:=?_) (h:=?_);rotate_left;focus (intro W hS;(try dsimp only at hS);go_simp;(try with_reducible rfl))
     try simp only[Act.put,zsA,zsS,zsZ]
     refine zkH 1 (v:=?_) (h2:=?_) (h:=?_);rotate_left;focus (intro W hS;(try dsimp only at hS);go_simp;(try with_reducible rfl))
     try simp only[Act.put,zsA,zsS,zsZ]
     refine zkH 2 (v:=?_) (h2:=?_) (h:=?_);rotate_left;focus (intro W hS;(try dsimp only at hS);go_simp;(try with_reducible rfl))
     try simp only[Act.put,zsA,zsS,zsZ]
     refine zkH 3 (v:=?_) (h2:=?_) (h:=?_);rotate_left;focus (intro W hS;(try dsimp only at hS);have q:W.cell? ⟨hb,0,none⟩=some (.pointer (some ⟨g,0,none⟩)):=by {rw[cell_of_row _ _ 0 _ _ _ hS.1];rfl};go_simp;(try with_reducible rfl))
     try simp only[Act.put,zsA,zsS,zsZ]
     refine zkH 4 (v:=?_) (h2:=?_) (h:=?_);rotate_left;focus (intro W hS;(try dsimp only at hS);have q0:W.cell? ⟨wr.heap.size,0,none⟩=some (.int .u64 (x.ix:Int)):=by {rw[cell_of_row _ _ 0 _ _ _ hS.2];rfl};have q1:W.cell? ⟨wr.heap.size,1,none⟩=some (.int .u64 (x.term:Int)):=by {rw[cell_of_row _ _ 1 _ _ _ hS.2];rfl};have q2:W.cell? ⟨wr.heap.size,2,none⟩=some (.slice A x.body.length C):=by {rw[cell_of_row _ _ 2 _ _ _ hS.2];rfl};go_simp;(try with_reducible rfl))
     try simp only[Act.put,zsA,zsS,zsZ]
     refine zrH 5 (h:=fun K hK=>?_);rw[if_pos (by rfl)];go_simp
     refine HPT.out.mono ?_;rintro r w7 ⟨rfl,o7,hl7,hs7,hx7⟩;have HHELD7:=hid (show w7.heap[hb]?=_∧w7.heap[wr.heap.size]?=_ from⟨(hs7.block hb (lt_of_block HHELD.out.1) (by
      have h1:=lt_of_block HW.out.1;have h2:=HSBW.out;omega) HWI.out.2).trans HHELD.out.1,(hs7.block wr.heap.size (by simp) (Nat.ne_of_gt HSBR.out) (HLI.out.free (Nat.le_refl _))).trans HHELD.out.2⟩)
     have HL7:=hid hl7;have HS7:=hid ((HST.out.trans (((Step.of_below oi HAL.out).trans (Step.of_below oi (Below.refl _ _).drew)).toU sb)).trans hs7);have HX7:=hid hx7;clear hl7 hs7 hx7 HPT;go_wp2_with fail
     refine hK.out _ _ HHELD7.out (fun hHeld=>?_);clear hK K;try simp only[Act.put,zsA,zsS,zsZ]
     refine zkH 6 (v:=?_) (h2:=?_) (h:=?_);rotate_left;focus (intro W hS;(try dsimp only at hS);go_simp;(try with_reducible rfl))
     try simp only[Act.put,zsA,zsS,zsZ]
     refine wpAnyH_done (by kernel_rfl) ?_ _;have hne:(er == 0)=false:=by rw[beq_eq_false_iff_ne];exact HNE.out
     go_wp2_with fail
     go_ret
     exact⟨rfl,o7,HL7.out,StepU.behind (Step.of_below o HB5.out) HS7.out HSBW.out⟩
   ·obtain rfl:i=es.length:=by omega
    rw[List.drop_length] at hpu;have hend:er=0∧M2=Mi∧N2=Ni:=by
     rcases hpu.inv with⟨_,h1,h2,h3⟩ | ⟨_,_,_,_,_,h1,_⟩ | ⟨_,_,_,h1,_⟩
     ·exact⟨h1,h2,h3⟩
     ·cases h1
     ·cases h1
    obtain⟨rfl,rfl,rfl⟩:=hend;have HLI:=hid hli;have HST:=hid (StepU.behind (Step.of_below o HB5.out) hst HSBW.out);clear hpu hli hsx hst;go_wp2_with fail
    go_ret
    exact⟨rfl,oi,HLI.out,HST.out⟩
 ·obtain⟨rs,s,rfl⟩: ∃rs s,segs=rs++ [s]:=⟨segs.dropLast,segs.getLast hse,(List.dropLast_concat_getLast hse).symm⟩
  have hlen:(rs++ [s]).length=rs.length+1:=by simp
  obtain⟨sg,cap,ba,bc,hsv,_,_,s0,s1,s2,s3,s4,_,_,_⟩:=HSR4.out.at_ (i:=rs.length) (by simp);have hgs:((rs++ [s]).map Sg.raw)[rs.length]'(by simp)=s.raw:=by simp
  rw[hgs] at s0 s1 s2 s3 s4;rw[List.length_map] at hsv;simp only[Value.slice.injEq,true_and] at hsv;obtain⟨rfl,rfl⟩:=hsv;simp only[Sg.raw] at s0 s1 s2 s3 s4;rw[hlen];have hls:rs.length+1≤1000000000:=by
   have h1:=HLEN.out;rw[hlen] at h1;omega
  obtain⟨gd,hgd⟩: ∃gd:Int,gd=(s.good:Int):=⟨_,rfl⟩;obtain⟨tp,htp⟩: ∃tp:Int,tp=(top s.recs:Int):=⟨_,rfl⟩;rw[←hgd] at s2;rw[←htp] at s4;clear hgd htp hgs hse;have HSB:=hid (show SBox (w4.alloc (.cells #[.int .i64 (s.num:Int),.slice ba s.bs.length bc,.int .i64 gd,.int .i64 (s.recs.length:Int),.int .u64 tp] 63)) o w4.heap.size (curOf (rs++ [s])) from by
   rw[curOf_snoc];exact⟨⟨_,_,_,heap_alloc_new _ _⟩,HL.out.free HB4.out.size⟩)
  have HB5:=hid (HB4.out.trans (((Below.refl w4.heap.size w4).alloc (Nat.le_refl _) (.cells #[.int .i64 (s.num:Int),.slice ba s.bs.length bc,.int .i64 gd,.int .i64 (s.recs.length:Int),.int .u64 tp] 63)).mono HB4.out.size));go_wp2_with fail
  clear s0 s1 s2 s3 s4;obtain⟨w5,hw5⟩: ∃w5,w5=w4.alloc (.cells #[.int .i64 (s.num:Int),.slice ba s.bs.length bc,.int .i64 gd,.int .i64 (s.recs.length:Int),.int .u64 tp] 63):=⟨_,rfl⟩;rw[←hw5] at HSB HB5 ⊢;obtain⟨sb,hsb⟩: ∃sb,sb=w4.heap.size:=⟨_,rfl⟩;rw[←hsb] at HSB ⊢;have HSBW:=hid (show w.heap.size≤sb by rw[hsb];exact HB4.out.size);have HL5:=hid (HL.out.below HB5.out);have HS5:=hid (HS.out.below HB5.out);have HW5:=hid (HW.out.below HB5.out);have HSTART:=hid (show Puts B g M N (curOf (rs++ [s])) (es.drop 0) er M2 N2∧Live w5 B o g M N∧SBox w5 o sb (curOf (rs++ [s]))∧StepU sb o w5 o w5 from⟨HPUTS.out,HL5.out,HSB.out,StepU.refl _ _ _⟩);clear hw5 hsb HSB;go_loopw [47] (fun v wr=> ∃(i:Nat) (Mi:Files) (Ni:Nat) (ci:Cur) (oi:Tags),i≤es.length∧v= .int .i64 (i:Int)∧Puts B g Mi Ni ci (es.drop i) er M2 N2∧Live wr B oi g Mi Ni∧SBox wr oi sb ci∧StepU sb o w5 oi wr) (fun v _=>es.length - (intOf v).toNat)
  case atStart=>exact⟨0,M,N,_,o,Nat.zero_le _,rfl,HSTART.out⟩
  case round=>
   clear HSTART;obtain⟨i,Mi,Ni,ci,oi,hi,rfl,hpu,hli,hsx,hst⟩:=hrel;by_cases hil:i<es.length
   ·have hUw:U≤w.heap.size:=by
     rcases HU.out with h1 | h1
     ·rw[h1] at hil;simp at hil
     ·exact h1
    have hUs:U≤sb:=Nat.le_trans hUw HSBW.out;obtain⟨b,q,A,C,rfl,_,_,_,c0,c1,c2,hrf,_⟩:=(HS5.out.stepU hst hUs) i hil;obtain⟨x,hx⟩: ∃x,x=es[i]:=⟨_,rfl⟩;rw[←hx] at c0 c1 c2 hrf;have HDR:=hid (show es.drop i=x::es.drop (i+1) by rw[hx];exact List.drop_eq_getElem_cons hil);have hhs:hb<w5.heap.size:=lt_of_block HW5.out.1;have hhne:hb≠sb:=by
     have h1:=lt_of_block HW.out.1;have h2:=HSBW.out;omega
    have hwi:WalAt wr oi hb g:=⟨(hst.block hb hhs hhne HW5.out.2).trans HW5.out.1,hst.free hb hhs HW5.out.2⟩;have hal:Below wr.heap.size wr (wr.alloc (.cells #[.int .u64 (x.ix:Int),.int .u64 (x.term:Int),.slice A x.body.length C] 55)):=(Below.refl _ _).alloc (Nat.le_refl _) _;have HHELD:=hid (show(wr.alloc (.cells #[.int .u64 (x.ix:Int),.int .u64 (x.term:Int),.slice A x.body.length C] 55)).heap[hb]?=some (.cells #[.pointer (some ⟨g,0,none⟩)] 66 (0,0))∧(wr.alloc (.cells #[.int .u64 (x.ix:Int),.int .u64 (x.term:Int),.slice A x.body.length C] 55)).heap[wr.heap.size]?=some (.cells #[.int .u64 (x.ix:Int),.int .u64 (x.term:Int),.slice A x.body.length C] 55 (0,0)) from⟨(hal.block hb (lt_of_block hwi.1)).trans hwi.1,heap_alloc_new _ _⟩);have hBsb:B≤sb:=Nat.le_trans HL.out.hB HSBW.out;have HWI:=hid hwi;have HAL:=hid hal;have HLI:=hid hli;have HSX:=hid hsx;have HST:=hid hst;have HRF2:=hid hrf;have HPU:=hid hpu;have hsbr:sb<wr.heap.size:=by
     obtain⟨⟨_,_,_,h1⟩,_⟩:=hsx;exact lt_of_block h1
    have HSBR:=hid hsbr;have HUS:=hid hUs;have HBSB:=hid hBsb;clear hUw hUs hrf hx hhs hhne hwi hal hli hsx hst hpu hsbr hBsb;go_wp2_with fail
    rcases HPU.out.inv with⟨h1,_⟩ | ⟨x',r',M1,N1,c1',he1,h1,h2⟩ | ⟨x',r',c1',he1,h1,h2⟩
    ·rw[HDR.out] at h1;cases h1
    ·rw[HDR.out] at he1
     simp only[List.cons.injEq] at he1;obtain⟨rfl,rfl⟩:=he1;have HPT:=hid (h1 _ oi sb U A C ((HLI.out.below HAL.out).below (Below.refl _ _).drew) ((HSX.out.below HAL.out).below (Below.refl _ _).drew) ⟨(HRF2.out.1.below HAL.out).below (Below.refl _ _).drew,HRF2.out.2⟩ HUS.out HBSB.out);have HP1:=hid h2;clear h1 h2;refine wp_region_held_drew (S:=fun W=>W.heap[hb]?=some (.cells #[.pointer (some ⟨g,0,none⟩)] 66 (0,0))∧W.heap[wr.heap.size]?=some (.cells #[.int .u64 (x.ix:Int),.int .u64 (x.term:Int),.slice A x.body.length C] 55 (0,0))) (by kernel_rfl) HHELD.out (fun hHeld=>?_);refine zkH 0 (v:=?_) (h2:=?_) (h:=?_);rotate_left;focus (intro W hS;(try dsimp only at hS);go_simp;(try with_reducible rfl))
     try simp only[Act.put,zsA,zsS,zsZ]
     refine zkH 1 (v:=?_) (h2:=?_) (h:=?_);rotate_left;focus (intro W hS;(try dsimp only at hS);go_simp;(try with_reducible rfl))
     try simp only[Act.put,zsA,zsS,zsZ]
     refine zkH 2 (v:=?_) (h2:=?_) (h:=?_);rotate_left;focus (intro W hS;(try dsimp only at hS);go_simp;(try with_reducible rfl))
     try simp only[Act.put,zsA,zsS,zsZ]
     refine zkH 3 (v:=?_) (h2:=?_) (h:=?_);rotate_left;focus (intro W hS;(try dsimp only at hS);have q:W.cell? ⟨hb,0,none⟩=some (.pointer (some ⟨g,0,none⟩)):=by {rw[cell_of_row _ _ 0 _ _ _ hS.1];rfl};go_simp;(try with_reducible rfl))
     try simp only[Act.put,zsA,zsS,zsZ]
     refine zkH 4 (v:=?_) (h2:=?_) (h:=?_);rotate_left;focus (intro W hS;(try dsimp only at hS);have q0:W.cell? ⟨wr.heap.size,0,none⟩=some (.int .u64 (x.ix:Int)):=by {rw[cell_of_row _ _ 0 _ _ _ hS.2];rfl};have q1:W.cell? ⟨wr.heap.size,1,none⟩=some (.int .u64 (x.term:Int)):=by {rw[cell_of_row _ _ 1 _ _ _ hS.2];rfl};have q2:W.cell? ⟨wr.heap.size,2,none⟩=some (.slice A x.body.length C):=by {rw[cell_of_row _ _ 2 _ _ _ hS.2];rfl};go_simp;(try with_reducible rfl))
     try simp only[Act.put,zsA,zsS,zsZ]
     refine zrH 5 (h:=fun K hK=>?_);rw[if_pos (by rfl)];go_simp
     refine HPT.out.mono ?_;rintro r w7 ⟨rfl,o7,hl7,hs7,hx7⟩;have HHELD7:=hid (show w7.heap[hb]?=_∧w7.heap[wr.heap.size]?=_ from⟨(hs7.block hb (lt_of_block HHELD.out.1) (by
      have h1:=lt_of_block HW.out.1;have h2:=HSBW.out;omega) HWI.out.2).trans HHELD.out.1,(hs7.block wr.heap.size (by simp) (Nat.ne_of_gt HSBR.out) (HLI.out.free (Nat.le_refl _))).trans HHELD.out.2⟩)
     have HL7:=hid hl7;have HS7:=hid ((HST.out.trans (((Step.of_below oi HAL.out).trans (Step.of_below oi (Below.refl _ _).drew)).toU sb)).trans hs7);have HX7:=hid hx7;clear hl7 hs7 hx7 HPT;go_wp2_with fail
     refine hK.out _ _ HHELD7.out (fun hHeld=>?_);clear hK K;try simp only[Act.put,zsA,zsS,zsZ]
     refine zkH 6 (v:=?_) (h2:=?_) (h:=?_);rotate_left;focus (intro W hS;(try dsimp only at hS);go_simp;(try with_reducible rfl))
     try simp only[Act.put,zsA,zsS,zsZ]
     refine wpAnyH_done (by kernel_rfl) ?_ _;go_wp2_with fail
     go_roundw
     case rel=>exact⟨i+1,_,_,_,o7,hil,by go_num,HP1.out,HL7.out,HX7.out,HS7.out⟩
     case measure=>simp [intOf];omega
    ·rw[HDR.out] at he1
     simp only[List.cons.injEq] at he1;obtain⟨rfl,rfl⟩:=he1;have HPT:=hid (h1 _ oi sb U A C ((HLI.out.below HAL.out).below (Below.refl _ _).drew) ((HSX.out.below HAL.out).below (Below.refl _ _).drew) ⟨(HRF2.out.1.below HAL.out).below (Below.refl _ _).drew,HRF2.out.2⟩ HUS.out HBSB.out);have HNE:=hid h2;clear h1 h2;refine wp_region_held_drew (S:=fun W=>W.heap[hb]?=some (.cells #[.pointer (some ⟨g,0,none⟩)] 66 (0,0))∧W.heap[wr.heap.size]?=some (.cells #[.int .u64 (x.ix:Int),.int .u64 (x.term:Int),.slice A x.body.length C] 55 (0,0))) (by kernel_rfl) HHELD.out (fun hHeld=>?_);refine zkH 0 (v:=?_) (h2:=?_) (h:=?_);rotate_left;focus (intro W hS;(try dsimp only at hS);go_simp;(try with_reducible rfl))
     try simp only[Act.put,zsA,zsS,zsZ]
     refine zkH 1 (v:=?_) (h2:=?_) (h:=?_);rotate_left;focus (intro W hS;(try dsimp only at hS);go_simp;(try with_reducible rfl))
     try simp only[Act.put,zsA,zsS,zsZ]
     refine zkH 2 (v:=?_) (h2:=?_) (h:=?_);rotate_left;focus (intro W hS;(try dsimp only at hS);go_simp;(try with_reducible rfl))
     try simp only[Act.put,zsA,zsS,zsZ]
     refine zkH 3 (v:=?_) (h2:=?_) (h:=?_);rotate_left;focus (intro W hS;(try dsimp only at hS);have q:W.cell? ⟨hb,0,none⟩=some (.pointer (some ⟨g,0,none⟩)):=by {rw[cell_of_row _ _ 0 _ _ _ hS.1];rfl};go_simp;(try with_reducible rfl))
     try simp only[Act.put,zsA,zsS,zsZ]
     refine zkH 4 (v:=?_) (h2:=?_) (h:=?_);rotate_left;focus (intro W hS;(try dsimp only at hS);have q0:W.cell? ⟨wr.heap.size,0,none⟩=some (.int .u64 (x.ix:Int)):=by {rw[cell_of_row _ _ 0 _ _ _ hS.2];rfl};have q1:W.cell? ⟨wr.heap.size,1,none⟩=some (.int .u64 (x.term:Int)):=by {rw[cell_of_row _ _ 1 _ _ _ hS.2];rfl};have q2:W.cell? ⟨wr.heap.size,2,none⟩=some (.slice A x.body.length C):=by {rw[cell_of_row _ _ 2 _ _ _ hS.2];rfl};go_simp;(try with_reducible rfl))
     try simp only[Act.put,zsA,zsS,zsZ]
     refine zrH 5 (h:=fun K hK=>?_);rw[if_pos (by rfl)];go_simp
     refine HPT.out.mono ?_;rintro r w7 ⟨rfl,o7,hl7,hs7,hx7⟩;have HHELD7:=hid (show w7.heap[hb]?=_∧w7.heap[wr.heap.size]?=_ from⟨(hs7.block hb (lt_of_block HHELD.out.1) (by
      have h1:=lt_of_block HW.out.1;have h2:=HSBW.out;omega) HWI.out.2).trans HHELD.out.1,(hs7.block wr.heap.size (by simp) (Nat.ne_of_gt HSBR.out) (HLI.out.free (Nat.le_refl _))).trans HHELD.out.2⟩)
     have HL7:=hid hl7;have HS7:=hid ((HST.out.trans (((Step.of_below oi HAL.out).trans (Step.of_below oi (Below.refl _ _).drew)).toU sb)).trans hs7);have HX7:=hid hx7;clear hl7 hs7 hx7 HPT;go_wp2_with fail
     refine hK.out _ _ HHELD7.out (fun hHeld=>?_);clear hK K;try simp only[Act.put,zsA,zsS,zsZ]
     refine zkH 6 (v:=?_) (h2:=?_) (h:=?_);rotate_left;focus (intro W hS;(try dsimp only at hS);go_simp;(try with_reducible rfl))
     try simp only[Act.put,zsA,zsS,zsZ]
     refine wpAnyH_done (by kernel_rfl) ?_ _;have hne:(er == 0)=false:=by rw[beq_eq_false_iff_ne];exact HNE.out
     go_wp2_with fail
     go_ret
     exact⟨rfl,o7,HL7.out,StepU.behind (Step.of_below o HB5.out) HS7.out HSBW.out⟩
   ·obtain rfl:i=es.length:=by omega
    rw[List.drop_length] at hpu;have hend:er=0∧M2=Mi∧N2=Ni:=by
     rcases hpu.inv with⟨_,h1,h2,h3⟩ | ⟨_,_,_,_,_,h1,_⟩ | ⟨_,_,_,h1,_⟩
     ·exact⟨h1,h2,h3⟩
     ·cases h1
     ·cases h1
    obtain⟨rfl,rfl,rfl⟩:=hend;have HLI:=hid hli;have HST:=hid (StepU.behind (Step.of_below o HB5.out) hst HSBW.out);clear hpu hli hsx hst;go_wp2_with fail
    go_ret
    exact⟨rfl,oi,HLI.out,HST.out⟩
end Go.Proofs.YtalfbcbnljhldaaGreatDoor
