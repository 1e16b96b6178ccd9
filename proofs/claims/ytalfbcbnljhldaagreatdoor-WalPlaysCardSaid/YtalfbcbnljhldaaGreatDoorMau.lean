/-  -/
import Derived.Test.YtalfbcbnljhldaaGreatDoorMaq
import Derived.Test.YtalfbcbnljhldaaGreatDoorMap
import Derived.Test.YtalfbcbnljhldaaGreatDoorMao
import Derived.Test.YtalfbcbnljhldaaGreatDoorMas
import Derived.Test.YtalfbcbnljhldaaGreatDoorMae
import Derived.Test.YtalfbcbnljhldaaGreatDoorMat
import Derived.Test.YtalfbcbnljhldaaGreatDoorMam
import Derived.Laws.Tables
import Derived.Laws.CopyOwn
set_option linter.unusedSimpArgs false
namespace Go.Proofs.YtalfbcbnljhldaaGreatDoor
open Go.Lib (hid)
open Go.RowKit Go.Maps Dsk Wl
set_option maxRecDepth 100000 in
set_option maxHeartbeats 4000000 in
theorem record_any (e:Ent) (a:Option Addr) (c:Nat) (w:World) (he:e.ok) (hp:Reads w a e.body):
  Calls Tryz.prog 69 #[.agg #[.int .u64 (e.ix:Int),.int .u64 (e.term:Int),.slice a e.body.length c]] w fun r w'=> ∃g c',r= .returned (.tuple #[.slice (some ⟨g,0,none⟩) (recOf e).length c',.int .i64 0])∧Row w' w.heap.size (recOf e) (.slice (some ⟨g,0,none⟩) (recOf e).length c')∧Below w.heap.size w w':=by
 have hd:((e.ix:Int) == 0)=false:=by rw[beq_eq_false_iff_ne];have:=he.1;omega
 have hd2:decide ((2000:Int)<(e.body.length:Int))=false:=by have:=he.2.2.2.1;simp;omega
 have hw1:Below w.heap.size w (w.alloc (.cells #[.int .u64 (e.ix:Int),.int .u64 (e.term:Int),.slice a e.body.length c] 55)):=(Below.refl _ _).alloc (Nat.le_refl _) _;have hb1:(w.alloc (.cells #[.int .u64 (e.ix:Int),.int .u64 (e.term:Int),.slice a e.body.length c] 55)).heap[w.heap.size]?=some (.cells #[.int .u64 (e.ix:Int),.int .u64 (e.term:Int),.slice a e.body.length c] 55 (0,0)):=heap_alloc_new _ _;have hcv:=(hp.below hw1).text e.body.length c rfl;have hsz:=strOfNums_size e.body;have hbl:=bl_str he.2.2.2.2;have hbn:=he.2.2.2.1;have hlen:=rec_len he;generalize hS:strOfNums e.body=S at*;have HN:=hid he.2.1;have HT:=hid he.2.2.1;have HBN:=hid hbn;have HB1:=hid hb1;have HW1:=hid hw1;have HLEN:=hid hlen;have HPT:=hid (fun W=>putText_any S (by omega) W);rw[hbl,hsz] at HPT;obtain⟨tt,htt⟩: ∃tt,tt=Num.put e.body.length++e.body:=⟨_,rfl⟩;rw[←htt] at HPT;have hne:tt≠ []:=by rw[htt];exact fun h=>Num.enc_ne 9 e.body.length (List.append_eq_nil_iff.1 h).1
 have HTT:=hid htt;have HNE:=hid hne;clear htt hne hS hbn hlen he hsz hbl hp hb1 hw1;go_enter Tryz.func69,Tryz.ntmps69
 go_wp2_with fail
 refine(HPT.out _).mono ?_;rintro r w2 ⟨v2,rfl,hr2,hb2⟩;obtain⟨g2,cap2,rfl,hg20,hg21,_,_,_⟩:=hr2.is HNE.out;have hz12:=hb2.size;have HEB:=hid ((hb2.block w.heap.size (by simp)).trans HB1.out);have HC0:=hid (show∀W,Below w2.heap.size w2 W→W.cell? ⟨w.heap.size,0,none⟩=some (.int .u64 (e.ix:Int)) from fun W h=>by
  rw[cell_of_row W w.heap.size 0 _ _ _ ((h.block w.heap.size (lt_of_block HEB.out)).trans HEB.out)];rfl)
 have HC1:=hid (show∀W,Below w2.heap.size w2 W→W.cell? ⟨w.heap.size,1,none⟩=some (.int .u64 (e.term:Int)) from fun W h=>by
  rw[cell_of_row W w.heap.size 1 _ _ _ ((h.block w.heap.size (lt_of_block HEB.out)).trans HEB.out)];rfl)
 have HR2:=hid hr2;have B2:=hid (HW1.out.trans (hb2.mono HW1.out.size));clear hr2 hb2 hg21;go_wp2_with fail
 refine wp_region_held_drew (S:=fun W=>Below w2.heap.size w2 W) (by kernel_rfl) (Below.refl _ _).drew (fun hHeld=>?_);refine zkH 0 (v:=?_) (h2:=?_) (h:=?_);rotate_left;focus (intro W hS;(try dsimp only at hS);go_simp;(try with_reducible rfl))
 try simp only[Act.put,zsA,zsS,zsZ]
 refine zkH 1 (v:=?_) (h2:=?_) (h:=?_);rotate_left;focus (intro W hS;(try dsimp only at hS);have q:=HC0.out W hS;go_simp;(try with_reducible rfl))
 try simp only[Act.put,zsA,zsS,zsZ]
 refine zkH 3 (v:=?_) (h2:=?_) (h:=?_);rotate_left;focus (intro W hS;(try dsimp only at hS);go_simp;(try with_reducible rfl))
 try simp only[Act.put,zsA,zsS,zsZ]
 refine zkH 4 (v:=?_) (h2:=?_) (h:=?_);rotate_left;focus (intro W hS;(try dsimp only at hS);have q:=HC1.out W hS;go_simp;(try with_reducible rfl))
 try simp only[Act.put,zsA,zsS,zsZ]
 refine zkH 6 (v:=?_) (h2:=?_) (h:=?_);rotate_left;focus (intro W hS;(try dsimp only at hS);go_simp;(try with_reducible rfl))
 try simp only[Act.put,zsA,zsS,zsZ]
 refine zrH 2 (h:=fun K hK=>?_);rw[if_pos (by rfl)];go_simp
 refine(put_any e.ix HN.out _).mono ?_;rintro r w3 ⟨v3,rfl,hr3,hb3⟩;have h3:=(Below.refl w2.heap.size w2).drew.trans hb3;obtain⟨g3,cap3,rfl,_,_,_,_,_⟩:=hr3.is (Num.enc_ne 9 e.ix);have HR3:=hid hr3;clear hr3 hb3;go_wp2_with fail
 refine hK.out _ _ h3 (fun hHeld=>?_);clear hK K;try simp only[Act.put,zsA,zsS,zsZ]
 clear hHeld;refine wpAnyH_sharper (S':=fun W=>Below w3.heap.size w3 W) (fun W h=>h3.trans (h.mono h3.size)) _ _ _ _ ?_;have hHeld:=Below.refl w3.heap.size w3;refine zrH 5 (h:=fun K hK=>?_);rw[if_pos (by rfl)];go_simp
 refine(put_any e.term HT.out _).mono ?_;rintro r w4 ⟨v4,rfl,hr4,h4⟩;obtain⟨g4,cap4,rfl,_,_,_,_,_⟩:=hr4.is (Num.enc_ne 9 e.term);have HR4:=hid hr4;clear hr4;go_wp2_with fail
 refine hK.out _ _ h4 (fun hHeld=>?_);clear hK K;try simp only[Act.put,zsA,zsS,zsZ]
 clear hHeld;refine wpAnyH_sharper (S':=fun W=>Below w4.heap.size w4 W) (fun W h=>h4.trans (h.mono h4.size)) _ _ _ _ ?_;have hHeld:=Below.refl w4.heap.size w4;have hb5:Below w4.heap.size w4 (w4.alloc (.cells #[.slice (some ⟨g3,0,none⟩) (Num.put e.ix).length cap3,.slice (some ⟨g4,0,none⟩) (Num.put e.term).length cap4,.slice (some ⟨g2,0,none⟩) tt.length cap2] 39)):=(Below.refl _ _).alloc (Nat.le_refl _) _;have h34:=h3.trans (h4.mono h3.size);have hP:=hid (parts_three (w4.alloc (.cells #[.slice (some ⟨g3,0,none⟩) (Num.put e.ix).length cap3,.slice (some ⟨g4,0,none⟩) (Num.put e.term).length cap4,.slice (some ⟨g2,0,none⟩) tt.length cap2] 39)) w4.heap.size 39
  (some ⟨g3,0,none⟩) (some ⟨g4,0,none⟩) (some ⟨g2,0,none⟩) (Num.put e.ix) (Num.put e.term) tt cap3 cap4 cap2 (heap_alloc_new _ _) (fun h=>by cases h) (fun h=>by cases h) (fun h=>by cases h)
  (fun ad h=>by cases h;exact HR3.out.news (h4.trans (hb5.mono h4.size)) rfl) (fun ad h=>by cases h;exact HR4.out.news hb5 rfl) (fun ad h=>by cases h;exact HR2.out.news (h34.trans (hb5.mono h34.size)) rfl))
 have hcat:cat (fun k=>if k=0 then Num.put e.ix else if k=1 then Num.put e.term else tt) 3=recOf e:=by simp [cat,recOf,HTT.out]
 have HJ:=hid (join_any _ 3 3 _ _ _ _ hP.out (by omega) (by rw[hcat];have:=HLEN.out;omega));rw[hcat] at HJ;have hk2:=h34.trans (hb5.mono h34.size);have h5:=hb5;clear hP hcat HR3 HR4 HR2 HC0 HC1 hb5;refine zrH 7 (h:=fun K hK=>?_);rw[if_pos (by rfl)];go_simp
 refine hK.out _ _ h5 (fun hHeld=>?_);clear hK K;try simp only[Act.put,zsA,zsS,zsZ]
 refine zrH 8 (h:=fun K hK=>?_);rw[if_pos (by rfl)];go_simp
 refine HJ.out.mono ?_;rintro r w6 ⟨g6,c6,rfl,hr6,h6⟩;go_wp2_with fail
 refine hK.out _ _ (h5.trans (h6.mono h5.size)) (fun hHeld=>?_);clear hK K;try simp only[Act.put,zsA,zsS,zsZ]
 refine zkH 9 (v:=?_) (h2:=?_) (h:=?_);rotate_left;focus (intro W hS;(try dsimp only at hS);go_simp;(try with_reducible rfl))
 try simp only[Act.put,zsA,zsS,zsZ]
 refine zkH 10 (v:=?_) (h2:=?_) (h:=?_);rotate_left;focus (intro W hS;(try dsimp only at hS);go_simp;(try with_reducible rfl))
 try simp only[Act.put,zsA,zsS,zsZ]
 refine wpAnyH_done (by kernel_rfl) ?_ _;go_wp2
 go_ret2
 have hk6:=hk2.trans (h6.mono hk2.size);refine⟨g6,c6,rfl,hr6.less ?_,B2.out.trans (hk6.mono B2.out.size)⟩;exact Nat.le_trans B2.out.size hk2.size
end Go.Proofs.YtalfbcbnljhldaaGreatDoor

namespace Go.Proofs.YtalfbcbnljhldaaGreatDoor
open Go.Lib (hid)
open Go.RowKit Go.Maps Go.Sort Dsk Wl
def ReadsF (w:World) (o:Tags) (U:Nat) (a:Option Addr) (zs:List Int):Prop:=Reads w a zs∧ ∀x,a=some x→0<zs.length→o x.block=none∧x.block<U
def EntsF (w:World) (o:Tags) (U:Nat) (a:Option Addr) (es:List Ent):Prop:=
 ∀i (h:i<es.length),∃b q A C,a=some ⟨b,q,none⟩∧o b=none∧b<U∧U≤w.heap.size∧w.cell? ⟨b,q+i*3,none⟩=some (.int .u64 es[i].ix)∧w.cell? ⟨b,q+i*3+1,none⟩=some (.int .u64 es[i].term)∧
  w.cell? ⟨b,q+i*3+2,none⟩=some (.slice A es[i].body.length C)∧ReadsF w o U A es[i].body∧(A=none→C=0)
structure StepU (u:Nat) (o:Tags) (w:World) (o':Tags) (w':World):Prop where
 os:w'.os=w.os
 tape:w'.tape=w.tape
 output:w'.output=w.output
 size:w.heap.size≤w'.heap.size
 block: ∀k,k<w.heap.size→k≠u→o k=none→w'.heap[k]?=w.heap[k]?
 free: ∀k,k<w.heap.size→o k=none→o' k=none
section
variable {w w' w0 w1 w2:World} {o o' o1 o2:Tags} {u U:Nat} {a:Option Addr} {zs:List Int} {es:List Ent}
theorem Step.toU (h:Step o w o' w') (u:Nat):StepU u o w o' w':=⟨h.os,h.tape,h.output,h.size,fun k hk _ e=>h.block k hk e,fun k hk e=>h.free k hk e (by simp [Value.ownBlock])⟩
theorem StepU.trans (h:StepU u o w o1 w1) (k:StepU u o1 w1 o2 w2):StepU u o w o2 w2:=
 ⟨k.os.trans h.os,k.tape.trans h.tape,k.output.trans h.output,Nat.le_trans h.size k.size,
  fun j hj hu e=>(k.block j (Nat.lt_of_lt_of_le hj h.size) hu (h.free j hj e)).trans (h.block j hj hu e),
  fun j hj e=>k.free j (Nat.lt_of_lt_of_le hj h.size) (h.free j hj e)⟩
theorem StepU.refl (u:Nat) (o:Tags) (w:World):StepU u o w o w:=⟨rfl,rfl,rfl,Nat.le_refl _,fun _ _ _ _=>rfl,fun _ _ e=>e⟩
theorem StepU.set (b i:Nat) (o:Tags) (w:World) (v:Value):StepU b o w o (w.setCell ⟨b,i,none⟩ v):=⟨rfl,rfl,rfl,by simp [World.setCell],fun k _ hk _=>Below.heap_setCell _ _ _ _ fun e=>hk (by rw[e]),fun _ _ e=>e⟩
theorem StepU.behind (h:Step o w o1 w1) (k:StepU u o1 w1 o2 w2) (hu:w.heap.size≤u):Step o w o2 w2:=
 ⟨k.os.trans h.os,k.tape.trans h.tape,k.output.trans h.output,Nat.le_trans h.size k.size,
  fun j hj e=>(k.block j (Nat.lt_of_lt_of_le hj h.size) (by omega) (h.free j hj e (by simp [Value.ownBlock]))).trans (h.block j hj e),
  fun j hj e _=>k.free j (Nat.lt_of_lt_of_le hj h.size) (h.free j hj e (by simp [Value.ownBlock]))⟩
theorem ReadsF.stepU (h:ReadsF w o U a zs) (hs:StepU u o w o' w') (hu:U≤u) (hU:U≤w.heap.size):ReadsF w' o' U a zs:=by
 refine⟨⟨fun i hi=>?_,h.1.hr,h.1.hl⟩,fun x hx hz=>?_⟩
 ·obtain⟨x,hx,hlt,hc⟩:=h.1.cell i hi
  obtain⟨ho,hxU⟩:=h.2 x hx (by omega);refine⟨x,hx,Nat.lt_of_lt_of_le hlt hs.size,?_⟩;rw[World.cell?_of_block (w:=w) (w':=w') (a:=x.add i) (by rw[add_block];exact hs.block x.block hlt (by omega) ho)];exact hc
 ·obtain⟨ho,hxU⟩:=h.2 x hx hz
  exact⟨hs.free x.block (by omega) ho,hxU⟩
theorem EntsF.stepU (h:EntsF w o U a es) (hs:StepU u o w o' w') (hu:U≤u):EntsF w' o' U a es:=fun i hi=>by
 obtain⟨b,q,A,C,rfl,ho,hbU,hU,c0,c1,c2,hr,hn⟩:=h i hi;have hb:=hs.block b (by omega) (by omega) ho;exact⟨b,q,A,C,rfl,hs.free b (by omega) ho,hbU,Nat.le_trans hU hs.size,(World.cell?_of_block hb).trans c0,(World.cell?_of_block hb).trans c1,(World.cell?_of_block hb).trans c2,hr.stepU hs hu hU,hn⟩
theorem EntsF.below (h:EntsF w o U a es) (hb:Below w.heap.size w w'):EntsF w' o U a es:=fun i hi=>by
 obtain⟨b,q,A,C,rfl,ho,hbU,hU,c0,c1,c2,hr,hn⟩:=h i hi;have hbl:b<w.heap.size:=by omega
 exact⟨b,q,A,C,rfl,ho,hbU,Nat.le_trans hU hb.size,(hb.cell (p:=⟨b,_,none⟩) hbl).trans c0,(hb.cell (p:=⟨b,_,none⟩) hbl).trans c1,(hb.cell (p:=⟨b,_,none⟩) hbl).trans c2,⟨hr.1.below hb,hr.2⟩,hn⟩
end
def okIx:Nat→List Ent→Bool
 | _,[]=>true
 | l,e::r=>follows l e.ix&&okIx e.ix r
def short (es:List Ent):Bool:=es.all fun e=>decide (e.body.length≤2000)
def refuse (l:Nat) (es:List Ent):Int:=if okIx l es=true then if short es=true then 0 else 3 else 2
set_option maxRecDepth 100000 in
set_option maxHeartbeats 2000000 in
theorem refusal_any (l:Nat) (es:List Ent) (a:Option Addr) (c:Nat) (o:Tags) (U:Nat) (w:World) (hs:EntsF w o U a es) (hn:es.length<1000000000):
  Calls Tryz.prog 36 #[.int .u64 (l:Int),.slice a es.length c] w fun e w'=>e= .returned (.int .i64 (refuse l es))∧Below w.heap.size w w':=by
 have HS:=hid hs;clear hs;go_enter Tryz.func36,Tryz.ntmps36
 go_wp2_with fail
 go_loopw [0,11] (fun v i wr=> ∃(k m:Nat),k≤es.length∧i= .int .i64 (k:Int)∧v= .int .u64 (m:Int)∧okIx l es=okIx m (es.drop k)∧Below w.heap.size w wr) (fun _ i _=>es.length - (intOf i).toNat)
 case atStart=>exact⟨0,l,Nat.zero_le _,rfl,rfl,rfl,Below.refl _ _⟩
 case round=>
  obtain⟨k,m,hk,rfl,rfl,hok,hb⟩:=hrel;by_cases hkl:k<es.length
  ·obtain⟨b,q,A,C,rfl,_,_,hU,c0,c1,c2,_,_⟩:=(EntsF.below HS.out hb) k hkl
   have HOK:=hid hok;have HB:=hid hb;have HF:=hid (follows_any m es[k].ix);obtain⟨x,hx⟩: ∃x,x=es[k]:=⟨_,rfl⟩;rw[←hx] at c0 c1 c2 HF;have HX:=hid hx;have hal:Below wr.heap.size wr (wr.alloc (.cells #[.int .u64 (x.ix:Int),.int .u64 (x.term:Int),.slice A x.body.length C] 55)):=(Below.refl _ _).alloc (Nat.le_refl _) _;have HAL:=hid hal;have HDR:=hid (show es.drop k=x::es.drop (k+1) by rw[hx];exact List.drop_eq_getElem_cons hkl);clear hok hb hU hx hal;go_wp2_with fail
   refine(HF.out _).mono ?_;rintro r w2 ⟨rfl,rfl⟩;cases hf:follows m x.ix
   ·have HE:=hid (show refuse l es=2 by unfold refuse;rw[HOK.out,HDR.out,okIx,hf];rfl)
    clear hf;go_wp2_with fail
    go_ret
    rw[HE.out];exact⟨rfl,HB.out.trans (HAL.out.mono HB.out.size)⟩
   ·have HN:=hid (show okIx l es=okIx x.ix (es.drop (k+1)) by rw[HOK.out,HDR.out,okIx,hf];rfl)
    clear hf;go_wp2_with fail
    go_roundw
    case rel=>exact⟨k+1,x.ix,hkl,by go_num,rfl,HN.out,HB.out.trans (HAL.out.mono HB.out.size)⟩
    case measure=>simp [intOf];omega
  ·obtain rfl:k=es.length:=by omega
   rw[List.drop_length] at hok;have HOK:=hid (show okIx l es=true from hok);have HB:=hid hb;clear hok hb;go_wp2_with fail
   go_loopw [25] (fun i wx=> ∃(k:Nat),k≤es.length∧i= .int .i64 (k:Int)∧short (es.take k)=true∧Below w.heap.size w wx) (fun i _=>es.length - (intOf i).toNat)
   case atStart=>exact⟨0,Nat.zero_le _,rfl,rfl,HB.out⟩
   case round=>
    clear HB;obtain⟨j,hj,rfl,hsh,hb⟩:=hrel;by_cases hjl:j<es.length
    ·obtain⟨b,q,A,C,rfl,_,_,hU,c0,c1,c2,_,_⟩:=(EntsF.below HS.out hb) j hjl
     have HB:=hid hb;obtain⟨x,hx⟩: ∃x,x=es[j]:=⟨_,rfl⟩;rw[←hx] at c0 c1 c2;have HAL:=hid (show Below wr.heap.size wr (wr.alloc (.cells #[.int .u64 (x.ix:Int),.int .u64 (x.term:Int),.slice A x.body.length C] 55)) from(Below.refl _ _).alloc (Nat.le_refl _) _);have HTK:=hid (show short (es.take (j+1))=decide (x.body.length≤2000) by
      rw[List.take_add_one,List.getElem?_eq_getElem hjl,Option.toList_some];unfold short at hsh ⊢;rw[List.all_append,hsh,←hx];simp)
     have HX:=hid hx;clear hsh hb hU hx;by_cases hlong:x.body.length≤2000
     ·have hd:decide ((2000:Int)<(x.body.length:Int))=false:=by simp;omega
      have HT2:=hid (HTK.out.trans (decide_eq_true hlong));clear HTK;go_wp2_with fail
      go_roundw
      case rel=>exact⟨j+1,hjl,by go_num,HT2.out,HB.out.trans (HAL.out.mono HB.out.size)⟩
      case measure=>simp [intOf];omega
     ·have hd:decide ((2000:Int)<(x.body.length:Int))=true:=by simp;omega
      have HE:=hid (show refuse l es=3 by
       have h1:short es=false:=by
        unfold short;rw[List.all_eq_false];exact⟨x,by rw[HX.out];exact List.getElem_mem hjl,by simp;omega⟩
       unfold refuse;rw[HOK.out,h1];rfl)
      clear HTK;go_wp2_with fail
      go_ret
      rw[HE.out];exact⟨rfl,HB.out.trans (HAL.out.mono HB.out.size)⟩
    ·obtain rfl:j=es.length:=by omega
     rw[List.take_length] at hsh;have HE:=hid (show refuse l es=0 by unfold refuse;rw[HOK.out,hsh];rfl);have HB:=hid hb;clear hsh hb;go_wp2_with fail
     go_ret
     rw[HE.out];exact⟨rfl,HB.out⟩
def SBox (w:World) (o:Tags) (sb:Nat) (c:Cur):Prop:=(∃x y z,w.heap[sb]?=some (.cells #[.int .i64 (c.num:Int),x,y,.int .i64 (c.n:Int),z] 63 (0,0)))∧o sb=none
def AppendsTo (B g:Nat) (M:Files) (N:Nat) (l:Name) (zs:List Int) (er:Int) (M2:Files) (N2:Nat):Prop:= ∀(w:World) (o:Tags) (a:Option Addr) (cap:Nat),DiskAt w B o g M N→B≤w.heap.size→Reads w a zs→(a=none→cap=0)→
 Calls Tryz.prog 71 #[.pointer (some ⟨g,0,none⟩),.string ⟨l.toArray⟩,.slice a zs.length cap] w fun e w'=>e= .returned (.int .i64 er)∧ ∃o',DiskAt w' B o' g M2 N2∧Step o w o' w'
theorem SBox.below {w w':World} {o:Tags} {sb:Nat} {c:Cur} (h:SBox w o sb c) (hb:Below w.heap.size w w'):SBox w' o sb c:=by
 obtain⟨⟨x,y,z,h1⟩,h2⟩:=h;exact⟨⟨x,y,z,(hb.block sb (lt_of_block h1)).trans h1⟩,h2⟩
end Go.Proofs.YtalfbcbnljhldaaGreatDoor

namespace Go.Proofs.YtalfbcbnljhldaaGreatDoor
open Go.Lib (hid)
open Go.RowKit Go.Maps Go.Sort Dsk Wl
theorem DiskAt.setCell {w:World} {B g N:Nat} {o:Tags} {M:Files} (h:DiskAt w B o g M N) {a:Addr} (ha:o a.block=none) (v:Value):DiskAt (w.setCell a v) B o g M N:=by
 obtain⟨b,D,hd⟩:=h;exact⟨b,D,hd.setCell ha v⟩
theorem DiskAt.setRow {w:World} {B g N sb:Nat} {o:Tags} {M:Files} (h:DiskAt w B o g M N) (ha:o sb=none) (cs:Array Value):DiskAt (w.setRow sb cs) B o g M N:=by
 obtain⟨b,D,hd⟩:=h;exact⟨b,D,hd.same (by simp) fun k e=>setRow_other _ _ _ _ fun e0=>e (by rw[e0];exact ha)⟩
theorem StepU.row (sb:Nat) (o:Tags) (w:World) (cs:Array Value):StepU sb o w o (w.setRow sb cs):=⟨rfl,rfl,rfl,by simp,fun k _ hk _=>setRow_other _ _ _ _ hk,fun _ _ e=>e⟩
theorem ReadsF.setRow {w:World} {o:Tags} {U sb:Nat} {a:Option Addr} {zs:List Int} (h:ReadsF w o U a zs) (hu:U≤sb) (cs:Array Value):Reads (w.setRow sb cs) a zs:=by
 refine⟨fun i hi=>?_,h.1.hr,h.1.hl⟩;obtain⟨x,hx,hlt,hc⟩:=h.1.cell i hi;have hxU:=(h.2 x hx (by omega)).2;refine⟨x,hx,by simpa using hlt,?_⟩;rw[cell_setRow_other _ _ _ _ (by rw[add_block];omega)];exact hc
theorem Row.setSeg {w:World} {B g j:Nat} {zs:List Int} {u x:Value} {cs:Array Value} {fr:Nat×Nat} (h:Row w B zs u) (hg:w.heap[g]?=some (.cells cs 63 fr)):Row (w.setCell ⟨g,j,none⟩ x) B zs u:=
 h.keep fun k e=>by
  rcases h.2 with⟨rfl,_⟩ | ⟨g',cap,cur,rfl,_,hb,_⟩
  ·cases e
  ·have e1:g'=k:=by simpa [Value.ownBlock] using e
   subst e1;exact set_seg hg hb (by decide)
set_option maxRecDepth 100000 in
set_option maxHeartbeats 2000000 in
theorem put_more {w:World} {B g N N2:Nat} {o:Tags} {M M2:Files} {er:Int} (h:Live w B o g M N) (sb:Nat) (c:Cur) (e:Ent) (a:Option Addr) (cp:Nat) (U:Nat) (hsb:SBox w o sb c) (hfr:c.fresh=false) (hk:c.num≤99999999) (he:e.ok) (hr:ReadsF w o U a e.body) (hBs:B≤sb)
  (HA:Hid (AppendsTo B g M N (nameOf c.num) (frm e) er M2 N2)):
  Calls Tryz.prog 38 #[.pointer (some ⟨sb,0,none⟩),.pointer (some ⟨g,0,none⟩),.agg #[.int .u64 (e.ix:Int),.int .u64 (e.term:Int),.slice a e.body.length cp]] w fun r w'=>r= .returned (.int .i64 er)∧ ∃o',DiskAt w' B o' g M2 N2∧StepU sb o w o' w'∧SBox w' o' sb ⟨c.num,c.n+1⟩:=by
 obtain⟨⟨x,y,z,hbx⟩,hfree⟩:=hsb;have hsbs:=lt_of_block hbx;have hal:Below w.heap.size w (w.alloc (.cells #[.int .u64 (e.ix:Int),.int .u64 (e.term:Int),.slice a e.body.length cp] 55)):=(Below.refl _ _).alloc (Nat.le_refl _) _;have hbx1:=(hal.block sb hsbs).trans hbx;have s0:(w.alloc (.cells #[.int .u64 (e.ix:Int),.int .u64 (e.term:Int),.slice a e.body.length cp] 55)).cell? ⟨sb,0,none⟩=some (.int .i64 (c.num:Int)):=by rw[cell_of_row _ _ 0 _ _ _ hbx1];rfl
 have s1:(w.alloc (.cells #[.int .u64 (e.ix:Int),.int .u64 (e.term:Int),.slice a e.body.length cp] 55)).cell? ⟨sb,1,none⟩=some x:=by rw[cell_of_row _ _ 1 _ _ _ hbx1];rfl
 have s2:(w.alloc (.cells #[.int .u64 (e.ix:Int),.int .u64 (e.term:Int),.slice a e.body.length cp] 55)).cell? ⟨sb,2,none⟩=some y:=by rw[cell_of_row _ _ 2 _ _ _ hbx1];rfl
 have s3:(w.alloc (.cells #[.int .u64 (e.ix:Int),.int .u64 (e.term:Int),.slice a e.body.length cp] 55)).cell? ⟨sb,3,none⟩=some (.int .i64 (c.n:Int)):=by rw[cell_of_row _ _ 3 _ _ _ hbx1];rfl
 have s4:(w.alloc (.cells #[.int .u64 (e.ix:Int),.int .u64 (e.term:Int),.slice a e.body.length cp] 55)).cell? ⟨sb,4,none⟩=some z:=by rw[cell_of_row _ _ 4 _ _ _ hbx1];rfl
 have HE:=hid he;unfold Cur.fresh at hfr;simp only[Bool.or_eq_false_iff,decide_eq_false_iff_not] at hfr;obtain⟨k,n⟩:=c;dsimp only at*;have hg8:decide ((8:Int)≤(n:Int))=false:=by simp;omega
 have hg0:((k:Int) == 0)=false:=by rw[beq_eq_false_iff_ne];omega
 have hn8:n<8:=by omega
 have hkk:k≤99999999:=hk;have HRECF:=hid (fun(W:World) (hW:Reads W a e.body)=>record_any e a cp W he hW);have RDS:=hid (hr.1.below hal);have HBXW:=hid hbx1;have HDW:=hid (h.disk.below hal);have HTW:=hid (h.below hal).tabs;have HBW:=hid (h.below hal).hB;have HSW:=hid ((Step.of_below o hal).toU sb);have HFREEW:=hid hfree;clear h hal hbx hbx1 he hr hfree hfr hsbs hk;go_enter Tryz.func38,Tryz.ntmps38
 go_wp2_with fail
 clear s0 s1 s2 s3 s4;refine(HRECF.out (w.alloc (.cells #[.int .u64 (e.ix:Int),.int .u64 (e.term:Int),.slice a e.body.length cp] 55)) RDS.out).mono ?_;rintro r w2 ⟨rg,rc,rfl,hrow,hb2⟩;have hlen:=rec_len HE.out;have HFP:=hid (framePut_any (some ⟨rg,0,none⟩) (recOf e).length rc (recOf e) w2 rfl (hrow.here (rec_range HE.out) (by omega)).1.reads (by omega));have HB2:=hid hb2;have HBX2:=hid ((hb2.block sb (lt_of_block HBXW.out)).trans HBXW.out);clear hrow hb2 hlen;go_wp2_with fail
 refine HFP.out.mono ?_;rintro r w3 ⟨fg,fc,rfl,hfrow,hb3⟩;have hflen:(frm e).length=(Frame.frameOf (recOf e)).length:=rfl;have HFROW:=hid (show Row w3 w2.heap.size (frm e) (.slice (some ⟨fg,0,none⟩) (frm e).length fc) from hfrow);rw[←hflen];have hbx3:=(hb3.block sb (lt_of_block HBX2.out)).trans HBX2.out;have HB3:=hid (HB2.out.trans (hb3.mono HB2.out.size));have s0:w3.cell? ⟨sb,0,none⟩=some (.int .i64 (k:Int)):=by rw[cell_of_row _ _ 0 _ _ _ hbx3];rfl
 have s1:w3.cell? ⟨sb,1,none⟩=some x:=by rw[cell_of_row _ _ 1 _ _ _ hbx3];rfl
 have s2:w3.cell? ⟨sb,2,none⟩=some y:=by rw[cell_of_row _ _ 2 _ _ _ hbx3];rfl
 have s3:w3.cell? ⟨sb,3,none⟩=some (.int .i64 (n:Int)):=by rw[cell_of_row _ _ 3 _ _ _ hbx3];rfl
 have s4:w3.cell? ⟨sb,4,none⟩=some z:=by rw[cell_of_row _ _ 4 _ _ _ hbx3];rfl
 have z3:w3.frozen? ⟨sb,3,none⟩=false:=frozen_row hbx3;have HBX3:=hid hbx3;clear hfrow hb3 hbx3 HFP hflen;go_wp2_with fail
 have hx4:(w3.setCell ⟨sb,3,none⟩ (.int .i64 ((n:Int)+1))).heap[sb]?=some (.cells #[.int .i64 (k:Int),x,y,.int .i64 ((n:Int)+1),z] 63 (0,0)):=cells_set HBX3.out 3 _;have hd4:DiskAt (w3.setCell ⟨sb,3,none⟩ (.int .i64 ((n:Int)+1))) B o g M N:=(HDW.out.below HB3.out).setCell HFREEW.out _;have ht4:Tabs B (w3.setCell ⟨sb,3,none⟩ (.int .i64 ((n:Int)+1))):=HTW.out.below ((HB3.out.mono HBW.out).setCell (p:=⟨sb,3,none⟩) hBs _);have hz4:B≤(w3.setCell ⟨sb,3,none⟩ (.int .i64 ((n:Int)+1))).heap.size:=by have:=HB3.out.size;have:=HBW.out;simp [World.setCell];omega
 have hr4:=HFROW.out.setSeg (j:=3) (x:= .int .i64 ((n:Int)+1)) HBX3.out;have HS4:=hid (StepU.trans ((Step.of_below o HB3.out).toU sb) (StepU.set sb 3 o w3 (.int .i64 ((n:Int)+1))));generalize w3.setCell ⟨sb,3,none⟩ (.int .i64 ((n:Int)+1))=w4 at*;have HNM:=hid (name_any B _ x y (.int .i64 ((n:Int)+1)) z w4 hkk ht4 hz4);try rw[hcast] at HNM
 have HX4:=hid hx4;have HD4:=hid hd4;have HZ4:=hid hz4;have HR4:=hid hr4;clear hx4 hd4 ht4 hz4 hr4 s0 s1 s2 s3 s4 z3 HFROW;refine HNM.out.mono ?_;rintro r w5 ⟨rfl,hb5⟩;have HAP:=hid (HA.out w5 o (some ⟨fg,0,none⟩) fc (HD4.out.below hb5) (Nat.le_trans HZ4.out hb5.size) (((HR4.out.here (frm_range HE.out) (by have:=(frm_len HE.out).2;omega)).1.reads).below hb5) (fun h=>by cases h));have HB5:=hid hb5;have HX5:=hid ((hb5.block sb (lt_of_block HX4.out)).trans HX4.out);clear hb5 HNM;go_wp2_with fail
 refine HAP.out.mono ?_;rintro r w6 ⟨rfl,o6,hd6,hs6⟩;have HD6:=hid hd6;have HS6:=hid hs6;clear hd6 hs6 HAP;go_wp2_with fail
 go_ret
 exact⟨rfl,o6,HD6.out,HSW.out.trans (HS4.out.trans (((Step.of_below o HB5.out).trans HS6.out).toU sb)),⟨⟨_,_,_,by have hq:=(HS6.out.block sb (lt_of_block HX5.out) HFREEW.out).trans HX5.out;simpa using hq⟩,HS6.out.free sb (lt_of_block HX5.out) HFREEW.out (by simp [Value.ownBlock])⟩⟩
set_option maxRecDepth 100000 in
set_option maxHeartbeats 2000000 in
theorem put_first {w:World} {B g N N2:Nat} {o:Tags} {M M2:Files} {er:Int} (h:Live w B o g M N) (sb:Nat) (c:Cur) (e:Ent) (a:Option Addr) (cp:Nat) (U:Nat) (hsb:SBox w o sb c) (hc0:c.num=0) (hc1:c.n<8) (hUs:U≤sb) (he:e.ok) (hr:ReadsF w o U a e.body) (hBs:B≤sb)
  (HA:Hid (AppendsTo B g M N (nameOf (c.num+1)) (frm e) er M2 N2)):
  Calls Tryz.prog 38 #[.pointer (some ⟨sb,0,none⟩),.pointer (some ⟨g,0,none⟩),.agg #[.int .u64 (e.ix:Int),.int .u64 (e.term:Int),.slice a e.body.length cp]] w fun r w'=>r= .returned (.int .i64 er)∧ ∃o',DiskAt w' B o' g M2 N2∧StepU sb o w o' w'∧SBox w' o' sb ⟨c.num+1,1⟩:=by
 obtain⟨⟨x,y,z,hbx⟩,hfree⟩:=hsb;have hsbs:=lt_of_block hbx;have hal:Below w.heap.size w (w.alloc (.cells #[.int .u64 (e.ix:Int),.int .u64 (e.term:Int),.slice a e.body.length cp] 55)):=(Below.refl _ _).alloc (Nat.le_refl _) _;have hbx1:=(hal.block sb hsbs).trans hbx;have s0:(w.alloc (.cells #[.int .u64 (e.ix:Int),.int .u64 (e.term:Int),.slice a e.body.length cp] 55)).cell? ⟨sb,0,none⟩=some (.int .i64 (c.num:Int)):=by rw[cell_of_row _ _ 0 _ _ _ hbx1];rfl
 have s1:(w.alloc (.cells #[.int .u64 (e.ix:Int),.int .u64 (e.term:Int),.slice a e.body.length cp] 55)).cell? ⟨sb,1,none⟩=some x:=by rw[cell_of_row _ _ 1 _ _ _ hbx1];rfl
 have s2:(w.alloc (.cells #[.int .u64 (e.ix:Int),.int .u64 (e.term:Int),.slice a e.body.length cp] 55)).cell? ⟨sb,2,none⟩=some y:=by rw[cell_of_row _ _ 2 _ _ _ hbx1];rfl
 have s3:(w.alloc (.cells #[.int .u64 (e.ix:Int),.int .u64 (e.term:Int),.slice a e.body.length cp] 55)).cell? ⟨sb,3,none⟩=some (.int .i64 (c.n:Int)):=by rw[cell_of_row _ _ 3 _ _ _ hbx1];rfl
 have s4:(w.alloc (.cells #[.int .u64 (e.ix:Int),.int .u64 (e.term:Int),.slice a e.body.length cp] 55)).cell? ⟨sb,4,none⟩=some z:=by rw[cell_of_row _ _ 4 _ _ _ hbx1];rfl
 have HE:=hid he;have heb:(w.alloc (.cells #[.int .u64 (e.ix:Int),.int .u64 (e.term:Int),.slice a e.body.length cp] 55)).heap[w.heap.size]?=some (.cells #[.int .u64 (e.ix:Int),.int .u64 (e.term:Int),.slice a e.body.length cp] 55 (0,0)):=heap_alloc_new _ _;obtain⟨k,n⟩:=c;dsimp only at*;have hg0:((k:Int) == 0)=true:=by rw[beq_iff_eq];omega
 have hgt:((k:Int) == 99999999)=false:=by rw[beq_eq_false_iff_ne];omega
 have hkk:k+1≤99999999:=by omega
 have hcast:((k+1:Nat):Int)=(k:Int)+1:=by omega
 have HC0:=hid hc0;clear hc0;have hg8:decide ((8:Int)≤(n:Int))=false:=by simp;omega
 have HRECF:=hid (fun(W:World) (hW:Reads W a e.body)=>record_any e a cp W he hW);have HEB:=hid heb;have HSBS:=hid hsbs;have RDS:=hid (ReadsF.setRow (w:=(w.alloc (.cells #[.int .u64 (e.ix:Int),.int .u64 (e.term:Int),.slice a e.body.length cp] 55))) ⟨hr.1.below hal,hr.2⟩ hUs #[.int .i64 ((k:Int)+1),.slice none 0 0,.int .i64 0,.int .i64 0,.int .u64 0]);have HBXW:=hid (setRow_heap _ sb _ #[.int .i64 ((k:Int)+1),.slice none 0 0,.int .i64 0,.int .i64 0,.int .u64 0] _ _ hbx1);have HDW:=hid (DiskAt.setRow (h.disk.below hal) hfree #[.int .i64 ((k:Int)+1),.slice none 0 0,.int .i64 0,.int .i64 0,.int .u64 0]);have HTW:=hid ((h.below hal).tabs.below (below_setRow (Below.refl B _) hBs #[.int .i64 ((k:Int)+1),.slice none 0 0,.int .i64 0,.int .i64 0,.int .u64 0]));have HBW:=hid (show B≤((w.alloc (.cells #[.int .u64 (e.ix:Int),.int .u64 (e.term:Int),.slice a e.body.length cp] 55)).setRow sb #[.int .i64 ((k:Int)+1),.slice none 0 0,.int .i64 0,.int .i64 0,.int .u64 0]).heap.size by have:=(h.below hal).hB;simpa using this);have HSW:=hid (((Step.of_below o hal).toU sb).trans (StepU.row sb o _ #[.int .i64 ((k:Int)+1),.slice none 0 0,.int .i64 0,.int .i64 0,.int .u64 0]));have HFREEW:=hid hfree;have hsr:=hbx1;clear h hal hbx hbx1 he hr hfree hsbs heb hUs;have t0:((w.alloc (.cells #[.int .u64 (e.ix:Int),.int .u64 (e.term:Int),.slice a e.body.length cp] 55)).setRow sb #[.int .i64 ((k:Int)+1),.slice none 0 0,.int .i64 0,.int .i64 0,.int .u64 0]).cell? ⟨w.heap.size,0,none⟩=some (.int .u64 (e.ix:Int)):=by rw[cell_setRow_other _ _ _ _ (Nat.ne_of_gt HSBS.out),cell_of_row _ _ 0 _ _ _ HEB.out];rfl
 have t1:((w.alloc (.cells #[.int .u64 (e.ix:Int),.int .u64 (e.term:Int),.slice a e.body.length cp] 55)).setRow sb #[.int .i64 ((k:Int)+1),.slice none 0 0,.int .i64 0,.int .i64 0,.int .u64 0]).cell? ⟨w.heap.size,1,none⟩=some (.int .u64 (e.term:Int)):=by rw[cell_setRow_other _ _ _ _ (Nat.ne_of_gt HSBS.out),cell_of_row _ _ 1 _ _ _ HEB.out];rfl
 have t2:((w.alloc (.cells #[.int .u64 (e.ix:Int),.int .u64 (e.term:Int),.slice a e.body.length cp] 55)).setRow sb #[.int .i64 ((k:Int)+1),.slice none 0 0,.int .i64 0,.int .i64 0,.int .u64 0]).cell? ⟨w.heap.size,2,none⟩=some (.slice a e.body.length cp):=by rw[cell_setRow_other _ _ _ _ (Nat.ne_of_gt HSBS.out),cell_of_row _ _ 2 _ _ _ HEB.out];rfl
 go_enter Tryz.func38,Tryz.ntmps38
 go_wp2_with (refine wpList_store_row rfl 63 _ _ rfl sb #[.int .i64 ((k:Int)+1),.slice none 0 0,.int .i64 0,.int .i64 0,.int .u64 0] rfl rfl 63 #[.int .i64 (k:Int),x,y,.int .i64 (n:Int),z] hsr (by kernel_rfl) rfl (by kernel_rfl) ?_)
 clear s0 s1 s2 s3 s4 t0 t1 t2 hsr;refine(HRECF.out _ RDS.out).mono ?_;rintro r w2 ⟨rg,rc,rfl,hrow,hb2⟩;have hlen:=rec_len HE.out;have HFP:=hid (framePut_any (some ⟨rg,0,none⟩) (recOf e).length rc (recOf e) w2 rfl (hrow.here (rec_range HE.out) (by omega)).1.reads (by omega));have HB2:=hid hb2;have HBX2:=hid ((hb2.block sb (lt_of_block HBXW.out)).trans HBXW.out);clear hrow hb2 hlen;go_wp2_with fail
 refine HFP.out.mono ?_;rintro r w3 ⟨fg,fc,rfl,hfrow,hb3⟩;have hflen:(frm e).length=(Frame.frameOf (recOf e)).length:=rfl;have HFROW:=hid (show Row w3 w2.heap.size (frm e) (.slice (some ⟨fg,0,none⟩) (frm e).length fc) from hfrow);rw[←hflen];have hbx3:=(hb3.block sb (lt_of_block HBX2.out)).trans HBX2.out;have HB3:=hid (HB2.out.trans (hb3.mono HB2.out.size));have s0:w3.cell? ⟨sb,0,none⟩=some (.int .i64 ((k:Int)+1)):=by rw[cell_of_row _ _ 0 _ _ _ hbx3];rfl
 have s1:w3.cell? ⟨sb,1,none⟩=some (.slice none 0 0):=by rw[cell_of_row _ _ 1 _ _ _ hbx3];rfl
 have s2:w3.cell? ⟨sb,2,none⟩=some (.int .i64 0):=by rw[cell_of_row _ _ 2 _ _ _ hbx3];rfl
 have s3:w3.cell? ⟨sb,3,none⟩=some (.int .i64 0):=by rw[cell_of_row _ _ 3 _ _ _ hbx3];rfl
 have s4:w3.cell? ⟨sb,4,none⟩=some (.int .u64 0):=by rw[cell_of_row _ _ 4 _ _ _ hbx3];rfl
 have z3:w3.frozen? ⟨sb,3,none⟩=false:=frozen_row hbx3;have HBX3:=hid hbx3;clear hfrow hb3 hbx3 HFP hflen;go_wp2_with fail
 have hx4:(w3.setCell ⟨sb,3,none⟩ (.int .i64 1)).heap[sb]?=some (.cells #[.int .i64 ((k:Int)+1),.slice none 0 0,.int .i64 0,.int .i64 1,.int .u64 0] 63 (0,0)):=cells_set HBX3.out 3 _;have hd4:DiskAt (w3.setCell ⟨sb,3,none⟩ (.int .i64 1)) B o g M N:=(HDW.out.below HB3.out).setCell HFREEW.out _;have ht4:Tabs B (w3.setCell ⟨sb,3,none⟩ (.int .i64 1)):=HTW.out.below ((HB3.out.mono HBW.out).setCell (p:=⟨sb,3,none⟩) hBs _);have hz4:B≤(w3.setCell ⟨sb,3,none⟩ (.int .i64 1)).heap.size:=by have:=HB3.out.size;have:=HBW.out;simp [World.setCell];omega
 have hr4:=HFROW.out.setSeg (j:=3) (x:= .int .i64 1) HBX3.out;have HS4:=hid (StepU.trans ((Step.of_below o HB3.out).toU sb) (StepU.set sb 3 o w3 (.int .i64 1)));generalize w3.setCell ⟨sb,3,none⟩ (.int .i64 1)=w4 at*;have HNM:=hid (name_any B (k+1) (.slice none 0 0) (.int .i64 0) (.int .i64 1) (.int .u64 0) w4 hkk ht4 hz4);try rw[hcast] at HNM
 have HX4:=hid hx4;have HD4:=hid hd4;have HZ4:=hid hz4;have HR4:=hid hr4;clear hx4 hd4 ht4 hz4 hr4 s0 s1 s2 s3 s4 z3 HFROW;refine HNM.out.mono ?_;rintro r w5 ⟨rfl,hb5⟩;have HAP:=hid (HA.out w5 o (some ⟨fg,0,none⟩) fc (HD4.out.below hb5) (Nat.le_trans HZ4.out hb5.size) (((HR4.out.here (frm_range HE.out) (by have:=(frm_len HE.out).2;omega)).1.reads).below hb5) (fun h=>by cases h));have HB5:=hid hb5;have HX5:=hid ((hb5.block sb (lt_of_block HX4.out)).trans HX4.out);clear hb5 HNM;go_wp2_with fail
 refine HAP.out.mono ?_;rintro r w6 ⟨rfl,o6,hd6,hs6⟩;have HD6:=hid hd6;have HS6:=hid hs6;clear hd6 hs6 HAP;go_wp2_with fail
 go_ret
 exact⟨rfl,o6,HD6.out,HSW.out.trans (HS4.out.trans (((Step.of_below o HB5.out).trans HS6.out).toU sb)),⟨⟨_,_,_,by have hq:=(HS6.out.block sb (lt_of_block HX5.out) HFREEW.out).trans HX5.out;simpa using hq⟩,HS6.out.free sb (lt_of_block HX5.out) HFREEW.out (by simp [Value.ownBlock])⟩⟩
set_option maxRecDepth 100000 in
set_option maxHeartbeats 2000000 in
theorem put_full {w:World} {B g N N2:Nat} {o:Tags} {M M2:Files} {er:Int} (h:Live w B o g M N) (sb:Nat) (c:Cur) (e:Ent) (a:Option Addr) (cp:Nat) (U:Nat) (hsb:SBox w o sb c) (hc0:1≤c.num∧c.num<99999999) (hc1:8≤c.n) (hcn:c.n≤1000000000) (hM:(M (nameOf c.num)).isSome=true) (hUs:U≤sb) (he:e.ok) (hr:ReadsF w o U a e.body) (hBs:B≤sb)
  (HA:Hid (AppendsTo B g (syncM M c) N (nameOf (c.num+1)) (frm e) er M2 N2)):
  Calls Tryz.prog 38 #[.pointer (some ⟨sb,0,none⟩),.pointer (some ⟨g,0,none⟩),.agg #[.int .u64 (e.ix:Int),.int .u64 (e.term:Int),.slice a e.body.length cp]] w fun r w'=>r= .returned (.int .i64 er)∧ ∃o',DiskAt w' B o' g M2 N2∧StepU sb o w o' w'∧SBox w' o' sb ⟨c.num+1,1⟩:=by
 obtain⟨⟨x,y,z,hbx⟩,hfree⟩:=hsb;have hsbs:=lt_of_block hbx;have hal:Below w.heap.size w (w.alloc (.cells #[.int .u64 (e.ix:Int),.int .u64 (e.term:Int),.slice a e.body.length cp] 55)):=(Below.refl _ _).alloc (Nat.le_refl _) _;have hbx1:=(hal.block sb hsbs).trans hbx;have s0:(w.alloc (.cells #[.int .u64 (e.ix:Int),.int .u64 (e.term:Int),.slice a e.body.length cp] 55)).cell? ⟨sb,0,none⟩=some (.int .i64 (c.num:Int)):=by rw[cell_of_row _ _ 0 _ _ _ hbx1];rfl
 have s1:(w.alloc (.cells #[.int .u64 (e.ix:Int),.int .u64 (e.term:Int),.slice a e.body.length cp] 55)).cell? ⟨sb,1,none⟩=some x:=by rw[cell_of_row _ _ 1 _ _ _ hbx1];rfl
 have s2:(w.alloc (.cells #[.int .u64 (e.ix:Int),.int .u64 (e.term:Int),.slice a e.body.length cp] 55)).cell? ⟨sb,2,none⟩=some y:=by rw[cell_of_row _ _ 2 _ _ _ hbx1];rfl
 have s3:(w.alloc (.cells #[.int .u64 (e.ix:Int),.int .u64 (e.term:Int),.slice a e.body.length cp] 55)).cell? ⟨sb,3,none⟩=some (.int .i64 (c.n:Int)):=by rw[cell_of_row _ _ 3 _ _ _ hbx1];rfl
 have s4:(w.alloc (.cells #[.int .u64 (e.ix:Int),.int .u64 (e.term:Int),.slice a e.body.length cp] 55)).cell? ⟨sb,4,none⟩=some z:=by rw[cell_of_row _ _ 4 _ _ _ hbx1];rfl
 have HE:=hid he;have heb:(w.alloc (.cells #[.int .u64 (e.ix:Int),.int .u64 (e.term:Int),.slice a e.body.length cp] 55)).heap[w.heap.size]?=some (.cells #[.int .u64 (e.ix:Int),.int .u64 (e.term:Int),.slice a e.body.length cp] 55 (0,0)):=heap_alloc_new _ _;obtain⟨k,n⟩:=c;have hsM:syncM M ⟨k,n⟩=upd M (nameOf k) (settled (M.at (nameOf k)).now):=if_pos hc1;rw[hsM] at HA;dsimp only at*;have hg0:((k:Int) == 0)=false:=by rw[beq_eq_false_iff_ne];omega
 have hgt:((k:Int) == 99999999)=false:=by rw[beq_eq_false_iff_ne];omega
 have hkk:k+1≤99999999:=by omega
 have hcast:((k+1:Nat):Int)=(k:Int)+1:=by omega
 have hg8:decide ((8:Int)≤(n:Int))=true:=by simp;omega
 have HRECF:=hid (fun(W:World) (hW:Reads W a e.body)=>record_any e a cp W he hW);have HL1:=hid (h.below hal);have HNM0:=hid (HL1.out.name k x y (.int .i64 (n:Int)) z (by omega));have HM:=hid hM;have HR:=hid (show ReadsF (w.alloc (.cells #[.int .u64 (e.ix:Int),.int .u64 (e.term:Int),.slice a e.body.length cp] 55)) o U a e.body from⟨hr.1.below hal,hr.2⟩);have HAL:=hid hal;have HBX1:=hid hbx1;have HEB1:=hid heb;have HSBS:=hid hsbs;have HFREE:=hid hfree;have HFE:=hid (h.free (Nat.le_refl _));have HC0:=hid hc0;clear h hal hbx hbx1 he hr hfree hsbs heb hM hsM hc0;go_enter Tryz.func38,Tryz.ntmps38
 go_wp2_with fail
 refine HNM0.out.mono ?_;rintro r w2 ⟨rfl,hb2⟩;have HSY:=hid (sync_any g B N o M (nameOf k) w2 (HL1.out.disk.below hb2) HM.out (by rw[name_len];decide) (by rw[name_len];decide) (by have:=HL1.out.few;omega) (HL1.out.at_ _));have HB2:=hid hb2;clear hb2 HNM0 s0 s1 s2 s3 s4;go_wp2_with fail
 refine HSY.out.mono ?_;rintro r w3 ⟨rfl,o3,hd3,hs3⟩;have hst:Step o (w.alloc (.cells #[.int .u64 (e.ix:Int),.int .u64 (e.term:Int),.slice a e.body.length cp] 55)) o3 w3:=(Step.of_below o HB2.out).trans hs3;have hsb1:sb<(w.alloc (.cells #[.int .u64 (e.ix:Int),.int .u64 (e.term:Int),.slice a e.body.length cp] 55)).heap.size:=by have:=HSBS.out;simp;omega
 have hbx3:=(hst.block sb hsb1 HFREE.out).trans HBX1.out;have heb3:=(hst.block w.heap.size (by simp) HFE.out).trans HEB1.out;have hfree3:o3 sb=none:=hst.free sb hsb1 HFREE.out (by simp [Value.ownBlock]);have hr3:=HR.out.stepU (hst.toU sb) hUs (by omega);have s0:w3.cell? ⟨sb,0,none⟩=some (.int .i64 (k:Int)):=by rw[cell_of_row _ _ 0 _ _ _ hbx3];rfl
 have s3:w3.cell? ⟨sb,3,none⟩=some (.int .i64 (n:Int)):=by rw[cell_of_row _ _ 3 _ _ _ hbx3];rfl
 have HEB:=hid heb3;have RDS:=hid (hr3.setRow hUs #[.int .i64 ((k:Int)+1),.slice none 0 0,.int .i64 0,.int .i64 0,.int .u64 0]);have HBXW:=hid (setRow_heap _ sb _ #[.int .i64 ((k:Int)+1),.slice none 0 0,.int .i64 0,.int .i64 0,.int .u64 0] _ _ hbx3);have HDW:=hid (hd3.setRow hfree3 #[.int .i64 ((k:Int)+1),.slice none 0 0,.int .i64 0,.int .i64 0,.int .u64 0]);have HTW:=hid ((HL1.out.tabs_step hst).below (below_setRow (Below.refl B _) hBs #[.int .i64 ((k:Int)+1),.slice none 0 0,.int .i64 0,.int .i64 0,.int .u64 0]));have HBW:=hid (show B≤(w3.setRow sb #[.int .i64 ((k:Int)+1),.slice none 0 0,.int .i64 0,.int .i64 0,.int .u64 0]).heap.size by have:=HL1.out.hB;have:=hst.size;rw[setRow_size];omega);have HSW:=hid ((((Step.of_below o HAL.out).trans hst).toU sb).trans (StepU.row sb o3 w3 #[.int .i64 ((k:Int)+1),.slice none 0 0,.int .i64 0,.int .i64 0,.int .u64 0]));have HFREEW:=hid hfree3;have hsr:=hbx3;clear hd3 hs3 hst hsb1 hbx3 heb3 hfree3 hr3 HSY HL1 HBX1 HEB1;have t0:(w3.setRow sb #[.int .i64 ((k:Int)+1),.slice none 0 0,.int .i64 0,.int .i64 0,.int .u64 0]).cell? ⟨w.heap.size,0,none⟩=some (.int .u64 (e.ix:Int)):=by rw[cell_setRow_other _ _ _ _ (Nat.ne_of_gt HSBS.out),cell_of_row _ _ 0 _ _ _ HEB.out];rfl
 have t1:(w3.setRow sb #[.int .i64 ((k:Int)+1),.slice none 0 0,.int .i64 0,.int .i64 0,.int .u64 0]).cell? ⟨w.heap.size,1,none⟩=some (.int .u64 (e.term:Int)):=by rw[cell_setRow_other _ _ _ _ (Nat.ne_of_gt HSBS.out),cell_of_row _ _ 1 _ _ _ HEB.out];rfl
 have t2:(w3.setRow sb #[.int .i64 ((k:Int)+1),.slice none 0 0,.int .i64 0,.int .i64 0,.int .u64 0]).cell? ⟨w.heap.size,2,none⟩=some (.slice a e.body.length cp):=by rw[cell_setRow_other _ _ _ _ (Nat.ne_of_gt HSBS.out),cell_of_row _ _ 2 _ _ _ HEB.out];rfl
 go_wp2_with (refine wpList_store_row rfl 63 _ _ rfl sb #[.int .i64 ((k:Int)+1),.slice none 0 0,.int .i64 0,.int .i64 0,.int .u64 0] rfl rfl 63 #[.int .i64 (k:Int),x,y,.int .i64 (n:Int),z] hsr (by kernel_rfl) rfl (by kernel_rfl) ?_)
 clear s0 s3 t0 t1 t2 hsr;refine(HRECF.out _ RDS.out).mono ?_;rintro r w2 ⟨rg,rc,rfl,hrow,hb2⟩;have hlen:=rec_len HE.out;have HFP:=hid (framePut_any (some ⟨rg,0,none⟩) (recOf e).length rc (recOf e) w2 rfl (hrow.here (rec_range HE.out) (by omega)).1.reads (by omega));have HB2:=hid hb2;have HBX2:=hid ((hb2.block sb (lt_of_block HBXW.out)).trans HBXW.out);clear hrow hb2 hlen;go_wp2_with fail
 refine HFP.out.mono ?_;rintro r w3 ⟨fg,fc,rfl,hfrow,hb3⟩;have hflen:(frm e).length=(Frame.frameOf (recOf e)).length:=rfl;have HFROW:=hid (show Row w3 w2.heap.size (frm e) (.slice (some ⟨fg,0,none⟩) (frm e).length fc) from hfrow);rw[←hflen];have hbx3:=(hb3.block sb (lt_of_block HBX2.out)).trans HBX2.out;have HB3:=hid (HB2.out.trans (hb3.mono HB2.out.size));have s0:w3.cell? ⟨sb,0,none⟩=some (.int .i64 ((k:Int)+1)):=by rw[cell_of_row _ _ 0 _ _ _ hbx3];rfl
 have s1:w3.cell? ⟨sb,1,none⟩=some (.slice none 0 0):=by rw[cell_of_row _ _ 1 _ _ _ hbx3];rfl
 have s2:w3.cell? ⟨sb,2,none⟩=some (.int .i64 0):=by rw[cell_of_row _ _ 2 _ _ _ hbx3];rfl
 have s3:w3.cell? ⟨sb,3,none⟩=some (.int .i64 0):=by rw[cell_of_row _ _ 3 _ _ _ hbx3];rfl
 have s4:w3.cell? ⟨sb,4,none⟩=some (.int .u64 0):=by rw[cell_of_row _ _ 4 _ _ _ hbx3];rfl
 have z3:w3.frozen? ⟨sb,3,none⟩=false:=frozen_row hbx3;have HBX3:=hid hbx3;clear hfrow hb3 hbx3 HFP hflen;go_wp2_with fail
 have hx4:(w3.setCell ⟨sb,3,none⟩ (.int .i64 1)).heap[sb]?=some (.cells #[.int .i64 ((k:Int)+1),.slice none 0 0,.int .i64 0,.int .i64 1,.int .u64 0] 63 (0,0)):=cells_set HBX3.out 3 _;have hd4:DiskAt (w3.setCell ⟨sb,3,none⟩ (.int .i64 1)) B o3 g (upd M (nameOf k) (settled (M.at (nameOf k)).now)) N:=(HDW.out.below HB3.out).setCell HFREEW.out _;have ht4:Tabs B (w3.setCell ⟨sb,3,none⟩ (.int .i64 1)):=HTW.out.below ((HB3.out.mono HBW.out).setCell (p:=⟨sb,3,none⟩) hBs _);have hz4:B≤(w3.setCell ⟨sb,3,none⟩ (.int .i64 1)).heap.size:=by have:=HB3.out.size;have:=HBW.out;simp [World.setCell];omega
 have hr4:=HFROW.out.setSeg (j:=3) (x:= .int .i64 1) HBX3.out;have HS4:=hid (StepU.trans ((Step.of_below o3 HB3.out).toU sb) (StepU.set sb 3 o3 w3 (.int .i64 1)));generalize w3.setCell ⟨sb,3,none⟩ (.int .i64 1)=w4 at*;have HNM:=hid (name_any B (k+1) (.slice none 0 0) (.int .i64 0) (.int .i64 1) (.int .u64 0) w4 hkk ht4 hz4);try rw[hcast] at HNM
 have HX4:=hid hx4;have HD4:=hid hd4;have HZ4:=hid hz4;have HR4:=hid hr4;clear hx4 hd4 ht4 hz4 hr4 s0 s1 s2 s3 s4 z3 HFROW;refine HNM.out.mono ?_;rintro r w5 ⟨rfl,hb5⟩;have HAP:=hid (HA.out w5 o3 (some ⟨fg,0,none⟩) fc (HD4.out.below hb5) (Nat.le_trans HZ4.out hb5.size) (((HR4.out.here (frm_range HE.out) (by have:=(frm_len HE.out).2;omega)).1.reads).below hb5) (fun h=>by cases h));have HB5:=hid hb5;have HX5:=hid ((hb5.block sb (lt_of_block HX4.out)).trans HX4.out);clear hb5 HNM;go_wp2_with fail
 refine HAP.out.mono ?_;rintro r w6 ⟨rfl,o6,hd6,hs6⟩;have HD6:=hid hd6;have HS6:=hid hs6;clear hd6 hs6 HAP;go_wp2_with fail
 go_ret
 exact⟨rfl,o6,HD6.out,HSW.out.trans (HS4.out.trans (((Step.of_below o3 HB5.out).trans HS6.out).toU sb)),⟨⟨_,_,_,by have hq:=(HS6.out.block sb (lt_of_block HX5.out) HFREEW.out).trans HX5.out;simpa using hq⟩,HS6.out.free sb (lt_of_block HX5.out) HFREEW.out (by simp [Value.ownBlock])⟩⟩
end Go.Proofs.YtalfbcbnljhldaaGreatDoor
