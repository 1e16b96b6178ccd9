/-  -/
import Derived.Test.YtalfbcbnljhldaaGreatDoorRlD
import Derived.Test.YtalfbcbnljhldaaGreatDoorMaa
import Derived.Lib.ConvBytes
import Derived.Test.YtalfbcbnljhldaaGreatDoorMab
import Derived.Test.YtalfbcbnljhldaaGreatDoorProg
import Derived.WalkKit
import Derived.Lib.Hide
import Derived.OneCell
import Derived.Laws.BytesArg
import Derived.Deep.AppendLies
import Derived.Laws.Rows
namespace Go.Proofs.YtalfbcbnljhldaaGreatDoor
open Go.Lib (hid)
open Go.RowKit Go.Maps Dsk Rd Wl
namespace Rl
structure SV where
 n:Nat
 v:Value
 l:List EV
def segCells:List SV→List Value
 | []=> []
 | s::r=> .int .i64 (s.n:Int)::s.v::segCells r
theorem segCells_len: ∀l:List SV,(segCells l).length=l.length*2
 | []=>rfl
 | s::r=>by simp [segCells,segCells_len r];omega
theorem segCells_append: ∀a b:List SV,segCells (a++b)=segCells a++segCells b
 | [],b=>rfl
 | s::a,b=>by simp [segCells,segCells_append a b]
theorem segCells_at: ∀(l:List SV) (i:Nat) (hi:i<l.length),(segCells l)[i*2]?=some (.int .i64 (l[i].n:Int))∧(segCells l)[i*2+1]?=some l[i].v
 | [],i,hi=>by simp at hi
 | s::r,0,_=>⟨rfl,rfl⟩
 | s::r,i+1,hi=>by
  have:=segCells_at r i (by simpa using hi);rw[show(i+1)*2=i*2+2 by omega];simpa [segCells,Nat.add_right_comm _ 2] using this
def recsOf (L:List SV):List EV:=(L.map (·.l)).flatten
theorem recsOf_append (A B:List SV):recsOf (A++B)=recsOf A++recsOf B:=by simp [recsOf]
theorem recsOf_le: ∀(L:List SV) (k:Nat),(recsOf (L.take k)).length≤(recsOf L).length:=fun L k=>by
 have h:recsOf L=recsOf (L.take k)++recsOf (L.drop k):=by rw[←recsOf_append,List.take_append_drop]
 rw[h,List.length_append];omega
theorem recsOf_one {L:List SV} {s:SV} (h:s∈L):s.l.length≤(recsOf L).length:=by
 obtain⟨i,hi,rfl⟩:=List.getElem_of_mem h;have h1:recsOf (L.take (i+1))=recsOf (L.take i)++L[i].l:=by
  rw[List.take_succ_eq_append_getElem hi,recsOf_append];simp [recsOf]
 have h2:=recsOf_le L (i+1);rw[h1,List.length_append] at h2;omega
def SV.Ok (w:World) (s:SV):Prop:= ∃a c,s.v= .slice a s.l.length c∧ReadsP w a s.l∧(a=none→s.l.length=0∧c=0)∧Fine s.l
structure LogR (w:World) (h g:Nat) (L:List SV):Prop where
 wal: ∃a c q o,w.heap[h]?=some (.cells #[.pointer (some ⟨g,0,none⟩),.slice a L.length c] 69 (0,0))∧(L≠ []→a=some ⟨q,o,none⟩)∧ ∀j u,(segCells L)[j]?=some u→q<w.heap.size∧w.cell? ⟨q,o+j,none⟩=some u
 segs: ∀s∈L,s.Ok w
section
variable {w w':World} {h g:Nat} {L:List SV}
theorem SV.Ok.below {s:SV} (k:s.Ok w) (hb:Below w.heap.size w w'):s.Ok w':=by
 obtain⟨a,c,h1,h2,h3⟩:=k;exact⟨a,c,h1,h2.below hb,h3⟩
theorem LogR.below (k:LogR w h g L) (hb:Below w.heap.size w w'):LogR w' h g L:=by
 obtain⟨a,c,q,o,h1,h2,h3⟩:=k.wal;exact⟨⟨a,c,q,o,(hb.block h (lt_of_block h1)).trans h1,h2,fun j u hu=>⟨Nat.lt_of_lt_of_le (h3 j u hu).1 hb.size,(hb.cell (p:=⟨q,o+j,none⟩) (h3 j u hu).1).trans (h3 j u hu).2⟩⟩,fun s hs=>(k.segs s hs).below hb⟩
theorem LogR.fine (k:LogR w h g L): ∀M,(∀s∈M,s∈L)→Fine (recsOf M):=fun M hM e he=>by
 unfold recsOf at he;obtain⟨l,hl,hel⟩:=List.mem_flatten.1 he;obtain⟨s,hs,rfl⟩:=List.mem_map.1 hl;obtain⟨_,_,_,_,_,hf⟩:=k.segs s (hM s hs);exact hf e hel
set_option maxRecDepth 100000 in
set_option maxHeartbeats 4000000 in
theorem records_any (k:LogR w h g L) (hl:(recsOf L).length≤1000000) (hL:L.length≤1000000):
  Calls Tryz.prog 34 #[.pointer (some ⟨h,0,none⟩)] w fun e w'=> ∃a c,e= .returned (.slice a (recsOf L).length c)∧RowP w' w.heap.size (.slice a (recsOf L).length c) (recsOf L)∧Below w.heap.size w w':=by
 obtain⟨N,hN⟩: ∃x,x=L.length:=⟨_,rfl⟩;obtain⟨sa,sc,q,o,hwal,hsa,hcells⟩:=k.wal;rw[←hN] at hwal hL;have hNm:(N:Int)≤1000000:=by omega
 have c0:w.cell? ⟨h,1,none⟩=some (.slice sa N sc):=by rw[cell_of_row _ _ _ _ _ _ hwal];rfl
 have HK:=hid k;have HN:=hid hN;have HCE:=hid hcells;have HC0:=hid c0;have HSA:=hid hsa;have HB0:=hid (Below.refl w.heap.size w);have HE0:=hid (World.ownsRow_nil w w.heap.size 55 3:RowP w w.heap.size (.slice none 0 0) []);clear k hN hwal hcells c0 hsa;go_enter Tryz.func34,Tryz.ntmps34
 go_wp2_with fail
 go_loopw [3,4] (fun v3 v4 wr=> ∃(i:Nat),v4= .int .i64 (i:Int)∧i≤N∧Hid (RowP wr w.heap.size v3 (recsOf (L.take i)))∧Hid (Below w.heap.size w wr)) (fun _ v4 _=>N - (intOf v4).toNat)
 case atStart=>exact⟨0,rfl,Nat.zero_le _,HE0,HB0⟩
 case round=>
  obtain⟨i,rfl,hi,HR,HB⟩:=hrel;have c1:=stays' HB.out HC0.out;by_cases hlt:i<N
  ·have hiL:i<L.length:=by rw[←HN.out];exact hlt
   obtain⟨-,hc⟩:=segCells_at L i hiL;have hae:=HSA.out (fun e=>by rw[e] at hiL;simp at hiL);subst hae;have c2:=stays' HB.out (HCE.out _ _ hc).2;obtain⟨s,hs⟩: ∃s,s=L[i]:=⟨_,rfl⟩;have hok:=(HK.out.segs L[i] (List.getElem_mem hiL)).below HB.out;rw[←hs] at hok c2;obtain⟨ea,ec,hv,hrd,hna,hfi⟩:=hok;rw[hv,←Nat.add_assoc] at c2;have HTK:=hid (show recsOf (L.take (i+1))=recsOf (L.take i)++s.l by
    rw[List.take_succ_eq_append_getElem hiL,recsOf_append,hs];simp [recsOf])
   have HLE:=hid (recsOf_le L i);have HSL:=hid (show s.l.length≤(recsOf L).length by rw[hs];exact recsOf_one (List.getElem_mem hiL));obtain⟨sn,hsn⟩: ∃x,x=s.l.length:=⟨_,rfl⟩;rw[←hsn] at c2 hna;have HSN:=hid hsn;have HRD:=hid hrd;have HNA:=hid hna;have HFI:=hid hfi;have dk:decide ((i:Int)<(N:Int))=true:=decide_eq_true (by omega);have dk2:decide (i<N)=true:=decide_eq_true hlt;have dk3:decide ((i:Int)<0)=false:=by simp
   have hk0:(0:Int)≤i:=by omega
   have hk1:(i:Int)≤1000000:=by omega
   have hk2:(i:Int)<(N:Int):=by omega
   clear hc hs hv hrd hna hfi hsn;obtain⟨v',W,hrun,hrow,hg,-⟩:=run_appP HR.out (by have:=HLE.out;omega) HB.out.size HSN.out HRD.out HFI.out (by have:=HSL.out;omega) HNA.out;have HROW:=hid hrow;have HBW:=hid (HB.out.grown hg HB.out.size fun k e=>(World.ownsRow.lt HR.out k e).1);clear hrow hg;go_wp2_with (at_builtin;go_loud (refine Lib.wpList_append_run _ rfl _ _ _ _ rfl _ _ rfl rfl _ _ hrun ?_))
   go_roundw
   case rel=>exact⟨i+1,by go_num,by omega,hid (by rw[HTK.out];exact HROW.out),HBW⟩
   case measure=>simp [intOf];omega
  ·have dk:decide ((i:Int)<(N:Int))=false:=decide_eq_false (by omega)
   have dk2:decide (i<N)=false:=decide_eq_false hlt;have HT:=hid (show L.take i=L from List.take_of_length_le (by have:=HN.out;omega));go_wp2_with fail
   go_ret
   have hr:=HR.out;rw[HT.out] at hr;obtain⟨a,c,e,_⟩:=slice_shape hr;subst e;exact⟨a,c,rfl,hr,HB.out⟩
set_option maxRecDepth 100000 in
set_option maxHeartbeats 4000000 in
theorem entries_any (k:LogR w h g L) (hl:(recsOf L).length≤1000000) (hL:L.length≤1000000):
  Calls Tryz.prog 23 #[.pointer (some ⟨h,0,none⟩)] w fun e w'=> ∃a c l n,e= .returned (.slice a l.length c)∧RowIs (recsOf L) l n∧RowP w' w.heap.size (.slice a l.length c) l∧Below w.heap.size w w':=by
 have HREC:=hid (records_any k hl hL);have HF:=hid (k.fine L fun _ hs=>hs);have HL:=hid hl;clear k hl hL;go_enter Tryz.func23,Tryz.ntmps23
 go_wp2_with fail
 refine HREC.out.mono ?_;rintro e w1 ⟨a,c,rfl,hr,hb⟩;have HB:=hid hb;have HR:=hid hr;clear hr hb HREC;go_wp2_with fail
 refine(row_any (RowP.reads HR.out).1 HF.out HL.out c).mono ?_;rintro e w2 ⟨la,lc,l,n,rfl,hri,hrow,hb⟩;have HB2:=hid hb;have HROW:=hid hrow;have HRI:=hid hri;clear hrow hb hri;go_wp2_with fail
 go_ret
 exact⟨la,lc,l,n,rfl,HRI.out,ownsRow_less HROW.out HB.out.size,HB.out.trans (HB2.out.mono HB.out.size)⟩
end
end Rl
end Go.Proofs.YtalfbcbnljhldaaGreatDoor

namespace Go.Proofs.YtalfbcbnljhldaaGreatDoor
open Go.RowKit
set_option maxRecDepth 100000 in
set_option maxHeartbeats 400000 in
theorem put_any (n:Nat) (hn:n<18446744073709551616) (w:World):
  Calls Tryz.prog 89 #[.int .u64 (n:Int)] w fun e w'=> ∃v,e= .returned v∧Row w' w.heap.size (Num.put n) v∧Below w.heap.size w w':=by
 obtain⟨i0,hi,hz0,hz1,hz2⟩:=info_parts info5;go_enter Tryz.func89,Tryz.ntmps89
 go_wp2
 go_loopw [0,3] (fun x v wr=> ∃(k:Nat) (pre:List Int),k≤9∧x= .int .u64 ((n / 128 ^ k:Nat):Int)∧pre.length=k∧Num.put n=pre++Num.enc (9 - k) (n / 128 ^ k)∧
   wr.ownsRow w.heap.size 5 1 v pre.length (pre.map (Value.int .u8))∧Below w.heap.size w wr)
  (fun x _ _=>(intOf x).toNat)
 case atStart=>exact⟨0,[],by omega,by simp,rfl,by simp [Num.put],World.ownsRow_nil _ _ _ _,Below.refl _ _⟩
 case round=>
  obtain⟨k,pre,hk,rfl,hpl,hput,hown,hbel⟩:=hrel;have HP:=Lib.hid hput;have HL:=Lib.hid hpl;clear hput hpl;have hlt:n / 128 ^ k<18446744073709551616:=Nat.lt_of_le_of_lt (Nat.div_le_self _ _) hn;obtain⟨q,hq⟩: ∃q,q=n / 128 ^ k:=⟨_,rfl⟩;rw[←hq] at hlt;rw[←hq];have HQ:=Lib.hid hq;clear hq;have HN:=Lib.hid hn;clear hn;have HT:=Lib.hid hlt;clear hlt;by_cases hb:q<128
  ·go_wp2_with (at_builtin;refine wpList_append_own _ rfl _ _ 39 rfl w.heap.size 5 i0 (.int .u8 0) 1 1 Tryz.underlying39 hi hz0 hz1 hz2 rfl (by decide) _ _ _ rfl (hown.alloc _) ⟨wr.heap.size,0,none⟩ 1 1 [.int .u8 (q:Int)] rfl rfl (one_new _ _ _) (ints_oneCell .u8 [(q:Int)]) (by have:=HL.out;unfold maxLen;omega) (by have:=HL.out;omega) (by have:=hbel.size;simp;omega) ?_)
   intro v' w1 hown1 hg1 _;go_wp2
   go_ret
   have hq:Num.put n=pre++ [(q:Int)]:=by rw[HP.out,←HQ.out,Num.enc_small _ _ hb]
   refine⟨_,rfl,?_,?_⟩
   ·rw[hq];simpa [Row] using hown1
   ·exact(hbel.alloc hbel.size _).grown hg1 (by have:=hbel.size;simp;omega) (fun k hk=>(hown.lt k hk).1)
  ·have ha:=Num.and127 q (by have:=HT.out;omega)
   have ho:=Num.or128 q;go_wp2_with (at_builtin;refine wpList_append_own _ rfl _ _ 39 rfl w.heap.size 5 i0 (.int .u8 0) 1 1 Tryz.underlying39 hi hz0 hz1 hz2 rfl (by decide) _ _ _ rfl (hown.alloc _) ⟨wr.heap.size,0,none⟩ 1 1 [.int .u8 ((q:Int) % 128+128)] rfl rfl (one_new _ _ _) (ints_oneCell .u8 [(q:Int) % 128+128]) (by have:=HL.out;unfold maxLen;omega) (by have:=HL.out;omega) (by have:=hbel.size;simp;omega) ?_)
   intro v' w1 hown1 hg1 _;have hbel1:=(hbel.alloc hbel.size (.cells #[.int .u8 ((q:Int) % 128+128)] 5)).grown hg1 (by have:=hbel.size;simp;omega) (fun k hk=>(hown.lt k hk).1);have h9:k<9:=by
    rcases Nat.lt_or_ge k 9 with h | h
    ·exact h
    ·exact absurd (Num.top_small n k h (HN.out)) (by rw[←HQ.out];exact hb)
   clear ha ho hown hg1 hbel;go_wp2
   go_roundw
   case rel=>
    refine⟨k+1,pre++ [(q:Int) % 128+128],by omega,?_,by rw[List.length_append,HL.out];rfl,?_,by simpa using hown1,hbel1⟩
    ·rw[Nat.pow_succ,←Nat.div_div_eq_div_mul,←HQ.out];first | rfl | go_num
    ·rw[HP.out,←HQ.out,Nat.pow_succ,←Nat.div_div_eq_div_mul,←HQ.out,show 9 - k=(9 - (k+1))+1 by omega,Num.enc_big _ _ hb]
     simp
   case measure=>simp [intOf];omega
set_option maxRecDepth 100000 in
set_option maxHeartbeats 400000 in
theorem refPut_any (f:Nat): ∀(n:Nat) (w:World),f≤9→n<128 ^ (f+1)→n<18446744073709551616→
  Calls Tryz.prog 72 #[.int .u64 (n:Int)] w fun e w'=> ∃v,e= .returned v∧Row w' w.heap.size (Num.enc f n) v∧Below w.heap.size w w':=by
 obtain⟨i0,hi,hz0,hz1,hz2⟩:=info_parts info5;induction f with
 | zero=>
  intro n w _ hn _;have hb:n<128:=by simpa using hn
  rw[Num.enc_small _ _ hb];go_enter Tryz.func72,Tryz.ntmps72
  go_wp2_with fail
  go_ret
  exact⟨_,rfl,Row.lit1 _ _,(Below.refl _ _).alloc (Nat.le_refl _) _⟩
 | succ f ih=>
  intro n w hf hn h64;by_cases hb:n<128
  ·clear hn h64 ih hf
   rw[Num.enc_small _ _ hb];go_enter Tryz.func72,Tryz.ntmps72
   go_wp2_with fail
   go_ret
   exact⟨_,rfl,Row.lit1 _ _,(Below.refl _ _).alloc (Nat.le_refl _) _⟩
  ·have hd:n / 128<128 ^ (f+1):=by rw[Nat.pow_succ] at hn;exact Nat.div_lt_of_lt_mul (by rw[Nat.mul_comm];exact hn)
   have IH:=Lib.hid (ih (n / 128) (w.alloc (.cells #[.int .u8 ((n:Int) % 128+128)] 5)) (by omega) hd (by omega));have HW:=Lib.hid (Num.wrap_div n h64);rw[Num.enc_big _ _ hb];clear ih hd hn h64;go_enter Tryz.func72,Tryz.ntmps72
   go_wp2_with fail
   rw[HW.out];refine IH.out.mono ?_;rintro e w1 ⟨v,rfl,hr,hbl⟩;obtain⟨g,cap,hv,hg,hg',hc1,hc2,hcell⟩:=hr.is (Num.enc_ne _ _);subst hv;have hlen:=Num.enc_len f (n / 128);have hlit:=(Row.lit1 w ((n:Int) % 128+128)).below hbl;have hsz:=hbl.size;generalize HE:Num.enc f (n / 128)=zs at*;have HQ:=Lib.hid HE;clear IH HE HW hcell hc1 hc2;go_wp2_with (at_builtin;go_loud (refine wpList_append_own _ rfl _ _ 39 rfl w.heap.size 5 i0 (.int .u8 0) 1 1 Tryz.underlying39 hi hz0 hz1 hz2 rfl (by decide) _ _ _ rfl hlit ⟨g,0,none⟩ zs.length cap (zs.map (Value.int .u8)) rfl (by simp) (hr.news (Below.refl _ _) rfl) (ints_oneCell .u8 zs) (by unfold maxLen;simp only[List.length_cons,List.length_nil];omega) (by simp only[List.length_cons,List.length_nil];omega) (by simp at hsz;omega) ?_))
   intro v' w2 hown2 hg2 _;go_wp2
   go_ret
   refine⟨_,rfl,?_,?_⟩
   ·rw[HQ.out]
    have e:1+zs.length=(((n % 128+128:Nat):Int)::zs).length:=by simp [Nat.add_comm]
    rw[e] at hown2;exact hown2
   ·exact(((Below.refl _ _).alloc (Nat.le_refl _) _).trans (hbl.mono (by simp))).grown hg2 (by simp at hsz;omega) (fun k hk=>by simp [Value.ownBlock] at hk;omega)
end Go.Proofs.YtalfbcbnljhldaaGreatDoor

namespace Go.Proofs.YtalfbcbnljhldaaGreatDoor
open Go.RowKit
def cat (L:Nat→List Int):Nat→List Int
 | 0=> []
 | k+1=>cat L k++L k
theorem cat_le (L:Nat→List Int) {k n:Nat} (h:k≤n):(cat L k).length≤(cat L n).length:=by
 induction n with
 | zero=>have:k=0:=by omega
         subst this;exact Nat.le_refl _
 | succ n ih=>
  rcases Nat.lt_or_ge k (n+1) with h' | h'
  ·have:=ih (by omega);simp only[cat,List.length_append];omega
  ·have:k=n+1:=by omega
   subst this;exact Nat.le_refl _
structure Parts (w:World) (g n:Nat) (A:Nat→Option Addr) (L:Nat→List Int) (C:Nat→Nat):Prop where
 cell: ∀k,k<n→w.cell? ⟨g,k,none⟩=some (.slice (A k) (L k).length (C k))
 nil: ∀k,k<n→A k=none→(L k).length=0∧C k=0
 reads: ∀k,k<n→ ∀ad,A k=some ad→ ∀j u,((L k).map (Value.int .u8))[j]?=some u→w.cell? (ad.add j)=some u
theorem block_of_add (a:Addr) (n:Nat):(a.add n).block=a.block:=by unfold Addr.add;split<;>rfl
theorem Parts.below {w w':World} {g n:Nat} {A:Nat→Option Addr} {L:Nat→List Int} {C:Nat→Nat} (h:Parts w g n A L C) (hb:Below w.heap.size w w'):Parts w' g n A L C:=
 ⟨fun k hk=>(hb.cell (World.block_lt_of_cell? w _ (h.cell k hk))).trans (h.cell k hk),h.nil,
  fun k hk ad ha j u hu=>(hb.cell (World.block_lt_of_cell? w _ (h.reads k hk ad ha j u hu))).trans (h.reads k hk ad ha j u hu)⟩
set_option maxRecDepth 100000 in
set_option maxHeartbeats 1000000 in
theorem join_any (g n c:Nat) (A:Nat→Option Addr) (L:Nat→List Int) (C:Nat→Nat) (w:World) (hp:Parts w g n A L C) (hn:n≤1000000) (hlen:(cat L n).length≤1000000):
  Calls Tryz.prog 88 #[.slice (some ⟨g,0,none⟩) n c] w fun e w'=> ∃g' c',e= .returned (.slice (some ⟨g',0,none⟩) (cat L n).length c')∧Row w' w.heap.size (cat L n) (.slice (some ⟨g',0,none⟩) (cat L n).length c')∧Below w.heap.size w w':=by
 obtain⟨i0,hi,hz0,hz1,hz2⟩:=info_parts info5;have HP:=Lib.hid hp;clear hp;go_enter Tryz.func88,Tryz.ntmps88
 go_wp2
 go_loop [3,11] (fun a i=> ∃k:Nat,k≤n∧i= .int .i64 k∧a= .int .i64 ((cat L k).length:Nat)) (fun _ i=>n - (intOf i).toNat)
 case atStart=>exact⟨0,Nat.zero_le _,rfl,rfl⟩
 case round=>
  obtain⟨k,hk,rfl,rfl⟩:=hrel;have hl1:=cat_le L hk;by_cases hlt:k<n
  ·have hcell:=HP.out.cell k hlt
   have hl2:=cat_le L (show k+1≤n by omega);have e:(cat L (k+1)).length=(cat L k).length+(L k).length:=by simp [cat]
   have HE:=Lib.hid e;rw[e] at hl2;clear e;go_wp2
   go_round
   case rel=>exact⟨k+1,by omega,by go_num,by rw[HE.out];go_num⟩
   case measure=>simp [intOf];omega
  ·obtain rfl:k=n:=by omega
   go_wp2_with (at_make;go_loud (refine wpList_make_own _ rfl _ _ 39 rfl w.heap.size 5 i0 (.int .u8 0) 1 Tryz.underlying39 hi hz0 hz1 _ _ _ (cat L k).length rfl rfl (by omega) (by rw[hz2];omega) (by unfold maxLen;omega) (Nat.le_refl _) ?_))
   intro w1 hown1 hg1;have hb1:Below w.heap.size w w1:=(Below.refl _ _).grown hg1 (Nat.le_refl _) (fun k hk=>by cases hk);clear hg1;go_wp2
   go_loopw [6,24] (fun v i wr=> ∃m:Nat,m≤k∧i= .int .i64 m∧v= .slice (some ⟨w.heap.size,0,none⟩) (cat L m).length (cat L k).length∧
     wr.ownsRow w.heap.size 5 1 (.slice (some ⟨w.heap.size,0,none⟩) (cat L m).length (cat L k).length) (cat L m).length ((cat L m).map (Value.int .u8))∧Below w.heap.size w wr)
    (fun _ i _=>k - (intOf i).toNat)
   case atStart=>exact⟨0,Nat.zero_le _,rfl,rfl,hown1,hb1⟩
   case round=>
    obtain⟨m,hm,rfl,rfl,hown,hbel⟩:=hrel;clear hown1 hb1;have hl1:=cat_le L hm;by_cases hlt:m<k
    ·have hcell:=(HP.out.below hbel).cell m hlt
     have hl2:=cat_le L (show m+1≤k by omega);have e:(cat L (m+1)).length=(cat L m).length+(L m).length:=by simp [cat]
     have HE:=Lib.hid e;rw[e] at hl2;clear e;go_wp2_with (at_builtin;go_loud (refine wpList_append_fits_any _ rfl _ _ 39 rfl w.heap.size 5 i0 1 Tryz.underlying39 hi hz1 w.heap.size (cat L m).length (cat L k).length _ rfl hown (A m) (L m).length (C m) ((L m).map (Value.int .u8)) rfl (by simp) (fun h=>HP.out.nil m hlt h) ((HP.out.below hbel).reads m hlt) (ints_oneCell .u8 (L m)) (by omega) ?_))
     intro w2 hown2 hg2;have hb2:Below w.heap.size w w2:=hbel.grown hg2 hbel.size (fun k hk=>by cases hk;exact Nat.le_refl _);clear hg2 hown hbel hcell;go_wp2
     go_roundw
     case rel=>
      refine⟨m+1,by omega,by go_num,by rw[HE.out],?_,hb2⟩;rw[HE.out];simpa [cat] using hown2
     case measure=>simp [intOf];omega
    ·obtain rfl:m=k:=by omega
     go_wp2
     go_ret
     exact⟨_,_,rfl,hown,hbel⟩
end Go.Proofs.YtalfbcbnljhldaaGreatDoor

namespace Go.Proofs.YtalfbcbnljhldaaGreatDoor
open Go.RowKit
def bl (s:ByteArray):List Int:=s.data.toList.map fun b=>(b.toNat:Int)
theorem bl_len (s:ByteArray):(bl s).length=s.size:=by simp [bl]
theorem below_bytes (w:World) (e:TypeId) (s:ByteArray):Below w.heap.size w (Lib.bytesWorld w e s):=
 ⟨rfl,rfl,rfl,by rw[Lib.bytesWorld_size];omega,fun k hk=>Lib.bytesWorld_at_old w e s k hk⟩
theorem bytes_reads (w:World) (e:TypeId) (s:ByteArray): ∀j u,((bl s).map (Value.int .u8))[j]?=some u→(Lib.bytesWorld w e s).cell? ((⟨w.heap.size,0,none⟩:Addr).add j)=some u:=by
 intro j u hu;have hj:j<s.size:=by
  have:=(List.getElem?_eq_some_iff.1 hu).1;simpa [bl] using this
 have ha:(⟨w.heap.size,0,none⟩:Addr).add j=⟨w.heap.size,j,none⟩:=by unfold Addr.add;split<;>simp_all
 rw[ha,Lib.bytesWorld_cell w e s j hj,←hu];simp [bl,List.getD,hj]
theorem parts_two (W:World) (g:Nat) (T:TypeId) (a0 a1:Option Addr) (l0 l1:List Int) (c0 c1:Nat)
  (hg:W.heap[g]?=some (.cells #[.slice a0 l0.length c0,.slice a1 l1.length c1] T (0,0)))
  (n0:a0=none→l0.length=0∧c0=0) (n1:a1=none→l1.length=0∧c1=0)
  (r0: ∀ad,a0=some ad→ ∀j u,(l0.map (Value.int .u8))[j]?=some u→W.cell? (ad.add j)=some u)
  (r1: ∀ad,a1=some ad→ ∀j u,(l1.map (Value.int .u8))[j]?=some u→W.cell? (ad.add j)=some u):
  Parts W g 2 (fun k=>if k=0 then a0 else a1) (fun k=>if k=0 then l0 else l1) (fun k=>if k=0 then c0 else c1):=by
 refine⟨fun k hk=>?_,fun k hk h=>?_,fun k hk ad h=>?_⟩
 ·rw[cell_of_row W g k _ T (0,0) hg]
  rcases(show k=0∨k=1 by omega) with rfl | rfl<;>simp
 ·rcases(show k=0∨k=1 by omega) with rfl | rfl
  ·exact n0 h
  ·exact n1 h
 ·rcases(show k=0∨k=1 by omega) with rfl | rfl
  ·exact r0 ad h
  ·exact r1 ad h
set_option maxRecDepth 100000 in
set_option maxHeartbeats 1000000 in
theorem putText_any (s:ByteArray) (hs:s.size≤4096) (w:World):
  Calls Tryz.prog 87 #[.string s] w fun e w'=> ∃v,e= .returned (.tuple #[v,.int .i64 0])∧Row w' w.heap.size (Num.put s.size++bl s) v∧Below w.heap.size w w':=by
 have hcv:=fun W:World=>Lib.run_convert_string_bytes (P:=Tryz.prog) W 9 39 5 s Tryz.underlying9 Tryz.underlying39 Tryz.underlying5;go_enter Tryz.func87,Tryz.ntmps87
 go_wp2_with fail
 refine(put_any s.size (by omega) w).mono ?_;rintro e w1 ⟨v,rfl,hr,hb⟩;have hlen:=Num.put_len s.size;obtain⟨g,cap,rfl,hg0,hg1,_,_,_⟩:=hr.is (Num.enc_ne _ _);go_wp2_with fail
 have hb1:=below_bytes w1 5 s;have hz1:=Lib.bytesWorld_size w1 5 s
 have hb2:Below w1.heap.size w1 ((Lib.bytesWorld w1 5 s).alloc (.cells #[.slice (some ⟨g,0,none⟩) (Num.put s.size).length cap,.slice (some ⟨w1.heap.size,0,none⟩) s.size (grownCap w1 s.size 0 5)] 39)):=
  hb1.alloc (by omega) _
 have hP:=parts_two ((Lib.bytesWorld w1 5 s).alloc (.cells #[.slice (some ⟨g,0,none⟩) (Num.put s.size).length cap,.slice (some ⟨w1.heap.size,0,none⟩) s.size (grownCap w1 s.size 0 5)] 39))
  (Lib.bytesWorld w1 5 s).heap.size 39 (some ⟨g,0,none⟩) (some ⟨w1.heap.size,0,none⟩) (Num.put s.size) (bl s) cap (grownCap w1 s.size 0 5)
  (by rw[bl_len];exact heap_alloc_new _ _) (fun h=>by cases h) (fun h=>by cases h)
  (fun ad h=>by cases h;exact hr.news hb2 rfl)
  (fun ad h j u hu=>by cases h;exact(World.cell?_alloc_lt _ _ _ (by rw[block_of_add,hz1];exact Nat.lt_succ_self _)).trans (bytes_reads w1 5 s j u hu))
 have hbig:(cat (fun k=>if k=0 then Num.put s.size else bl s) 2).length≤1000000:=by
  simp only[cat,List.nil_append,List.length_append];have:=bl_len s;simp;omega
 refine(join_any _ 2 2 _ _ _ _ hP (by omega) hbig).mono ?_;rintro e w2 ⟨g2,c2,rfl,hr2,hb3⟩;have hcat:cat (fun k=>if k=0 then Num.put s.size else bl s) 2=Num.put s.size++bl s:=by simp [cat]
 rw[hcat] at hr2;have hsz:((Lib.bytesWorld w1 5 s).alloc (.cells #[.slice (some ⟨g,0,none⟩) (Num.put s.size).length cap,.slice (some ⟨w1.heap.size,0,none⟩) s.size (grownCap w1 s.size 0 5)] 39)).heap.size=w1.heap.size+2:=by simp [hz1]
 have hbz:=hb.size;have HB:=Lib.hid ((hb.trans (hb2.mono hbz)).trans (hb3.mono (by omega)));have HR:=Lib.hid (hr2.less (B':=w.heap.size) (by omega));have HC:=Lib.hid hcat;clear hcat hr2 hb3 hP hbig hb2 hb1 hz1 hsz hb hr hcv;go_wp2
 go_ret2
 rw[HC.out] at*;exact⟨_,rfl,HR.out,HB.out⟩
set_option maxRecDepth 100000 in
set_option maxHeartbeats 1000000 in
theorem refPutText_any (s:ByteArray) (hs:s.size≤4096) (w:World):
  Calls Tryz.prog 67 #[.string s] w fun e w'=> ∃v,e= .returned (.tuple #[v,.int .i64 0])∧Row w' w.heap.size (Num.put s.size++bl s) v∧Below w.heap.size w w':=by
 obtain⟨i0,hi,hz0,hz1,hz2⟩:=info_parts info5;have hcv:=fun W:World=>Lib.run_convert_string_bytes (P:=Tryz.prog) W 9 39 5 s Tryz.underlying9 Tryz.underlying39 Tryz.underlying5;go_enter Tryz.func67,Tryz.ntmps67
 go_wp2_with fail
 refine(refPut_any 9 s.size w (by omega) (Nat.lt_of_le_of_lt hs (by decide)) (by omega)).mono ?_;rintro e w1 ⟨v,rfl,hr,hb⟩;have hlen:=Num.put_len s.size;have hr':Row w1 w.heap.size (Num.put s.size) v:=hr;clear hr;obtain⟨g,cap,rfl,hg0,hg1,_,_,_⟩:=hr'.is (Num.enc_ne _ _);have hb1:=below_bytes w1 5 s;have hzz:=Lib.bytesWorld_size w1 5 s;have hbl:=bl_len s;have hown:=hr'.below hb1;have HZ:=Lib.hid hzz;have HL:=Lib.hid hbl;have hbz:=hb.size;clear hzz hbl;go_wp2_with (at_builtin;go_loud (refine wpList_append_own _ rfl _ _ 39 rfl w.heap.size 5 i0 (.int .u8 0) 1 1 Tryz.underlying39 hi hz0 hz1 hz2 rfl (by decide) _ _ _ rfl hown ⟨w1.heap.size,0,none⟩ s.size (grownCap w1 s.size 0 5) ((bl s).map (Value.int .u8)) rfl (by rw[List.length_map,HL.out];omega) (bytes_reads w1 5 s) (ints_oneCell .u8 _) (by unfold maxLen;omega) (by omega) (by rw[HZ.out];omega) ?_))
 intro v2 w2 hown2 hg2 _;have HB:=Lib.hid ((hb.trans (hb1.mono hbz)).grown hg2 (by rw[HZ.out];omega) (fun k hk=>by cases hk;exact hg0));have HR:Hid (Row w2 w.heap.size (Num.put s.size++bl s) v2):=by
  show w2.ownsRow _ _ _ _ _ _;rw[List.length_append,HL.out,List.map_append];exact hown2
 clear hown2 hg2 hown hb1 hb hr' hcv;go_wp2
 go_ret2
 exact⟨_,rfl,HR.out,HB.out⟩
end Go.Proofs.YtalfbcbnljhldaaGreatDoor

namespace Go.Proofs.YtalfbcbnljhldaaGreatDoor
open Go.RowKit
theorem and1_odd (x:Nat) (hx:x<4294967296) (h:x.testBit 0=true):bits .and .u32 (x:Int) 1=1:=by
 rw[show(1:Int)=((1:Nat):Int) by rfl,u32_and_nat x 1 hx (by decide),Nat.and_one_is_mod];rw[Nat.testBit_zero] at h;simp at h;rw[h]
theorem and1_even (x:Nat) (hx:x<4294967296) (h:x.testBit 0=false):bits .and .u32 (x:Int) 1=0:=by
 rw[show(1:Int)=((1:Nat):Int) by rfl,u32_and_nat x 1 hx (by decide),Nat.and_one_is_mod];rw[Nat.testBit_zero] at h;simp at h;rw[h];rfl
theorem xor_odd (x:Nat) (hx:x<4294967296) (h:x.testBit 0=true):bits .xor .u32 ((x:Int) / 2) 2197175160=((Crc.step x:Nat):Int):=by
 have:=u32_xor_nat (x / 2) 2197175160 (by omega) (by decide);rw[show((x:Int) / 2)=((x / 2:Nat):Int) by omega];refine this.trans ?_;unfold Crc.step;rw[if_pos h];rfl
theorem step_even (x:Nat) (h:x.testBit 0=false):(x:Int) / 2=((Crc.step x:Nat):Int):=by
 unfold Crc.step;rw[if_neg (by simp [h]),Nat.xor_zero];omega
set_option maxHeartbeats 400000 in
theorem div_any (c x:Nat) (w:World) (hx:x<4294967296) (hn:w.heap[c]?=some (.cells #[.int .u32 (x:Int)] 122 (0,0))):
  Calls Tryz.prog 157 #[.pointer (some ⟨c,0,none⟩)] w fun e w'=>e= .returned (.tuple #[])∧Below c w w'∧w'.heap[c]?=some (.cells #[.int .u32 (Crc.step x:Int)] 122 (0,0))∧w'.heap[c+1]?=w.heap[c+1]?:=by
 have c1:=cell_of_one hn;have c2:=free_of_one hn;cases hb:x.testBit 0 with
 | true=>
  have ha:=and1_odd x hx hb;go_enter Tryz.func157,Tryz.ntmps157
  go_wp2
  go_end0
  rw[xor_odd x hx hb];exact⟨rfl,((Below.refl c w).setCell (p:=⟨c,0,none⟩) (Nat.le_refl _) _).setCell (p:=⟨c,0,none⟩) (Nat.le_refl _) _,one_setCell (one_setCell hn),(heap_setCell_other _ _ _ _ (by show _≠c;omega)).trans (heap_setCell_other _ _ _ _ (by show _≠c;omega))⟩
 | false=>
  have ha:=and1_even x hx hb;go_enter Tryz.func157,Tryz.ntmps157
  go_wp2
  go_end0
  rw[←step_even x hb];exact⟨rfl,(Below.refl c w).setCell (p:=⟨c,0,none⟩) (Nat.le_refl _) _,one_setCell hn,heap_setCell_other _ _ _ _ (by show _≠c;omega)⟩
def tbl (k:Nat):List Value:=(List.range 16).map fun n=> .int .u32 (if n<k then(Crc.steps 4 n:Int) else 0)
theorem tbl_size (k:Nat):(tbl k).toArray.size=16:=by simp [tbl]
theorem tbl_next (k:Nat):(tbl k).toArray.setIfInBounds k (.int .u32 (Crc.steps 4 k:Int))=(tbl (k+1)).toArray:=by
 rw[List.setIfInBounds_toArray];congr 1
 apply List.ext_getElem
 ·simp [tbl]
 ·intro i h1 h2
  have hi:i<16:=by simpa [tbl] using h2
  rw[List.getElem_set];by_cases h:k=i
  ·subst h
   simp [tbl]
  ·rw[if_neg h]
   by_cases h3:i<k
   ·simp [tbl,h3,show i<k+1 by omega]
   ·simp [tbl,h3,show¬i<k+1 by omega]
theorem tbl_one:(tbl 16).toArray.all (·.oneCell')=true:=by kernel_rfl
theorem zeros_tbl:(#[.int .u32 0,.int .u32 0,.int .u32 0,.int .u32 0,.int .u32 0,.int .u32 0,.int .u32 0,.int .u32 0,.int .u32 0,.int .u32 0,.int .u32 0,.int .u32 0,.int .u32 0,.int .u32 0,.int .u32 0,.int .u32 0]:Array Value)=(tbl 0).toArray:=by kernel_rfl
theorem below_setRow {B g:Nat} {w wr:World} (h:Below B w wr) (hg:B≤g) (cs:Array Value):Below B w (wr.setRow g cs):=
 ⟨h.os,h.tape,h.output,by rw[size_setRow];exact h.size,fun k hk=>(setRow_other wr g k cs (by omega)).trans (h.block k hk)⟩
structure Rem (w wr:World) (x:Nat) (k:Nat):Prop where
 bel:Below w.heap.size w wr
 r0:wr.heap[w.heap.size]?=some (.cells (tbl 0).toArray 205 (0,0))
 r1:wr.heap[w.heap.size+1]?=some (.cells #[.int .u32 (x:Int)] 122 (0,0))
 r2:wr.heap[w.heap.size+1+1]?=some (.cells (tbl k).toArray 205 (0,0))
theorem Rem.start (w:World):Rem w (((w.alloc (.cells (tbl 0).toArray 205)).alloc (.cells #[.int .u32 0] 122)).alloc (.cells (tbl 0).toArray 205)) 0 0:=by
 refine⟨(((Below.refl _ _).alloc (Nat.le_refl _) _).alloc (by simp) _).alloc (by simp;omega) _,?_,?_,?_⟩
 ·rw[Below.heap_alloc _ _ _ (by simp;omega)];exact heap_alloc2_old w _ _
 ·rw[Below.heap_alloc _ _ _ (by simp)];exact heap_alloc2_new w _ _
 ·have:=heap_alloc_new ((w.alloc (.cells (tbl 0).toArray 205)).alloc (.cells #[.int .u32 0] 122)) (.cells (tbl 0).toArray 205)
  simpa using this
theorem Rem.left {w wr:World} {x k:Nat} (h:Rem w wr x k) (y:Nat):Rem w (wr.setCell ⟨w.heap.size+1,0,none⟩ (.int .u32 (y:Int))) y k:=
 ⟨h.bel.setCell (p:=⟨w.heap.size+1,0,none⟩) (by show _≤w.heap.size+1;omega) _,(heap_setCell_other _ _ _ _ (by show _≠w.heap.size+1;omega)).trans h.r0,one_setCell h.r1,
  (heap_setCell_other _ _ _ _ (by show _≠w.heap.size+1;omega)).trans h.r2⟩
theorem Rem.row {w wr:World} {k:Nat} (h:Rem w wr (Crc.steps 4 k) k):Rem w (wr.setCell ⟨w.heap.size+1+1,k,none⟩ (.int .u32 (Crc.steps 4 k:Int))) (Crc.steps 4 k) (k+1):=
 ⟨h.bel.setCell (p:=⟨w.heap.size+1+1,k,none⟩) (by show _≤w.heap.size+1+1;omega) _,(heap_setCell_other _ _ _ _ (by show _≠w.heap.size+1+1;omega)).trans h.r0,
  (heap_setCell_other _ _ _ _ (by show _≠w.heap.size+1+1;omega)).trans h.r1,by rw[heap_setCell_same _ _ _ _ _ _ h.r2,tbl_next k]⟩
theorem Rem.div {w wr w1:World} {x k:Nat} (h:Rem w wr x k) (hb:Below (w.heap.size+1) wr w1) (h1:w1.heap[w.heap.size+1]?=some (.cells #[.int .u32 (Crc.step x:Int)] 122 (0,0)))
  (h2:w1.heap[w.heap.size+1+1]?=wr.heap[w.heap.size+1+1]?):Rem w w1 (Crc.step x) k:=
 ⟨h.bel.trans (hb.mono (by omega)),(hb.block _ (by omega)).trans h.r0,h1,h2.trans h.r2⟩
set_option maxRecDepth 100000 in
set_option maxHeartbeats 1000000 in
theorem remainders_any (w:World):
  Calls Tryz.prog 144 #[] w fun e w'=>e= .returned (.agg (tbl 16).toArray)∧Below w.heap.size w w':=by
 go_enter Tryz.func144,Tryz.ntmps144
 go_wp2
 rw[zeros_tbl];go_loopw [6] (fun n wr=> ∃k x:Nat,k≤16∧n= .int .i64 (k:Int)∧Rem w wr x k) (fun n _=>16 - (intOf n).toNat)
 case atStart=>exact⟨0,0,by omega,rfl,Rem.start w⟩
 case round=>
  obtain⟨k,x,hk,rfl,hrem⟩:=hrel;by_cases h16:k=16
  ·subst h16
   have hr2:=hrem.r2;have hr0:=hrem.r0;go_wp2_with (first | (refine wpList_load_row rfl 205 _ rfl (w.heap.size+1+1) rfl 205 (tbl 16).toArray (0,0) _ hr2 Tryz.underlying205 rfl (by rw[tbl_size];kernel_rfl) ?_) | (refine wpList_store_row rfl 205 _ _ rfl w.heap.size (tbl 16).toArray rfl rfl 205 (tbl 0).toArray hr0 (by rw[tbl_size];kernel_rfl) rfl tbl_one ?_))
   refine bodyPost_ret (v:= .agg (tbl 16).toArray) (results_cell_row rfl _ _ w.heap.size 205 (tbl 16).toArray (0,0) _ rfl (setRow_heap _ _ _ _ _ _ hr0) Tryz.underlying205 rfl (by rw[tbl_size];kernel_rfl)) rfl ⟨rfl,below_setRow hrem.bel (Nat.le_refl _) _⟩
  ·have hlt:k<16:=by omega
   have hd:decide ((k:Int)<16)=true:=by simp;omega
   have c1:=cell_of_one hrem.r1;have c2:=free_of_one hrem.r1;go_wp2
   go_loopw [11] (fun j wq=> ∃i:Nat,i≤4∧j= .int .i64 (i:Int)∧Rem w wq (Crc.steps i k) k) (fun j _=>4 - (intOf j).toNat)
   case atStart=>exact⟨0,by omega,rfl,hrem.left k⟩
   case round=>
    obtain⟨i,hi,rfl,hq⟩:=hrel;by_cases h4:i=4
    ·subst h4
     have c1:=cell_of_one hq.r1;have c3:=cell_of_row _ (w.heap.size+1+1) k _ _ _ hq.r2;have c4:=frozen_of_row _ (w.heap.size+1+1) k _ _ hq.r2;rw[List.getElem?_toArray,List.getElem?_eq_getElem (by simpa [tbl] using hlt)] at c3;go_wp2
     go_roundw
     case rel=>exact⟨k+1,_,by omega,by go_num,hq.row⟩
     case measure=>simp [intOf];omega
    ·have hi4:i<4:=by omega
     go_wp2_with fail
     refine(div_any _ (Crc.steps i k) _ (Crc.steps_lt (by omega) i) hq.r1).mono ?_;rintro e w1 ⟨rfl,hb1,h1,h2⟩;have hq1:=hq.div hb1 h1 h2;clear hb1 h1 h2;go_wp2_with fail
     go_roundw
     case rel=>exact⟨i+1,by omega,by go_num,hq1⟩
     case measure=>simp [intOf];omega
end Go.Proofs.YtalfbcbnljhldaaGreatDoor
