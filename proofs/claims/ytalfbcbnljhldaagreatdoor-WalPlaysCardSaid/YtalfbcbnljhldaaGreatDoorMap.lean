/-  -/
import Derived.Test.YtalfbcbnljhldaaGreatDoorMao
import Derived.Test.YtalfbcbnljhldaaGreatDoorMad
import Derived.Test.YtalfbcbnljhldaaGreatDoorMab
import Derived.Laws.Strings
namespace Go.Proofs.YtalfbcbnljhldaaGreatDoor
open Go.RowKit
theorem not_u32 (c:Nat) (hc:c<4294967296):bits .xor .u32 IntKind.u32.max (c:Int)=((Crc.M ^^^ c:Nat):Int):=u32_xor_nat 4294967295 c (by decide) hc
theorem tbl_at (k:Nat) (hk:k<16):(tbl 16)[k]?=some (.int .u32 (Crc.steps 4 k:Int)):=by
 simp [tbl,hk]
theorem half_xor (y:Nat) (hy:y<4294967296):bits .xor .u32 ((y:Int) / 16) (Crc.steps 4 (y % 16):Int)=((Crc.steps 4 y:Nat):Int):=by
 rw[show((y:Int) / 16)=((y / 16:Nat):Int) by omega,u32_xor_nat _ _ (by omega) (Crc.steps_lt (by omega) 4),←Crc.steps_half]
set_option maxRecDepth 100000 in
set_option maxHeartbeats 1000000 in
theorem on_some (c:Nat) (hc:c<4294967296) (x:Addr) (cap:Nat) (zs:List Int) (w:World) (hp:Reads w (some x) zs):
  Calls Tryz.prog 120 #[.int .u32 (c:Int),.slice (some x) zs.length cap] w fun e w'=>e= .returned (.int .u32 (Crc.on c zs:Int))∧Below w.heap.size w w':=by
 have hn:=not_u32 c hc;have hl:=hp.hl;have HP:=Lib.hid hp;clear hp;go_enter Tryz.func120,Tryz.ntmps120
 go_wp2_with fail
 refine(remainders_any _).mono ?_;rintro e w1 ⟨rfl,hb1⟩;have hnew:=heap_alloc_new w1 (.cells (tbl 0).toArray 205);go_wp2_with (refine wpList_store_row rfl 205 _ _ rfl w1.heap.size (tbl 16).toArray rfl rfl 205 (tbl 0).toArray hnew (by rw[tbl_size];kernel_rfl) rfl tbl_one ?_)
 rw[zeros_tbl];have hrow:((w1.alloc (.cells (tbl 0).toArray 205)).setRow w1.heap.size (tbl 16).toArray).heap[w1.heap.size]?=some (.cells (tbl 16).toArray 205 (0,0)):=setRow_heap _ _ _ _ _ _ hnew;have hbel:Below w.heap.size w ((w1.alloc (.cells (tbl 0).toArray 205)).setRow w1.heap.size (tbl 16).toArray):=below_setRow (hb1.alloc hb1.size _) hb1.size _;generalize (w1.alloc (.cells (tbl 0).toArray 205)).setRow w1.heap.size (tbl 16).toArray=W at*;generalize w1.heap.size=g at*;have HN:=Lib.hid (HP.out.below hbel);clear hnew hb1 HP hn;have HR:=Lib.hid hrow;clear hrow;go_loop [6,14] (fun v i=> ∃k:Nat,k≤zs.length∧i= .int .i64 (k:Int)∧v= .int .u32 (Crc.L (Crc.M ^^^ c) (Crc.raw zs) (8*k):Int)) (fun _ i=>zs.length - (intOf i).toNat)
 case atStart=>exact⟨0,by omega,rfl,rfl⟩
 case round=>
  obtain⟨k,hk,rfl,rfl⟩:=hrel;have hL:=Crc.L_lt (Crc.xor_lt Crc.M_lt hc) (Crc.raw zs) (8*k);generalize hy:Crc.L (Crc.M ^^^ c) (Crc.raw zs) (8*k)=y at hL;have HY:=Lib.hid hy;clear hy;by_cases hlt:k<zs.length
  ·have hcell:=HN.out.at hlt
   have hz:=HN.out.range k;obtain⟨z,hzz⟩: ∃z:Nat,zs.getD k 0=z:=⟨(zs.getD k 0).toNat,by omega⟩;rw[hzz] at hcell hz;have hx:=u32_xor_nat y z hL (by omega);have HZ:=Lib.hid hzz;clear hzz;have hd:decide ((k:Int)<(zs.length:Int))=true:=by simp;omega
   have hlY:=Crc.xor_lt hL (show z<4294967296 by omega);go_wp2
   generalize hY:y ^^^ z=Y at*;have HX:=Lib.hid hY;clear hY hx;go_loop [6,22] (fun v j=> ∃i:Nat,i≤2∧j= .int .i64 (i:Int)∧v= .int .u32 (Crc.steps (4*i) Y:Int)) (fun _ j=>2 - (intOf j).toNat)
   case atStart=>exact⟨0,by omega,rfl,rfl⟩
   case round=>
    obtain⟨i,hi,rfl,rfl⟩:=hrel;have hS:=Crc.steps_lt hlY (4*i);generalize hs:Crc.steps (4*i) Y=q at hS;have HS:=Lib.hid hs;clear hs;by_cases h2:i=2
    ·subst h2
     go_wp2
     go_round
     case rel=>exact⟨k+1,by omega,by go_num,by rw[Crc.L_byte _ _ _ (HN.out.range k),HY.out,HZ.out,Int.toNat_natCast,HX.out,←HS.out]⟩
     case measure=>simp [intOf];omega
    ·have hi2:i<2:=by omega
     have ht:=half_xor q hS;have hm:q % 16<16:=Nat.mod_lt _ (by decide);have hc4:=cell_of_row _ g (q % 16) _ _ _ HR.out;rw[List.getElem?_toArray,tbl_at _ hm] at hc4;go_wp2
     go_round
     case rel=>exact⟨i+1,by omega,by go_num,by rw[show 4*(i+1)=4*i+4 by omega,Crc.steps_add,HS.out]⟩
     case measure=>simp [intOf];omega
  ·have hv:bits .xor .u32 IntKind.u32.max (y:Int)=((Crc.M ^^^ y:Nat):Int):=not_u32 y hL
   go_wp2
   go_ret
   refine⟨?_,hbel⟩;rw[←HY.out,show k=zs.length by omega];rfl
end Go.Proofs.YtalfbcbnljhldaaGreatDoor

namespace Go.Proofs.YtalfbcbnljhldaaGreatDoor
open Go.RowKit
set_option maxRecDepth 100000 in
set_option maxHeartbeats 1000000 in
theorem on_none (c:Nat) (hc:c<4294967296) (cap:Nat) (w:World):
  Calls Tryz.prog 120 #[.int .u32 (c:Int),.slice none 0 cap] w fun e w'=>e= .returned (.int .u32 (Crc.on c []:Int))∧Below w.heap.size w w':=by
 have hn:=not_u32 c hc;have hv:bits .xor .u32 IntKind.u32.max ((Crc.M ^^^ c:Nat):Int)=((Crc.M ^^^ (Crc.M ^^^ c):Nat):Int):=not_u32 _ (Crc.xor_lt Crc.M_lt hc);go_enter Tryz.func120,Tryz.ntmps120
 go_wp2_with fail
 refine(remainders_any _).mono ?_;rintro e w1 ⟨rfl,hb1⟩;have hnew:=heap_alloc_new w1 (.cells (tbl 0).toArray 205);go_wp2_with (refine wpList_store_row rfl 205 _ _ rfl w1.heap.size (tbl 16).toArray rfl rfl 205 (tbl 0).toArray hnew (by rw[tbl_size];kernel_rfl) rfl tbl_one ?_)
 rw[zeros_tbl];have hbel:Below w.heap.size w ((w1.alloc (.cells (tbl 0).toArray 205)).setRow w1.heap.size (tbl 16).toArray):=below_setRow (hb1.alloc hb1.size _) hb1.size _;generalize (w1.alloc (.cells (tbl 0).toArray 205)).setRow w1.heap.size (tbl 16).toArray=W at*;generalize w1.heap.size=g at*;clear hnew hb1 hn;go_loop [6,14] (fun v i=>i= .int .i64 0∧v= .int .u32 ((Crc.M ^^^ c:Nat):Int)) (fun _ i=>(intOf i).toNat)
 case atStart=>exact⟨rfl,rfl⟩
 case round=>
  obtain⟨rfl,rfl⟩:=hrel;go_wp2
  go_ret
  exact⟨rfl,hbel⟩
theorem on_any (c:Nat) (hc:c<4294967296) (a:Option Addr) (len cap:Nat) (zs:List Int) (w:World) (hz:len=zs.length) (hp:Reads w a zs):
  Calls Tryz.prog 120 #[.int .u32 (c:Int),.slice a len cap] w fun e w'=>e= .returned (.int .u32 (Crc.on c zs:Int))∧Below w.heap.size w w':=by
 subst hz;cases a with
 | some x=>exact on_some c hc x cap zs w hp
 | none=>
  cases zs with
  | nil=>exact on_none c hc cap w
  | cons z zs=>
   obtain⟨x,hx,_⟩:=hp.cell 0 (by simp);cases hx
set_option maxHeartbeats 400000 in
theorem of_any (a:Option Addr) (len cap:Nat) (zs:List Int) (w:World) (hz:len=zs.length) (hp:Reads w a zs):
  Calls Tryz.prog 108 #[.slice a len cap] w fun e w'=>e= .returned (.int .u32 (Crc.crc zs:Int))∧Below w.heap.size w w':=by
 have H:=Lib.hid (on_any 0 (by decide) a len cap zs w hz hp);clear hz hp;go_enter Tryz.func108,Tryz.ntmps108
 go_wp2_with fail
 refine H.out.mono ?_;rintro e w1 ⟨rfl,hb1⟩;clear H;go_wp2_with fail
 go_ret
 exact⟨by rw[Crc.on_zero];rfl,hb1⟩
theorem or_turn (x:Nat) (hx:x<4294967296):bits .or .u32 ((x:Int)*131072 % 4294967296) ((x:Int) / 32768)=((x / 32768+x % 32768*131072:Nat):Int):=by
 have e1:((x:Int)*131072 % 4294967296)=((x % 32768*131072:Nat):Int):=by omega
 have e2:((x:Int) / 32768)=((x / 32768:Nat):Int):=by omega
 rw[e1,e2,u32_or_nat _ _ (by omega) (by omega)];congr 1
 have h:=Nat.two_pow_add_eq_or_of_lt (i:=17) (b:=x / 32768) (by omega) (x % 32768);rw[show x % 32768*131072=2 ^ 17*(x % 32768) by omega,←h];omega
set_option maxHeartbeats 400000 in
theorem turn_any (c:Nat) (hc:c<4294967296) (w:World):
  Calls Tryz.prog 107 #[.int .u32 (c:Int),.int .i64 (-15)] w fun e w'=>e= .returned (.int .u32 ((c / 32768+c % 32768*131072:Nat):Int))∧w=w':=by
 have ho:=or_turn c hc;have ha:bits .and .u64 (IntKind.u64.wrap (-15)) 31=17:=by decide
 go_enter Tryz.func107,Tryz.ntmps107
 go_wp2
 go_ret
 exact⟨rfl,rfl⟩
set_option maxHeartbeats 400000 in
theorem masked_any (a:Option Addr) (len cap:Nat) (zs:List Int) (w:World) (hz:len=zs.length) (hp:Reads w a zs):
  Calls Tryz.prog 91 #[.slice a len cap] w fun e w'=>e= .returned (.int .u32 (Crc.mask (Crc.crc zs):Int))∧Below w.heap.size w w':=by
 have H:=Lib.hid (of_any a len cap zs w hz hp);clear hz hp;have hlt:=Crc.crc_lt zs;generalize Crc.crc zs=c at*;go_enter Tryz.func91,Tryz.ntmps91
 go_wp2_with fail
 refine H.out.mono ?_;rintro e w1 ⟨rfl,hb1⟩;clear H;go_wp2_with fail
 refine(turn_any c hlt _).mono ?_;rintro e w2 ⟨rfl,rfl⟩;have h2:=Crc.turn_lt hlt;have hm:Crc.mask c=(c / 32768+c % 32768*131072+2726488792) % 4294967296:=rfl;generalize c / 32768+c % 32768*131072=t at*;have HM:=Lib.hid hm;clear hm;go_wp2_with fail
 go_ret
 exact⟨by rw[HM.out,Int.natCast_emod,Int.natCast_add];rfl,hb1⟩
end Go.Proofs.YtalfbcbnljhldaaGreatDoor

namespace Go.Proofs.YtalfbcbnljhldaaGreatDoor
open Go.RowKit
theorem bl_str {zs:List Int} (hr: ∀x∈zs,0≤x∧x≤255):bl (strOfNums zs)=zs:=by
 unfold bl;rw[strOfNums_data,List.map_map];conv=>rhs;rw[←List.map_id zs]
 refine List.map_congr_left fun x hx=>?_;have:=hr x hx;simp;omega
theorem Row.lit4 (w:World) (a b c d:Int):Row (w.alloc (.cells #[.int .u8 a,.int .u8 b,.int .u8 c,.int .u8 d] 5)) w.heap.size [a,b,c,d] (.slice (some ⟨w.heap.size,0,none⟩) 4 4):=
 World.ownsRow_lit w #[.int .u8 a,.int .u8 b,.int .u8 c,.int .u8 d] 4 (Nat.le_refl _) (by unfold maxLen;omega) rfl
set_option maxHeartbeats 400000 in
theorem lowest_any (n:Nat) (hn:n<4294967296) (w:World):
  Calls Tryz.prog 90 #[.int .u32 (n:Int)] w fun e w'=> ∃v,e= .returned v∧Row w' w.heap.size (Frame.le4 n) v∧Below w.heap.size w w':=by
 go_enter Tryz.func90,Tryz.ntmps90
 go_wp2
 go_ret
 refine⟨_,rfl,?_,(Below.refl _ _).alloc (Nat.le_refl _) _⟩;have h:=Row.lit4 w ((n:Int) % 256) ((n:Int) / 256 % 256) ((n:Int) / 65536 % 256) ((n:Int) / 16777216);have e: [(n:Int) % 256,(n:Int) / 256 % 256,(n:Int) / 65536 % 256,(n:Int) / 16777216]=Frame.le4 n:=by
  simp only[Frame.le4,List.cons.injEq,and_true];omega
 rw[e] at h;exact h
theorem parts_three (W:World) (g:Nat) (T:TypeId) (a0 a1 a2:Option Addr) (l0 l1 l2:List Int) (c0 c1 c2:Nat)
  (hg:W.heap[g]?=some (.cells #[.slice a0 l0.length c0,.slice a1 l1.length c1,.slice a2 l2.length c2] T (0,0)))
  (n0:a0=none→l0.length=0∧c0=0) (n1:a1=none→l1.length=0∧c1=0) (n2:a2=none→l2.length=0∧c2=0)
  (r0: ∀ad,a0=some ad→ ∀j u,(l0.map (Value.int .u8))[j]?=some u→W.cell? (ad.add j)=some u)
  (r1: ∀ad,a1=some ad→ ∀j u,(l1.map (Value.int .u8))[j]?=some u→W.cell? (ad.add j)=some u)
  (r2: ∀ad,a2=some ad→ ∀j u,(l2.map (Value.int .u8))[j]?=some u→W.cell? (ad.add j)=some u):
  Parts W g 3 (fun k=>if k=0 then a0 else if k=1 then a1 else a2) (fun k=>if k=0 then l0 else if k=1 then l1 else l2) (fun k=>if k=0 then c0 else if k=1 then c1 else c2):=by
 refine⟨fun k hk=>?_,fun k hk h=>?_,fun k hk ad h=>?_⟩
 ·rw[cell_of_row W g k _ T (0,0) hg]
  rcases(show k=0∨k=1∨k=2 by omega) with rfl | rfl | rfl<;>simp
 ·rcases(show k=0∨k=1∨k=2 by omega) with rfl | rfl | rfl
  ·exact n0 h
  ·exact n1 h
  ·exact n2 h
 ·rcases(show k=0∨k=1∨k=2 by omega) with rfl | rfl | rfl
  ·exact r0 ad h
  ·exact r1 ad h
  ·exact r2 ad h
set_option maxRecDepth 100000 in
set_option maxHeartbeats 1000000 in
theorem framePut_any (a:Option Addr) (len cap:Nat) (zs:List Int) (w:World) (hz:len=zs.length) (hp:Reads w a zs) (hl:zs.length≤4096):
  Calls Tryz.prog 70 #[.slice a len cap] w fun e w'=> ∃g c,e= .returned (.tuple #[.slice (some ⟨g,0,none⟩) (Frame.frameOf zs).length c,.int .i64 0])∧
   Row w' w.heap.size (Frame.frameOf zs) (.slice (some ⟨g,0,none⟩) (Frame.frameOf zs).length c)∧Below w.heap.size w w':=by
 have hcv:=hp.text len cap hz;have hsz:=strOfNums_size zs;have hbl:=bl_str hp.hr;have hrr:=hp.hr;clear hp hz;have HS:=Lib.hid hsz;have HB:=Lib.hid hbl;have HRR:=Lib.hid hrr;clear hsz hbl hrr;have PT:=Lib.hid (putText_any (strOfNums zs) (by rw[HS.out];exact hl) w);rw[HS.out,HB.out] at PT;go_enter Tryz.func70,Tryz.ntmps70
 go_wp2_with fail
 refine PT.out.mono ?_;rintro e w1 ⟨v,rfl,hr,hb⟩;clear PT;have htx:Num.put zs.length++zs=Frame.txt zs:=rfl;have htl:=Frame.txt_len zs;have hpl:=Num.put_len zs.length;have htr:=Frame.txt_range hl HRR.out;rw[htx] at hr;obtain⟨ts,hts⟩: ∃ts,ts=Frame.txt zs:=⟨_,rfl⟩;rw[←hts] at hr htl htr;have HTX:=Lib.hid hts;clear htx hts;have hne:ts≠ []:=by intro h;rw[h] at htl;simp at htl;omega
 obtain⟨g,cap2,rfl,hg0,hg1,hc1,hc2,_⟩:=hr.is hne;have hmax:maxLen=9223372036854775807:=rfl;have htl2:ts.length≤4106:=by omega
 clear htl hpl;go_wp2_with fail
 have hrd:Reads w1 (some ⟨g,0,none⟩) ts:=by
  obtain⟨x,c,hv,hx,_⟩:=hr.reads htr (by omega);cases hv;exact hx
 have hmk:=Crc.mask_lt (Crc.crc ts);have hbl:Below w1.heap.size w1 (w1.alloc (.cells #[.int .u8 90] 5)):=(Below.refl _ _).alloc (Nat.le_refl _) _;refine(masked_any (some ⟨g,0,none⟩) ts.length cap2 ts _ rfl (hrd.below hbl)).mono ?_;rintro e w2 ⟨rfl,hb2⟩;have hb12:=hbl.trans (hb2.mono hbl.size);have hlit:=(Row.lit1 w1 90).below hb2;clear hbl hb2;go_wp2_with fail
 refine(lowest_any _ hmk _).mono ?_;rintro e w3 ⟨v3,rfl,hr3,hb3⟩;have hb13:=hb12.trans (hb3.mono hb12.size);have hlit3:=hlit.below hb3;have hr1:=hr.below hb13;clear hb12 hlit;have hl4:=Frame.le4_len (Crc.mask (Crc.crc ts));have hte:Frame.le4 (Crc.mask (Crc.crc ts))=Frame.tail ts:=rfl;rw[hte] at hr3 hl4;generalize Crc.mask (Crc.crc ts)=mk at*;generalize hTL:Frame.tail ts=tl at*;have HTL:=Lib.hid hTL;clear hte hTL;have hne4:tl≠ []:=by intro h;rw[h] at hl4;simp at hl4
 obtain⟨g3,cap3,rfl,hg30,hg31,_,_,_⟩:=hr3.is hne4;have hz1:=hb.size;have hz3:=hb13.size;have HL4:=Lib.hid hl4;clear hl4;go_wp2_with fail
 have hb4:Below w3.heap.size w3 (w3.alloc (.cells #[.slice (some ⟨w1.heap.size,0,none⟩) 1 1,.slice (some ⟨g,0,none⟩) ts.length cap2,.slice (some ⟨g3,0,none⟩) tl.length cap3] 39)):=(Below.refl _ _).alloc (Nat.le_refl _) _;have hP:=parts_three (w3.alloc (.cells #[.slice (some ⟨w1.heap.size,0,none⟩) 1 1,.slice (some ⟨g,0,none⟩) ts.length cap2,.slice (some ⟨g3,0,none⟩) tl.length cap3] 39)) w3.heap.size 39
  (some ⟨w1.heap.size,0,none⟩) (some ⟨g,0,none⟩) (some ⟨g3,0,none⟩) [90] ts tl 1 cap2 cap3 (heap_alloc_new _ _) (fun h=>by cases h) (fun h=>by cases h) (fun h=>by cases h)
  (fun ad h=>by cases h;exact hlit3.news hb4 rfl) (fun ad h=>by cases h;exact hr1.news hb4 rfl) (fun ad h=>by cases h;exact hr3.news hb4 rfl)
 have hcat:cat (fun k=>if k=0 then [90] else if k=1 then ts else tl) 3=90::(ts++tl):=by simp [cat]
 refine(join_any _ 3 3 _ _ _ _ hP (by omega) (by have:=HL4.out;rw[hcat];simp;omega)).mono ?_;rintro e w5 ⟨g5,c5,rfl,hr5,hb5⟩;have hF:90::(ts++tl)=Frame.frameOf zs:=by rw[←HTL.out,HTX.out];rfl
 rw[hcat,hF] at hr5;have hB:=(hb.trans ((hb13.trans (hb4.mono hz3)).mono hz1)).trans (hb5.mono (by simp;omega));have HR:=Lib.hid (hr5.less (B':=w.heap.size) (by simp;omega));have HC:=Lib.hid (hcat.trans hF);clear hcat hF hr5 hb5 hP hb4 hr3 hr1 hlit3 hr hb hb13 hb3 htr hrd;go_wp2
 go_ret2
 rw[HC.out] at*;exact⟨g5,c5,rfl,HR.out,hB⟩
end Go.Proofs.YtalfbcbnljhldaaGreatDoor

namespace Go.Proofs.YtalfbcbnljhldaaGreatDoor
open Go.RowKit
structure Here (w:World) (g:Nat) (zs:List Int):Prop where
 blk: ∃cs fr,w.heap[g]?=some (.cells cs 5 fr)∧ ∀i,i<zs.length→cs[i]?=some (.int .u8 (zs.getD i 0))
 hr: ∀x∈zs,0≤x∧x≤255
 hl:zs.length≤9223372036854775807
theorem Here.lt {w:World} {g:Nat} {zs:List Int} (h:Here w g zs):g<w.heap.size:=by
 obtain⟨cs,fr,hg,_⟩:=h.blk;exact lt_of_block hg
theorem Here.reads {w:World} {g:Nat} {zs:List Int} (h:Here w g zs):Reads w (some ⟨g,0,none⟩) zs:=by
 obtain⟨cs,fr,hg,hc⟩:=h.blk;exact reads_row zs hg hc h.hr h.hl
theorem Here.other {w w':World} {g:Nat} {zs:List Int} (h:Here w g zs) (he:w'.heap[g]?=w.heap[g]?):Here w' g zs:=by
 obtain⟨cs,fr,hg,hc⟩:=h.blk;exact⟨⟨cs,fr,he.trans hg,hc⟩,h.hr,h.hl⟩
theorem Here.below {w w':World} {g:Nat} {zs:List Int} (h:Here w g zs) (hb:Below w.heap.size w w'):Here w' g zs:=h.other (hb.block g h.lt)
theorem bytes_here (w:World) (zs:List Int) (hr: ∀x∈zs,0≤x∧x≤255) (hl:zs.length≤9223372036854775807):Here (Lib.bytesWorld w 5 (strOfNums zs)) w.heap.size zs:=by
 have hg:=Lib.bytesWorld_at_new w 5 (strOfNums zs);refine⟨⟨_,_,hg,fun i hi=>?_⟩,hr,hl⟩;have h1:=Lib.bytesWorld_cell w 5 (strOfNums zs) i (by rw[strOfNums_size];exact hi);rw[cell_of_row _ _ i _ _ _ hg] at h1;rw[h1,strOfNums_data];have:=hr (zs.getD i 0) (by simp [List.getD,hi]);simp [List.getD,hi] at this ⊢;omega
theorem Row.here {w:World} {B:Nat} {zs:List Int} {g c:Nat} (h:Row w B zs (.slice (some ⟨g,0,none⟩) zs.length c)) (hr: ∀x∈zs,0≤x∧x≤255) (hl:zs.length≤9223372036854775807):Here w g zs∧B≤g∧zs.length≤c∧c≤9223372036854775807:=by
 rcases h.2 with⟨he,_⟩ | ⟨g',cap,cur,he,hB,hg,hc,hm,_⟩
 ·cases he
 ·cases he
  unfold maxLen at hm;refine⟨⟨⟨cur,_,hg,fun i hi=>?_⟩,hr,hl⟩,hB,hc,hm⟩;have h':=h;unfold Row at h';have:=h'.cells (g:=g) rfl i (.int .u8 (zs.getD i 0)) (by simp [List.getD,hi]);rw[show((⟨g,0,none⟩:Addr).add i)=⟨g,i,none⟩ by unfold Addr.add;split<;>simp_all,cell_of_row w g i cur _ _ hg] at this;exact this
theorem str_inj {xs ys:List Int} (hx: ∀x∈xs,0≤x∧x≤255) (hy: ∀x∈ys,0≤x∧x≤255):strOfNums xs=strOfNums ys↔xs=ys:=
 ⟨fun h=>by rw[←bl_str hx,←bl_str hy,h],fun h=>by rw[h]⟩
theorem str_eq {xs ys:List Int} (hx: ∀x∈xs,0≤x∧x≤255) (hy: ∀x∈ys,0≤x∧x≤255):((strOfNums xs).toList == (strOfNums ys).toList)=decide (xs=ys):=by
 rw[Bool.eq_iff_iff,beq_iff_eq,decide_eq_true_eq,←str_inj hx hy,ByteArray.toList_eq,ByteArray.toList_eq];exact⟨fun h=>ByteArray.ext (Array.toList_inj.1 h),fun h=>by rw[h]⟩
set_option maxHeartbeats 400000 in
theorem equal_any (a:Option Addr) (len cap:Nat) (xs:List Int) (a2:Option Addr) (len2 cap2:Nat) (ys:List Int) (w:World) (hx:Reads w a xs) (hxl:len=xs.length) (hy:Reads w a2 ys) (hyl:len2=ys.length):
  Calls Tryz.prog 104 #[.slice a len cap,.slice a2 len2 cap2] w fun e w'=>e= .returned (.bool (decide (xs=ys)))∧w=w':=by
 have h1:=hx.text len cap hxl;have h2:=hy.text len2 cap2 hyl;have HE:=Lib.hid (str_eq hx.hr hy.hr);clear hx hy hxl hyl;go_enter Tryz.func104,Tryz.ntmps104
 go_wp2
 go_ret
 refine⟨?_,rfl⟩;rw[←HE.out];rfl
set_option maxHeartbeats 400000 in
theorem hasPrefix_any (a:Option Addr) (len cap:Nat) (xs:List Int) (a2:Option Addr) (len2 cap2:Nat) (ys:List Int) (w:World) (hx:Reads w a xs) (hxl:len=xs.length) (hcap:len≤cap) (hy:Reads w a2 ys) (hyl:len2=ys.length):
  Calls Tryz.prog 84 #[.slice a len cap,.slice a2 len2 cap2] w fun e w'=>e= .returned (.bool (decide (xs.take ys.length=ys)))∧w=w':=by
 by_cases h:len2≤len
 ·have E:=Lib.hid (equal_any a len2 cap (xs.take len2) a2 len2 cap2 ys w (hx.take len2) (by rw[List.length_take];omega) hy hyl)
  have HH:=Lib.hid hyl;clear hx hy hxl hyl;go_enter Tryz.func84,Tryz.ntmps84
  go_wp2_with fail
  refine E.out.mono ?_;rintro e w1 ⟨rfl,rfl⟩;clear E;go_wp2
  go_ret
  exact⟨by rw[HH.out];rfl,rfl⟩
 ·have hd:decide (xs.take ys.length=ys)=false:=by
   rw[decide_eq_false_iff_not];intro he;have:=congrArg List.length he;rw[List.length_take] at this;omega
  have HH:=Lib.hid hd;clear hx hy hxl hyl hd;go_enter Tryz.func84,Tryz.ntmps84
  go_wp2
  go_ret
  exact⟨by rw[HH.out];rfl,rfl⟩
namespace Frame
open Num (dec)
theorem first_dec {bs ys:List Int} {m:Nat} (h:firstOf bs=some (ys,m)): ∃n k,dec 10 0 0 (bs.drop 1)=some (n,k)∧n≤4096∧1+k+n≤bs.length∧ys=(bs.drop (1+k)).take n∧bs.getD 0 0=90∧0<bs.length:=by
 cases bs with
 | nil=>cases h
 | cons b r=>
  simp only[firstOf] at h;by_cases hb:b=90
  ·rw[if_pos hb] at h
   cases hd:dec 10 0 0 r with
   | none=>rw[hd] at h;cases h
   | some nk=>
    obtain⟨n,k⟩:=nk;rw[hd] at h;dsimp only at h;by_cases hc:n≤4096∧k+n+4≤r.length∧(r.drop (k+n)).take 4=tail (r.take (k+n))
    ·rw[if_pos hc] at h
     simp only[Option.some.injEq,Prod.mk.injEq] at h;obtain⟨rfl,rfl⟩:=h;refine⟨n,k,by simpa using hd,hc.1,by simp;omega,?_,by simp [hb],by simp⟩;rw[show 1+k=k+1 by omega,List.drop_succ_cons]
    ·rw[if_neg hc] at h;cases h
  ·rw[if_neg hb] at h;cases h
theorem first_none_dec {bs:List Int} (h:dec 10 0 0 (bs.drop 1)=none):firstOf bs=none:=by
 cases hf:firstOf bs with
 | none=>rfl
 | some p=>
  obtain⟨n,k,hd,_⟩:=first_dec (ys:=p.1) (m:=p.2) hf;rw[h] at hd;cases hd
theorem first_none_fit {bs:List Int} {n k:Nat} (h:dec 10 0 0 (bs.drop 1)=some (n,k)) (hn: ¬(n≤4096∧1+k+n≤bs.length)):firstOf bs=none:=by
 cases hf:firstOf bs with
 | none=>rfl
 | some p=>
  obtain⟨n',k',hd,h1,h2,_⟩:=first_dec (ys:=p.1) (m:=p.2) hf;rw[h] at hd;cases hd;exact absurd ⟨h1,h2⟩ hn
theorem first_by {bs zs:List Int} {n k:Nat} (hr: ∀x∈bs,0≤x∧x≤255) (h:dec 10 0 0 (bs.drop 1)=some (n,k)) (hn:n≤4096) (hz:zs=(bs.drop (1+k)).take n):
  firstOf bs=if bs.take (frameOf zs).length=frameOf zs then some (zs,(frameOf zs).length) else none:=by
 have hlen:zs.length≤4096:=by rw[hz,List.length_take];omega
 split
 ·next ht=>exact(first_iff hr zs _).2 ⟨hlen,rfl,ht⟩
 ·next ht=>
  cases hf:firstOf bs with
  | none=>rfl
  | some p=>
   obtain⟨ys,m⟩:=p;obtain⟨n',k',hd,_,_,hy,_⟩:=first_dec hf;rw[h] at hd;cases hd;rw[←hz] at hy;subst hy;obtain⟨_,rfl,ht'⟩:=(first_iff hr ys m).1 hf;exact absurd ht' ht
end Frame
end Go.Proofs.YtalfbcbnljhldaaGreatDoor
