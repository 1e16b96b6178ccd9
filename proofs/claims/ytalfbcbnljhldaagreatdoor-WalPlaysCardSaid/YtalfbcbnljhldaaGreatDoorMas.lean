/-  -/
import Derived.Test.YtalfbcbnljhldaaGreatDoorMaq
import Derived.Test.YtalfbcbnljhldaaGreatDoorMar
import Derived.Test.YtalfbcbnljhldaaGreatDoorMad
import Derived.Test.YtalfbcbnljhldaaGreatDoorMap
import Derived.Deep.RegionHeld
import Derived.WalkKit
import Derived.Lib.Hide
namespace Go.Proofs.YtalfbcbnljhldaaGreatDoor
open Go.Lib (hid)
open Go.RowKit Go.Maps Dsk Wl
def TellsEnt (w w':World) (r:Ending):Option Ent→Prop
 | none=>r= .returned (.tuple #[.agg #[.int .u64 0,.int .u64 0,.slice none 0 0],.int .i64 4])∧Below w.heap.size w w'
 | some e=>Below w.heap.size w w'∧ ∃a c,r= .returned (.tuple #[.agg #[.int .u64 (e.ix:Int),.int .u64 (e.term:Int),.slice a e.body.length c],.int .i64 0])∧Body w' w.heap.size e.body (.slice a e.body.length c)
theorem parse_bad {bs:List Int} {n k t j m i:Nat} (h1:Num.dec 10 0 0 bs=some (n,k)) (h2:Num.dec 10 0 0 (bs.drop k)=some (t,j)) (h3:Num.dec 10 0 0 (bs.drop (k+j))=some (m,i)) (h: ¬(m≤2000∧k+j+i+m=bs.length∧n≠0)):parseOf bs=none:=by
 simp only[parseOf,h1,h2,h3,if_neg h]
theorem zbox {W:World} {b:Nat} (h:W.heap[b]?=some (.cells #[.int .u64 0,.int .u64 0,.slice none 0 0] 55 (0,0))):
  W.frozen? ⟨b,0,none⟩=false∧W.frozen? ⟨b,1,none⟩=false∧W.frozen? ⟨b,2,none⟩=false∧W.cell? ⟨b,0,none⟩=some (.int .u64 0)∧W.cell? ⟨b,1,none⟩=some (.int .u64 0)∧W.cell? ⟨b,2,none⟩=some (.slice none 0 0):=by
 refine⟨frozen_row h,frozen_row h,frozen_row h,?_,?_,?_⟩<;>rw[cell_of_row _ _ _ _ _ _ h]<;>rfl
theorem three_cells {W:World} {b:Nat} {x y z:Value} {t:TypeId} (h:W.heap[b]?=some (.cells #[.int .u64 0,.int .u64 0,.slice none 0 0] t (0,0))):
  (((W.setCell ⟨b,0,none⟩ x).setCell ⟨b,1,none⟩ y).setCell ⟨b,2,none⟩ z).heap[b]?=some (.cells #[x,y,z] t (0,0)):=cells_set (cells_set (cells_set h 0 x) 1 y) 2 z
theorem three_below {W w:World} {b:Nat} {x y z:Value} (h:Below w.heap.size w W) (hb:w.heap.size≤b):Below w.heap.size w (((W.setCell ⟨b,0,none⟩ x).setCell ⟨b,1,none⟩ y).setCell ⟨b,2,none⟩ z):=
 ((h.setCell (p:=⟨b,0,none⟩) hb _).setCell (p:=⟨b,1,none⟩) hb _).setCell (p:=⟨b,2,none⟩) hb _
theorem three_other {W:World} {b k:Nat} {x y z:Value} (h:k≠b):(((W.setCell ⟨b,0,none⟩ x).setCell ⟨b,1,none⟩ y).setCell ⟨b,2,none⟩ z).heap[k]?=W.heap[k]?:=
 ((Below.heap_setCell _ _ _ _ h).trans (Below.heap_setCell _ _ _ _ h)).trans (Below.heap_setCell _ _ _ _ h)
set_option maxRecDepth 100000 in
set_option maxHeartbeats 1000000 in
theorem parse_any (a:Option Addr) (len cap:Nat) (bs:List Int) (w:World) (hz:len=bs.length) (hp:Reads w a bs) (hl:len≤1048576) (hcap:len≤cap) (hcm:cap≤9223372036854775807):
  Calls Tryz.prog 62 #[.slice a len cap] w fun r w'=>TellsEnt w w' r (parseOf bs):=by
 subst hz;have hw0:Below w.heap.size w (w.alloc (.cells #[.int .u64 0,.int .u64 0,.slice none 0 0] 55)):=(Below.refl _ _).alloc (Nat.le_refl _) _;have hb0:(w.alloc (.cells #[.int .u64 0,.int .u64 0,.slice none 0 0] 55)).heap[w.heap.size]?=some (.cells #[.int .u64 0,.int .u64 0,.slice none 0 0] 55 (0,0)):=heap_alloc_new _ _;have HT:=hid (fun(W:World) (h:Below w.heap.size w W) (p:Nat) (hle:p≤bs.length)=>take_any a bs.length cap p bs W (hp.below h) rfl (by omega) hle);have HTT:=hid (fun(W:World) (h:Below w.heap.size w W) (p:Nat) (hle:p≤bs.length)=>takeText_any a bs.length cap p bs W (hp.below h) rfl (by omega) hle hcap hcm);have hlt:=fun(p:Nat) (n j:Nat) (h:Num.dec 10 0 0 (bs.drop p)=some (n,j))=>Num.dec_lt 10 0 0 (bs.drop p) n j (by omega) (by simp) (fun x hx=>hp.hr x (List.mem_of_mem_drop hx)) h;have HLT:=hid hlt;have HR:=hid hp.hr;have HB0:=hid hb0;have HW0:=hid hw0;clear hp hlt hb0 hw0;go_enter Tryz.func62,Tryz.ntmps62
 go_wp2_with fail
 refine(HT.out _ HW0.out 0 (Nat.zero_le _)).mono ?_;rw[List.drop_zero];intro r w1 ht;cases h1:Num.dec 10 0 0 bs with
 | none=>
  rw[h1] at ht;obtain⟨rfl,hb⟩:=ht;have HE:=hid (show parseOf bs=none by simp only[parseOf,h1]);have HBX:=hid ((hb.block w.heap.size (by simp)).trans HB0.out);have HB:=hid (HW0.out.trans (hb.mono HW0.out.size));clear h1 hb;obtain⟨f0,f1,f2,c0,c1,c2⟩:=zbox HBX.out;go_wp2
  refine bodyPost_ret (v:= .tuple #[.agg #[.int .u64 0,.int .u64 0,.slice none 0 0],.int .i64 4]) ?_ rfl ?_
  ·have hx:=three_cells (x:= .int .u64 0) (y:= .int .u64 0) (z:= .slice none 0 0) HBX.out
   generalize ((w1.setCell ⟨w.heap.size,0,none⟩ (.int .u64 0)).setCell ⟨w.heap.size,1,none⟩ (.int .u64 0)).setCell ⟨w.heap.size,2,none⟩ (.slice none 0 0)=W at*;obtain⟨-,-,-,d0,d1,d2⟩:=zbox hx;simp [results,Tryz.results62,go_sem,d0,d1,d2]
  ·rw[HE.out]
   exact⟨rfl,three_below HB.out (Nat.le_refl _)⟩
 | some nk=>
  obtain⟨n,k⟩:=nk;rw[h1] at ht;obtain⟨rfl,hb⟩:=ht;have H1:=hid h1;obtain⟨hn,hk0,hk⟩:=HLT.out 0 n k (by rw[List.drop_zero];exact h1);have hkl:k≤bs.length:=by simpa using hk
  have HBX1:=hid ((hb.block w.heap.size (by simp)).trans HB0.out);have HB1:=hid (HW0.out.trans (hb.mono HW0.out.size));have HN:=hid hn;clear h1 hb hk0 hk hn;rw[show(((0:Nat):Int)+(k:Int))=((k:Nat):Int) by omega];go_wp2_with fail
  refine(HT.out _ HB1.out k hkl).mono ?_;intro r w2 ht;cases h2:Num.dec 10 0 0 (bs.drop k) with
  | none=>
   rw[h2] at ht;obtain⟨rfl,hb⟩:=ht;have HE:=hid (show parseOf bs=none by simp only[parseOf,H1.out,h2]);have HBX:=hid ((hb.block w.heap.size (lt_of_block HBX1.out)).trans HBX1.out);have HB:=hid (HB1.out.trans (hb.mono HB1.out.size));clear h2 hb;obtain⟨f0,f1,f2,c0,c1,c2⟩:=zbox HBX.out;go_wp2
   refine bodyPost_ret (v:= .tuple #[.agg #[.int .u64 0,.int .u64 0,.slice none 0 0],.int .i64 4]) ?_ rfl ?_
   ·have hx:=three_cells (x:= .int .u64 0) (y:= .int .u64 0) (z:= .slice none 0 0) HBX.out
    generalize ((w2.setCell ⟨w.heap.size,0,none⟩ (.int .u64 0)).setCell ⟨w.heap.size,1,none⟩ (.int .u64 0)).setCell ⟨w.heap.size,2,none⟩ (.slice none 0 0)=W at*;obtain⟨-,-,-,d0,d1,d2⟩:=zbox hx;simp [results,Tryz.results62,go_sem,d0,d1,d2]
   ·rw[HE.out]
    exact⟨rfl,three_below HB.out (Nat.le_refl _)⟩
  | some tj=>
   obtain⟨t,j⟩:=tj;rw[h2] at ht;obtain⟨rfl,hb⟩:=ht;have H2:=hid h2;obtain⟨hn,hk0,hk⟩:=HLT.out k t j h2;have hkj:k+j≤bs.length:=by rw[List.length_drop] at hk;omega
   have HBX2:=hid ((hb.block w.heap.size (lt_of_block HBX1.out)).trans HBX1.out);have HB2:=hid (HB1.out.trans (hb.mono HB1.out.size));have HN2:=hid hn;clear h2 hb hk0 hk hn HBX1;rw[show((k:Int)+(j:Int))=((k+j:Nat):Int) by omega];go_wp2_with fail
   refine(HTT.out _ HB2.out (k+j) hkj).mono ?_;intro r w3 ht;cases h3:Num.dec 10 0 0 (bs.drop (k+j)) with
   | none=>
    rw[h3] at ht;obtain⟨rfl,hb⟩:=ht;have HE:=hid (show parseOf bs=none by simp only[parseOf,H1.out,H2.out,h3]);have HBX:=hid ((hb.block w.heap.size (lt_of_block HBX2.out)).trans HBX2.out);have HB:=hid (HB2.out.trans (hb.mono HB2.out.size));clear h3 hb;obtain⟨f0,f1,f2,c0,c1,c2⟩:=zbox HBX.out;go_wp2
    refine bodyPost_ret (v:= .tuple #[.agg #[.int .u64 0,.int .u64 0,.slice none 0 0],.int .i64 4]) ?_ rfl ?_
    ·have hx:=three_cells (x:= .int .u64 0) (y:= .int .u64 0) (z:= .slice none 0 0) HBX.out
     generalize ((w3.setCell ⟨w.heap.size,0,none⟩ (.int .u64 0)).setCell ⟨w.heap.size,1,none⟩ (.int .u64 0)).setCell ⟨w.heap.size,2,none⟩ (.slice none 0 0)=W at*;obtain⟨-,-,-,d0,d1,d2⟩:=zbox hx;simp [results,Tryz.results62,go_sem,d0,d1,d2]
    ·rw[HE.out]
     exact⟨rfl,three_below HB.out (Nat.le_refl _)⟩
   | some mi=>
    obtain⟨m,i⟩:=mi;rw[h3] at ht;obtain⟨hb,hr⟩:=ht;have H3:=hid h3;have HBX:=hid ((hb.block w.heap.size (lt_of_block HBX2.out)).trans HBX2.out);have HB:=hid (HB2.out.trans (hb.mono HB2.out.size));clear h3 hb HBX2;by_cases hfit:m≤4096∧k+j+i+m≤bs.length
    ·rw[if_pos hfit] at hr
     subst hr;obtain⟨hm,hf⟩:=hfit;have hdl:((bs.drop (k+j+i)).take m).length=m:=by rw[List.length_take,List.length_drop];omega
     have hsz:(strOfNums ((bs.drop (k+j+i)).take m)).size=m:=by rw[strOfNums_size,hdl]
     have hrr: ∀x∈(bs.drop (k+j+i)).take m,0≤x∧x≤255:=fun x hx=>HR.out x (List.mem_of_mem_drop (List.mem_of_mem_take hx));rw[show(((k+j:Nat):Int)+(i:Int)+(m:Int))=((k+j+i+m:Nat):Int) by omega];have HP:=hid (fun h: ¬(m≤2000∧k+j+i+m=bs.length∧n≠0)=>parse_bad H1.out H2.out H3.out h);by_cases hall:k+j+i+m=bs.length
     ·have g1:(((k+j+i+m:Nat):Int) != (bs.length:Int))=false:=by rw[bne_eq_false_iff_eq];omega
      by_cases hn0:n=0
      ·have HE:=hid (HP.out fun h=>h.2.2 hn0)
       have g2:((n:Int) == 0)=true:=by rw[beq_iff_eq];omega
       clear HP;generalize ((k+j+i+m:Nat):Int)=Q at*;generalize strOfNums ((bs.drop (k+j+i)).take m)=S at*;obtain⟨f0,f1,f2,c0,c1,c2⟩:=zbox HBX.out;go_wp2
       refine bodyPost_ret (v:= .tuple #[.agg #[.int .u64 0,.int .u64 0,.slice none 0 0],.int .i64 4]) ?_ rfl ?_
       ·have hx:=three_cells (x:= .int .u64 0) (y:= .int .u64 0) (z:= .slice none 0 0) HBX.out
        generalize ((w3.setCell ⟨w.heap.size,0,none⟩ (.int .u64 0)).setCell ⟨w.heap.size,1,none⟩ (.int .u64 0)).setCell ⟨w.heap.size,2,none⟩ (.slice none 0 0)=W at*;obtain⟨-,-,-,d0,d1,d2⟩:=zbox hx;simp [results,Tryz.results62,go_sem,d0,d1,d2]
       ·rw[HE.out]
        exact⟨rfl,three_below HB.out (Nat.le_refl _)⟩
      ·have g2:((n:Int) == 0)=false:=by rw[beq_eq_false_iff_ne];omega
       by_cases hm2:m≤2000
       ·have g3:decide ((2000:Int)<(m:Int))=false:=by simp;omega
        have HE:=hid (show parseOf bs=some ⟨n,t,bs.drop (k+j+i)⟩ by simp only[parseOf,H1.out,H2.out,H3.out];rw[if_pos ⟨hm2,hall,hn0⟩]);have htk:(bs.drop (k+j+i)).take m=bs.drop (k+j+i):=List.take_of_length_le (by rw[List.length_drop];omega);rw[htk] at hsz hrr hdl ⊢;have HC:=hid (Body.conv w3 (bs.drop (k+j+i)) hrr (by omega));have hcv:=Lib.run_convert_string_bytes (P:=Tryz.prog) w3 9 39 5 (strOfNums (bs.drop (k+j+i))) Tryz.underlying9 Tryz.underlying39 Tryz.underlying5;rw[strOfNums_size] at hcv;clear HP hrr;generalize ((k+j+i+m:Nat):Int)=Q at*;have hbw:Below w3.heap.size w3 (Lib.bytesWorld w3 5 (strOfNums (bs.drop (k+j+i)))):=Lib.bytesWorld_below _ _ _;rw[strOfNums_size] at hsz;obtain⟨CC,hCC⟩: ∃CC,CC=grownCap w3 (bs.drop (k+j+i)).length 0 5:=⟨_,rfl⟩;rw[←hCC] at hcv HC;clear hCC;generalize hBD:bs.drop (k+j+i)=BD at*;generalize hS:strOfNums BD=S at*;generalize hWB:Lib.bytesWorld w3 5 S=WB at*;have HBX4:=hid ((hbw.block w.heap.size (lt_of_block HBX.out)).trans HBX.out);have HB4:=hid (HB.out.trans (hbw.mono HB.out.size));obtain⟨f0,f1,f2,c0,c1,c2⟩:=zbox HBX4.out;have hBl:BD.length=m:=hdl;have hSz:S.size=m:=by rw[←hS,strOfNums_size];exact hdl
        have HBD:=hid hBD;clear hbw hdl hsz hWB hS htk hBD;rw[hBl] at hcv;go_wp2
        have hlt:=lt_of_block HBX.out;refine bodyPost_ret (v:= .tuple #[.agg #[.int .u64 (n:Int),.int .u64 (t:Int),.slice (some ⟨w3.heap.size,0,none⟩) m CC],.int .i64 0]) ?_ rfl ?_
        ·have hx:=three_cells (x:= .int .u64 (n:Int)) (y:= .int .u64 (t:Int)) (z:= .slice (some ⟨w3.heap.size,0,none⟩) m CC) HBX4.out
         generalize ((WB.setCell ⟨w.heap.size,0,none⟩ (.int .u64 (n:Int))).setCell ⟨w.heap.size,1,none⟩ (.int .u64 (t:Int))).setCell ⟨w.heap.size,2,none⟩ (.slice (some ⟨w3.heap.size,0,none⟩) m CC)=W at*;have d0:W.cell? ⟨w.heap.size,0,none⟩=some (.int .u64 (n:Int)):=by rw[cell_of_row _ _ 0 _ _ _ hx];rfl
         have d1:W.cell? ⟨w.heap.size,1,none⟩=some (.int .u64 (t:Int)):=by rw[cell_of_row _ _ 1 _ _ _ hx];rfl
         have d2:W.cell? ⟨w.heap.size,2,none⟩=some (.slice (some ⟨w3.heap.size,0,none⟩) m CC):=by rw[cell_of_row _ _ 2 _ _ _ hx];rfl
         simp [results,Tryz.results62,go_sem,d0,d1,d2]
        ·rw[HE.out]
         refine⟨three_below HB4.out (Nat.le_refl _),some ⟨w3.heap.size,0,none⟩,CC,by rw[show(Ent.mk n t BD).body.length=m from hBl],?_⟩;exact(HC.out.keep fun q _ _ hq _ _=>three_other (by omega)).less (by omega)
       ·have HE:=hid (HP.out fun h=>hm2 h.1)
        have g3:decide ((2000:Int)<(m:Int))=true:=by simp;omega
        clear HP;generalize ((k+j+i+m:Nat):Int)=Q at*;generalize strOfNums ((bs.drop (k+j+i)).take m)=S at*;obtain⟨f0,f1,f2,c0,c1,c2⟩:=zbox HBX.out;go_wp2
        refine bodyPost_ret (v:= .tuple #[.agg #[.int .u64 0,.int .u64 0,.slice none 0 0],.int .i64 4]) ?_ rfl ?_
        ·have hx:=three_cells (x:= .int .u64 0) (y:= .int .u64 0) (z:= .slice none 0 0) HBX.out
         generalize ((w3.setCell ⟨w.heap.size,0,none⟩ (.int .u64 0)).setCell ⟨w.heap.size,1,none⟩ (.int .u64 0)).setCell ⟨w.heap.size,2,none⟩ (.slice none 0 0)=W at*;obtain⟨-,-,-,d0,d1,d2⟩:=zbox hx;simp [results,Tryz.results62,go_sem,d0,d1,d2]
        ·rw[HE.out]
         exact⟨rfl,three_below HB.out (Nat.le_refl _)⟩
     ·have HE:=hid (HP.out fun h=>hall h.2.1)
      have g1:(((k+j+i+m:Nat):Int) != (bs.length:Int))=true:=by rw[bne_iff_ne];omega
      clear HP;generalize ((k+j+i+m:Nat):Int)=Q at*;generalize strOfNums ((bs.drop (k+j+i)).take m)=S at*;obtain⟨f0,f1,f2,c0,c1,c2⟩:=zbox HBX.out;go_wp2
      refine bodyPost_ret (v:= .tuple #[.agg #[.int .u64 0,.int .u64 0,.slice none 0 0],.int .i64 4]) ?_ rfl ?_
      ·have hx:=three_cells (x:= .int .u64 0) (y:= .int .u64 0) (z:= .slice none 0 0) HBX.out
       generalize ((w3.setCell ⟨w.heap.size,0,none⟩ (.int .u64 0)).setCell ⟨w.heap.size,1,none⟩ (.int .u64 0)).setCell ⟨w.heap.size,2,none⟩ (.slice none 0 0)=W at*;obtain⟨-,-,-,d0,d1,d2⟩:=zbox hx;simp [results,Tryz.results62,go_sem,d0,d1,d2]
      ·rw[HE.out]
       exact⟨rfl,three_below HB.out (Nat.le_refl _)⟩
    ·rw[if_neg hfit] at hr
     subst hr;have HE:=hid (parse_bad H1.out H2.out H3.out (fun h=>hfit ⟨by omega,by omega⟩));obtain⟨f0,f1,f2,c0,c1,c2⟩:=zbox HBX.out;go_wp2
     refine bodyPost_ret (v:= .tuple #[.agg #[.int .u64 0,.int .u64 0,.slice none 0 0],.int .i64 4]) ?_ rfl ?_
     ·have hx:=three_cells (x:= .int .u64 0) (y:= .int .u64 0) (z:= .slice none 0 0) HBX.out
      generalize ((w3.setCell ⟨w.heap.size,0,none⟩ (.int .u64 0)).setCell ⟨w.heap.size,1,none⟩ (.int .u64 0)).setCell ⟨w.heap.size,2,none⟩ (.slice none 0 0)=W at*;obtain⟨-,-,-,d0,d1,d2⟩:=zbox hx;simp [results,Tryz.results62,go_sem,d0,d1,d2]
     ·rw[HE.out]
      exact⟨rfl,three_below HB.out (Nat.le_refl _)⟩
end Go.Proofs.YtalfbcbnljhldaaGreatDoor

namespace Go.Proofs.YtalfbcbnljhldaaGreatDoor
open Go.RowKit
set_option maxHeartbeats 400000 in
theorem takeText_out (a:Option Addr) (len cap:Nat) (p:Int) (w:World) (hp:p<0∨(len:Int)<p):
  Calls Tryz.prog 83 #[.slice a len cap,.int .i64 p] w fun e w'=>e= .returned (.tuple #[.string ByteArray.empty,.int .i64 0,.int .i64 2])∧Below w.heap.size w w':=by
 have H:=Lib.hid (take_out a len cap p w hp);clear hp;go_enter Tryz.func83,Tryz.ntmps83
 go_wp2_with fail
 with_reducible refine H.out.mono ?_
 rintro e w1 ⟨rfl,hb⟩;clear H;go_wp2_with fail
 go_ret3
 exact⟨rfl,hb⟩
def ToldFirst (w w':World) (e:Ending):Option (List Int×Nat)→Prop
 | none=>e= .returned (.tuple #[.slice none 0 0,.int .i64 0,.bool false])∧Below w.heap.size w w'
 | some (zs,m)=> ∃g c,e= .returned (.tuple #[.slice (some ⟨g,0,none⟩) zs.length c,.int .i64 (m:Int),.bool true])∧w.heap.size≤g∧Here w' g zs∧zs.length≤c∧Below w.heap.size w w'
end Go.Proofs.YtalfbcbnljhldaaGreatDoor

namespace Go.Proofs.YtalfbcbnljhldaaGreatDoor
open Go.Lib (hid)
open Go.RowKit
def ToldFirstC (w w':World) (e:Ending):Option (List Int×Nat)→Prop
 | none=>e= .returned (.tuple #[.slice none 0 0,.int .i64 0,.bool false])∧Below w.heap.size w w'
 | some (zs,m)=> ∃g c,e= .returned (.tuple #[.slice (some ⟨g,0,none⟩) zs.length c,.int .i64 (m:Int),.bool true])∧w.heap.size≤g∧Here w' g zs∧zs.length≤c∧c≤9223372036854775807∧Below w.heap.size w w'
set_option maxRecDepth 100000 in
set_option maxHeartbeats 1000000 in
theorem first_cap (a:Option Addr) (len cap:Nat) (bs:List Int) (w:World) (hz:len=bs.length) (hp:Reads w a bs) (hl:len≤9223372036854775806) (hcap:len≤cap) (hcm:cap≤9223372036854775807):
  Calls Tryz.prog 61 #[.slice a len cap] w fun e w'=>ToldFirstC w w' e (Frame.firstOf bs):=by
 by_cases h0:len=0
 ·have hbs:Frame.firstOf bs=none:=by
   cases bs with
   | nil=>rfl
   | cons b r=>simp at hz;omega
  rw[hbs];subst h0;have H:=hid (takeText_out a 0 cap 1 w (by omega));clear hz hp hbs hcap hcm hl;go_enter Tryz.func61,Tryz.ntmps61
  go_wp2_with fail
  with_reducible refine H.out.mono ?_
  rintro e w1 ⟨rfl,hb⟩;clear H;go_wp2_with fail
  go_ret3
  exact⟨rfl,hb⟩
 ·have T0:=takeText_any a len cap 1 bs w hp hz hl (by omega) hcap hcm
  rw[show((1:Nat):Int)=1 from rfl] at T0;have T:=hid T0;clear T0;have HD:=hid (fun h=>Frame.first_none_dec (bs:=bs) h);have HF:=hid (fun n k h=>Frame.first_none_fit (bs:=bs) (n:=n) (k:=k) h);have HB:=hid (fun zs n k=>Frame.first_by (bs:=bs) (zs:=zs) (n:=n) (k:=k) hp.hr);have HP:=hid hp;have HZ:=hid hz;clear hp hz;obtain⟨D,hD⟩: ∃D,D=Num.dec 10 0 0 (bs.drop 1):=⟨_,rfl⟩;rw[←hD] at T HD;have HDD:=hid hD;clear hD;go_enter Tryz.func61,Tryz.ntmps61
  go_wp2_with fail
  with_reducible refine T.out.mono ?_
  intro e w1 ht;clear T;cases D with
  | none=>
   obtain⟨rfl,hb⟩:=ht;go_wp2_with fail
   go_ret3
   rw[HD.out (by trivial)];exact⟨rfl,hb⟩
  | some nk=>
   obtain⟨n,k⟩:=nk;obtain⟨hb,ht⟩:=ht;by_cases hfit:n≤4096∧1+k+n≤len
   ·rw[if_pos hfit] at ht
    subst ht;obtain⟨zs,hzs⟩: ∃zs,zs=(bs.drop (1+k)).take n:=⟨_,rfl⟩;have hzr: ∀x∈zs,0≤x∧x≤255:=fun x hx=>by rw[hzs] at hx;exact HP.out.hr x (List.mem_of_mem_drop (List.mem_of_mem_take hx))
    have hzl:zs.length≤4096:=by rw[hzs,List.length_take];omega
    have HBY:=hid (HB.out zs n k HDD.out.symm hfit.1 hzs);rw[←hzs];clear hzs HB HF HD HDD hfit;have hcv:=fun W:World=>Lib.run_convert_string_bytes (P:=Tryz.prog) W 9 39 5 (strOfNums zs) Tryz.underlying9 Tryz.underlying39 Tryz.underlying5;have hsz:=strOfNums_size zs;rw[hsz] at hcv;have hb1:=below_bytes w1 5 (strOfNums zs);have hz1:=Lib.bytesWorld_size w1 5 (strOfNums zs);have hhere:=bytes_here w1 zs hzr (by omega);have hgc:zs.length≤grownCap w1 zs.length 0 5∧grownCap w1 zs.length 0 5≤9223372036854775807:=⟨grownCap_ge _ _ _ _,by have:=grownCap_le_maxLen w1 zs.length 0 5 (by unfold maxLen;omega);unfold maxLen at this;omega⟩;obtain⟨c1,hc1⟩: ∃c1,grownCap w1 zs.length 0 5=c1:=⟨_,rfl⟩;have hcv1:=hcv w1;clear hcv;rw[hc1] at hcv1 hgc;have HGC:=hid hgc;have HSZ:=hid hsz;clear hgc;have HZR:=hid hzr;clear hsz hc1 hzr;generalize Lib.bytesWorld w1 5 (strOfNums zs)=W1 at*;go_wp2_with fail
    with_reducible refine(framePut_any (some ⟨w1.heap.size,0,none⟩) zs.length c1 zs _ rfl hhere.reads hzl).mono ?_
    rintro e w2 ⟨g,c,rfl,hr2,hb2⟩;have hbz:=hb.size;have hfl:=Frame.frame_len zs;have hpl:=Num.put_len zs.length;have hrd2:Reads w2 (some ⟨g,0,none⟩) (Frame.frameOf zs):=(hr2.here (Frame.frame_range hzl HZR.out) (by omega)).1.reads;obtain⟨fs,hfs⟩: ∃fs,fs=Frame.frameOf zs:=⟨_,rfl⟩;rw[←hfs] at hr2 hrd2 HBY hfl ⊢;have hfl2:fs.length≤4200:=by omega
    clear hfl hpl hfs;have B2:=(hb.trans (hb1.mono hbz)).trans (hb2.mono (by omega));have hbs2:=HP.out.below B2;have hh2:=hhere.below hb2;have PF:=hid (hasPrefix_any a len cap bs (some ⟨g,0,none⟩) fs.length c fs w2 hbs2 HZ.out hcap hrd2 rfl);clear hr2 hb2 hb1 hb hhere hrd2 hbs2;go_wp2_with fail
    with_reducible refine PF.out.mono ?_
    rintro e w3 ⟨rfl,rfl⟩;clear PF;by_cases ht:bs.take fs.length=fs
    ·have hd:decide (bs.take fs.length=fs)=true:=decide_eq_true ht
     have HBY2:=HBY.out;rw[if_pos ht] at HBY2;have HY:=hid HBY2;clear HBY HBY2 ht;go_wp2_with fail
     go_ret3
     rw[HY.out];exact⟨_,_,rfl,by omega,hh2,HGC.out.1,HGC.out.2,B2⟩
    ·have hd:decide (bs.take fs.length=fs)=false:=decide_eq_false ht
     have HBY2:=HBY.out;rw[if_neg ht] at HBY2;have HY:=hid HBY2;clear HBY HBY2 ht;go_wp2_with fail
     go_ret3
     rw[HY.out];exact⟨rfl,B2⟩
   ·rw[if_neg hfit] at ht
    subst ht;go_wp2_with fail
    go_ret3
    rw[HF.out n k HDD.out.symm (by rw[←HZ.out];exact hfit)];exact⟨rfl,hb⟩
end Go.Proofs.YtalfbcbnljhldaaGreatDoor

namespace Go.Proofs.YtalfbcbnljhldaaGreatDoor
open Go.RowKit
theorem wpAnyH_sharper {P:Program} {ops:Array Oper} {Q:Exit→Act→World→Prop} {md:Region.Mode} {S S':World→Prop} (hS: ∀w,S' w→S w):
  ∀(fuel:Nat) (listed:Array Bool) (a:Act) (w:World),wpAnyH P md ops Q S' fuel listed a w→wpAnyH P md ops Q S fuel listed a w
 | 0,_,_,_,h=>h
 | fuel+1,_,_,_,h=>⟨h.1,fun i hi=>wpOp_mono (fun a' w' h'=>⟨hS w' h'.1,wpAnyH_sharper hS fuel _ a' w' h'.2⟩) (h.2 i hi)⟩
end Go.Proofs.YtalfbcbnljhldaaGreatDoor
