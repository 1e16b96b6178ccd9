/-  -/
import Derived.Test.YtalfbcbnljhldaaGreatDoorMbd
import Derived.Test.YtalfbcbnljhldaaGreatDoorMae
set_option linter.unusedSimpArgs false
namespace Go.Proofs.YtalfbcbnljhldaaGreatDoor
open Go.Lib (hid)
open Go.RowKit Go.Maps Dsk Wl
set_option maxRecDepth 100000 in
set_option maxHeartbeats 4000000 in
theorem refTake2_any (a:Option Addr) (len cap p:Nat) (zs:List Int) (w:World) (hlies:Reads w a zs) (hz:len=zs.length) (hl:len≤1000000) (hp:p≤len) (hcap:len≤cap):
  Calls Tryz.prog 65 #[.slice a len cap,.int .i64 (p:Int)] w fun e w'=>Took w w' p e (Num.dec 10 0 0 (zs.drop p)):=by
 have HC:=hid hlies;have HZ:=hid hz;have hrd: ∀x∈zs.drop p,0≤x∧x≤255:=fun x hx=>hlies.hr x (List.mem_of_mem_drop hx);have HRD:=hid hrd;have hdl:(zs.drop p).length=len - p:=by rw[List.length_drop,hz]
 have HDL:=hid hdl;clear hlies hz hrd hdl;obtain⟨l,hldef⟩: ∃l,l=zs.drop p:=⟨_,rfl⟩;rw[←hldef] at HRD HDL ⊢;have HLD:=hid hldef;clear hldef;go_enter Tryz.func65,Tryz.ntmps65
 go_wp2_with fail
 go_loop [7,8,9] (fun n q i=> ∃k n0 q0:Nat,k≤10∧p+k≤len∧n= .int .u64 (n0:Int)∧q= .int .u64 (q0:Int)∧i= .int .i64 ((p:Int)+(k:Int))∧Hid (n0=Num.val l k % 18446744073709551616)∧Hid (q0=128 ^ k % 18446744073709551616)∧n0<18446744073709551616∧q0<18446744073709551616∧Hid (∀j,j<k→128≤l.getD j 0)) (fun _ _ i=>len - (intOf i).toNat)
 case atStart=>exact⟨0,0,1,by omega,by omega,rfl,rfl,by simp,rfl,by simp [Hid],by omega,by omega,fun j hj=>by omega⟩
 case round=>
  obtain⟨k,n0,q0,hk,hpk,rfl,rfl,rfl,HN0,HQ0,hn0,hq0,HBIG⟩:=hrel;by_cases hend:p+k<len∧k<10
  ·have hlt:p+k<len:=hend.1
   have h10:k<10:=hend.2;have hcell0: ∃x,a=some x∧w.cell? (x.add (p+k))=some (.int .u8 (zs.getD (p+k) 0)):=by
    obtain⟨x,hx,_,hc⟩:=HC.out.cell (p+k) (by rw[←HZ.out];exact hlt);exact⟨x,hx,hc⟩
   obtain⟨x,rfl,hcell⟩:=hcell0;have hrange:=HC.out.range (p+k);have hgd:l.getD k 0=zs.getD (p+k) 0:=by rw[HLD.out];simp [List.getD,List.getElem?_drop]
   obtain⟨z,hzz⟩: ∃z:Nat,zs.getD (p+k) 0=(z:Int):=⟨(zs.getD (p+k) 0).toNat,by omega⟩;rw[hzz] at hcell hrange hgd;have hnext:=Num.val_next l n0 q0 z k HN0.out HQ0.out (by rw[hgd];simp);have hqn:=Num.weight_next q0 k HQ0.out;have HNX:=hid hnext;have HQN:=hid hqn;have HG:=hid hgd;clear hnext hqn hzz hgd;have hA:IntKind.u64.wrap ((z:Int) % 128*(q0:Int))=((z % 128*q0 % 18446744073709551616:Nat):Int):=by
    rw[show(z:Int) % 128*(q0:Int)=((z % 128*q0:Nat):Int) by rw[Int.natCast_mul,Int.natCast_emod];rfl,IntKind.wrap_u64];generalize z % 128*q0=y;omega
   have hB:IntKind.u64.wrap ((n0:Int)+((z % 128*q0 % 18446744073709551616:Nat):Int))=(((n0+z % 128*q0 % 18446744073709551616) % 18446744073709551616:Nat):Int):=by
    rw[IntKind.wrap_u64];generalize z % 128*q0=y;omega
   have hQ:IntKind.u64.wrap ((q0:Int)*128)=((q0*128 % 18446744073709551616:Nat):Int):=by rw[IntKind.wrap_u64];omega
   have hn1:(n0+z % 128*q0 % 18446744073709551616) % 18446744073709551616<18446744073709551616:=Nat.mod_lt _ (by decide);have hq1:q0*128 % 18446744073709551616<18446744073709551616:=Nat.mod_lt _ (by decide);generalize (n0+z % 128*q0 % 18446744073709551616) % 18446744073709551616=n1 at*;generalize q0*128 % 18446744073709551616=q1 at*;generalize z % 128*q0 % 18446744073709551616=t at*;by_cases h128:z<128
   ·have hz128:=h128
    have hw1:IntKind.i64.wrap ((p:Int)+(k:Int)+1)=(p:Int)+(k:Int)+1:=by rw[IntKind.wrap_i64];omega
    have c1:0≤(p:Int)+(k:Int)+1∧(p:Int)+(k:Int)+1≤(cap:Int):=by omega
    have c2:p≤((p:Int)+(k:Int)+1).toNat:=by omega
    have c3:((p:Int)+(k:Int)+1).toNat - p=k+1:=by omega
    have c4: ¬cap=p:=by omega
    have TXT: ∀W,Below w.heap.size w W→(convert 39 9 (.slice (some (x.add p)) (k+1) (cap - p))).run Tryz.prog W= .ok (.string (strOfNums (l.take (k+1)))) W:=fun W hW=>by
     have h1:=((HC.out.below hW).drop p).take (k+1);rw[←HLD.out] at h1;exact h1.text (k+1) (cap - p) (by rw[List.length_take,HDL.out];omega)
    have hstop:=Num.dec_stop (l:=l) (k:=k) (n:=n1) HRD.out HBIG.out (by rw[HG.out];omega) (by rw[HDL.out];omega) HNX.out;have hse:=str_eq (xs:=Num.enc 9 n1) (ys:=l.take (k+1)) (Num.enc_range 9 n1 (Nat.lt_of_lt_of_le hn1 (by decide))) (fun y hy=>HRD.out y (List.mem_of_mem_take hy));have HST:=hid hstop;have HSE:=hid hse;clear hstop hse;go_wp2_with fail
    refine wp_region_held_drew (S:=fun W=>Below w.heap.size w W) (by kernel_rfl) (Below.refl _ _).drew (fun hHeld=>?_);refine zkH 0 (v:=?_) (h2:=?_) (h:=?_);rotate_left;focus (intro W hS;(try dsimp only at hS);go_simp;(try with_reducible rfl))
    try simp only[Act.put,zsA,zsS,zsZ]
    refine zkH 3 (v:=?_) (h2:=?_) (h:=?_);rotate_left;focus (intro W hS;(try dsimp only at hS);go_simp;(try with_reducible rfl))
    try simp only[Act.put,zsA,zsS,zsZ]
    refine zkH 4 (v:=?_) (h2:=?_) (h:=?_);rotate_left;focus (intro W hS;(try dsimp only at hS);go_simp;(try with_reducible rfl))
    try simp only[Act.put,zsA,zsS,zsZ]
    refine zkH 5 (v:=?_) (h2:=?_) (h:=?_);rotate_left;focus (intro W hS;(try dsimp only at hS);go_simp;(try with_reducible rfl))
    try simp only[Act.put,zsA,zsS,zsZ]
    refine zkH 6 (v:=?_) (h2:=?_) (h:=?_);rotate_left;focus (intro W hS;(try dsimp only at hS);go_simp;(try with_reducible rfl))
    try simp only[Act.put,zsA,zsS,zsZ]
    refine zkH 7 (v:=?_) (h2:=?_) (h:=?_);rotate_left;focus (intro W hS;(try dsimp only at hS);go_simp;(try with_reducible rfl))
    try simp only[Act.put,zsA,zsS,zsZ]
    refine zkH 8 (v:=?_) (h2:=?_) (h:=?_);rotate_left;focus (intro W hS;(try dsimp only at hS);have q:=TXT W hS;go_simp;(try with_reducible rfl))
    try simp only[Act.put,zsA,zsS,zsZ]
    refine zrH 1 (h:=fun K hK=>?_);rw[if_pos (by rfl)];go_simp
    with_reducible refine(refPut_any 9 n1 _ (by omega) (Nat.lt_of_lt_of_le hn1 (by decide)) hn1).mono ?_
    rintro e w3 ⟨v3,rfl,hr3,hb3⟩;have h3:=(Below.refl w.heap.size w).drew.trans hb3;have HT3:=hid (fun W (h:Below w3.heap.size w3 W)=>Row.text hr3 h);clear hr3 hb3;go_wp2_with fail
    refine hK.out _ _ h3 (fun hHeld=>?_);clear hK K;try simp only[Act.put,zsA,zsS,zsZ]
    clear hHeld;refine wpAnyH_sharper (S':=fun W=>Below w3.heap.size w3 W) (fun W h=>h3.trans (h.mono h3.size)) _ _ _ _ ?_;have hHeld:=Below.refl w3.heap.size w3;refine zkH 2 (v:=?_) (h2:=?_) (h:=?_);rotate_left;focus (intro W hS;(try dsimp only at hS);have q:=HT3.out W hS;go_simp;(try with_reducible rfl))
    try simp only[Act.put,zsA,zsS,zsZ]
    refine zkH 9 (v:=?_) (h2:=?_) (h:=?_);rotate_left;focus (intro W hS;(try dsimp only at hS);go_simp;(try with_reducible rfl))
    try simp only[Act.put,zsA,zsS,zsZ]
    refine wpAnyH_done (by kernel_rfl) ?_ _;have hbb:=HSE.out;generalize ((strOfNums (Num.enc 9 n1)).toList == (strOfNums (l.take (k+1))).toList)=bb at hbb ⊢;by_cases heq:Num.enc 9 n1=l.take (k+1)
    ·rw[decide_eq_true heq] at hbb
     subst hbb;have h2:Num.dec 10 0 0 l=some (n1,k+1):=HST.out.trans (if_pos heq);have HD:=hid h2;clear heq h2 HST;go_wp2
     go_ret3
     rw[HD.out];exact⟨by go_num,h3⟩
    ·rw[decide_eq_false heq] at hbb
     subst hbb;have h2:Num.dec 10 0 0 l=none:=HST.out.trans (if_neg heq);have HD:=hid h2;clear heq h2 HST;go_wp2
     go_ret3
     rw[HD.out];exact⟨rfl,h3⟩
   ·go_wp2
    go_round
    case rel=>
     have hbig:Hid (∀j,j<k+1→128≤l.getD j 0):=fun j hj=>by
      by_cases hjk:j<k
      ·exact HBIG.out j hjk
      ·obtain rfl:j=k:=by omega
       rw[HG.out];omega
     exact⟨_,_,_,_,_,_,⟨k+1,by omega,by omega,n1,rfl,q1,rfl,rfl,HNX,HQN,hn1,hq1,hbig⟩,rfl,rfl,rfl,rfl,rfl,by go_num⟩
    case measure=>simp [intOf];omega
  ·have HE:=hid hend
   clear hend;by_cases hlt:p+k<len
   ·have h10:k=10:=by have:=HE.out;omega
    subst h10;go_wp2
    go_ret3
    rw[Num.dec_tail HRD.out HBIG.out (.inr (Nat.le_refl _))];exact⟨rfl,Below.refl _ _⟩
   ·go_wp2
    go_ret3
    rw[Num.dec_tail HRD.out HBIG.out (.inl (by rw[HDL.out];omega))];exact⟨rfl,Below.refl _ _⟩
set_option maxRecDepth 100000 in
set_option maxHeartbeats 1000000 in
theorem refTakeText2_any (a:Option Addr) (len cap p:Nat) (zs:List Int) (w:World) (hlies:Reads w a zs) (hz:len=zs.length) (hl:len≤1000000) (hp:p≤len) (hcap:len≤cap):
  Calls Tryz.prog 66 #[.slice a len cap,.int .i64 (p:Int)] w fun e w'=>TookText w w' len p zs e (Num.dec 10 0 0 (zs.drop p)):=by
 have hlt:=fun n j h=>Num.dec_lt 10 0 0 (zs.drop p) n j (by omega) (by simp) (fun x hx=>hlies.hr x (List.mem_of_mem_drop hx)) h;have HT:=hid (refTake2_any a len cap p zs w hlies hz hl hp hcap);have HLT:=hid hlt;have HL:=hid hlies;have hzz:=hz;clear hlt hlies hz;have hdl:(zs.drop p).length=len - p:=by rw[List.length_drop];omega
 rw[hdl] at HLT;have HZ:=hid hzz;clear hzz hdl;obtain⟨D,hD⟩: ∃D,D=Num.dec 10 0 0 (zs.drop p):=⟨_,rfl⟩;rw[←hD] at HT HLT ⊢;clear hD;go_enter Tryz.func66,Tryz.ntmps66
 go_wp2_with fail
 with_reducible refine HT.out.mono ?_
 intro e w1 ht;clear HT;cases D with
 | none=>
  obtain⟨rfl,hb⟩:=ht;go_wp2_with fail
  go_ret3
  exact⟨rfl,hb⟩
 | some nk=>
  obtain⟨n,k⟩:=nk;obtain⟨rfl,hb⟩:=ht;obtain⟨hn,hk0,hk⟩:=HLT.out n k rfl;by_cases hbig:4096<n
  ·go_wp2_with fail
   go_ret3
   exact⟨hb,by rw[if_neg (by omega)];rfl⟩
  ·by_cases hfit:p+k+n≤len
   ·have HP:Hid (n≤4096∧p+k+n≤len):=⟨by omega,hfit⟩
    by_cases hc:cap=p+k
    ·obtain rfl:n=0:=by omega
     have hcv: ∀c:Nat,(convert 39 9 (.slice a 0 c)).run Tryz.prog w1= .ok (.string ByteArray.empty) w1:=fun c=>
      run_convert_bytes_zero w1 _ _ Tryz.underlying39 Tryz.underlying5 a c _ Tryz.underlying9
     go_wp2_with fail
     go_ret3
     exact⟨hb,by rw[if_pos HP.out];rfl⟩
    ·have hcv:(convert 39 9 (.slice (Option.map (fun x=>x.add (p+k)) a) n (cap - (p+k)))).run Tryz.prog w1= .ok (.string (strOfNums ((zs.drop (p+k)).take n))) w1:=
      (((HL.out.below hb).drop (p+k)).take n).text n _ (by have:=HZ.out;rw[List.length_take,List.length_drop];omega)
     go_wp2_with fail
     go_ret3
     exact⟨hb,by rw[if_pos HP.out];rfl⟩
   ·go_wp2_with fail
    go_ret3
    exact⟨hb,by rw[if_neg (by omega)];rfl⟩
set_option maxRecDepth 100000 in
set_option maxHeartbeats 2000000 in
theorem refParse2_any (a:Option Addr) (len cap:Nat) (bs:List Int) (w:World) (hz:len=bs.length) (hp:Reads w a bs) (hl:len≤1000000) (hcap:len≤cap):
  Calls Tryz.prog 32 #[.slice a len cap] w fun r w'=>TellsEnt w w' r (parseOf bs):=by
 subst hz;have hw0:Below w.heap.size w ((w.alloc (.cells #[.int .u64 0,.int .u64 0,.slice none 0 0] 55)).alloc (.cells #[.int .u64 0,.int .u64 0,.slice none 0 0] 55)):=((Below.refl _ _).alloc (Nat.le_refl _) _).alloc (by simp) _;have hb0:((w.alloc (.cells #[.int .u64 0,.int .u64 0,.slice none 0 0] 55)).alloc (.cells #[.int .u64 0,.int .u64 0,.slice none 0 0] 55)).heap[w.heap.size]?=some (.cells #[.int .u64 0,.int .u64 0,.slice none 0 0] 55 (0,0)):=by
  rw[(((Below.refl _ _).alloc (Nat.le_refl _) _:Below (w.alloc (.cells #[.int .u64 0,.int .u64 0,.slice none 0 0] 55)).heap.size _ _)).block w.heap.size (by simp)];exact heap_alloc_new _ _
 have hy0:((w.alloc (.cells #[.int .u64 0,.int .u64 0,.slice none 0 0] 55)).alloc (.cells #[.int .u64 0,.int .u64 0,.slice none 0 0] 55)).heap[w.heap.size+1]?=some (.cells #[.int .u64 0,.int .u64 0,.slice none 0 0] 55 (0,0)):=by
  have:=heap_alloc_new (w.alloc (.cells #[.int .u64 0,.int .u64 0,.slice none 0 0] 55)) (.cells #[.int .u64 0,.int .u64 0,.slice none 0 0] 55);simpa using this
 have HT:=hid (fun(W:World) (h:Below w.heap.size w W) (p:Nat) (hle:p≤bs.length)=>refTake2_any a bs.length cap p bs W (hp.below h) rfl hl hle hcap);have HTT:=hid (fun(W:World) (h:Below w.heap.size w W) (p:Nat) (hle:p≤bs.length)=>refTakeText2_any a bs.length cap p bs W (hp.below h) rfl hl hle hcap);have hlt:=fun(p:Nat) (n j:Nat) (h:Num.dec 10 0 0 (bs.drop p)=some (n,j))=>Num.dec_lt 10 0 0 (bs.drop p) n j (by omega) (by simp) (fun x hx=>hp.hr x (List.mem_of_mem_drop hx)) h;have HLT:=hid hlt;have HR:=hid hp.hr;have HP0:=hid hp;have HBX0:=hid hb0;have HBY0:=hid hy0;have HB0:=hid hw0;clear hp hlt hb0 hy0 hw0;go_enter Tryz.func32,Tryz.ntmps32
 go_wp2_with fail
 refine(HT.out _ HB0.out 0 (Nat.zero_le _)).mono ?_;rw[List.drop_zero];intro r w1 ht;cases h1:Num.dec 10 0 0 bs with
 | none=>
  rw[h1] at ht;obtain⟨rfl,hb⟩:=ht;have HE:=hid (show parseOf bs=none by simp only[parseOf,h1]);have HBX:=hid ((hb.block w.heap.size (lt_of_block HBX0.out)).trans HBX0.out);have HBY:=hid ((hb.block (w.heap.size+1) (lt_of_block HBY0.out)).trans HBY0.out);have HB:=hid (HB0.out.trans (hb.mono HB0.out.size));clear h1 hb;obtain⟨f0,f1,f2,c0,c1,c2⟩:=zbox HBX.out;obtain⟨-,-,-,k0,k1,k2⟩:=zbox HBY.out;go_wp2
  refine bodyPost_ret (v:= .tuple #[.agg #[.int .u64 0,.int .u64 0,.slice none 0 0],.int .i64 4]) ?_ rfl ?_
  ·have hx:=three_cells (x:= .int .u64 0) (y:= .int .u64 0) (z:= .slice none 0 0) HBX.out
   generalize ((w1.setCell ⟨w.heap.size,0,none⟩ (.int .u64 0)).setCell ⟨w.heap.size,1,none⟩ (.int .u64 0)).setCell ⟨w.heap.size,2,none⟩ (.slice none 0 0)=W at*;obtain⟨-,-,-,d0,d1,d2⟩:=zbox hx;simp [results,Tryz.results32,go_sem,d0,d1,d2]
  ·rw[HE.out]
   exact⟨rfl,three_below HB.out (Nat.le_refl _)⟩
 | some nk=>
  obtain⟨n,k⟩:=nk;rw[h1] at ht;obtain⟨rfl,hb⟩:=ht;have H1:=hid h1;obtain⟨hn,hk0,hk⟩:=HLT.out 0 n k (by rw[List.drop_zero];exact h1);have hkl:k≤bs.length:=by simpa using hk
  have HBX1:=hid ((hb.block w.heap.size (lt_of_block HBX0.out)).trans HBX0.out);have HBY1:=hid ((hb.block (w.heap.size+1) (lt_of_block HBY0.out)).trans HBY0.out);have HB1:=hid (HB0.out.trans (hb.mono HB0.out.size));have HN:=hid hn;clear h1 hb hk0 hk hn HBX0 HBY0;rw[show(((0:Nat):Int)+(k:Int))=((k:Nat):Int) by omega];go_wp2_with fail
  refine(HT.out _ HB1.out k hkl).mono ?_;intro r w2 ht;cases h2:Num.dec 10 0 0 (bs.drop k) with
  | none=>
   rw[h2] at ht;obtain⟨rfl,hb⟩:=ht;have HE:=hid (show parseOf bs=none by simp only[parseOf,H1.out,h2]);have HBX:=hid ((hb.block w.heap.size (lt_of_block HBX1.out)).trans HBX1.out);have HBY:=hid ((hb.block (w.heap.size+1) (lt_of_block HBY1.out)).trans HBY1.out);have HB:=hid (HB1.out.trans (hb.mono HB1.out.size));clear h2 hb;obtain⟨f0,f1,f2,c0,c1,c2⟩:=zbox HBX.out;obtain⟨-,-,-,k0,k1,k2⟩:=zbox HBY.out;go_wp2
   refine bodyPost_ret (v:= .tuple #[.agg #[.int .u64 0,.int .u64 0,.slice none 0 0],.int .i64 4]) ?_ rfl ?_
   ·have hx:=three_cells (x:= .int .u64 0) (y:= .int .u64 0) (z:= .slice none 0 0) HBX.out
    generalize ((w2.setCell ⟨w.heap.size,0,none⟩ (.int .u64 0)).setCell ⟨w.heap.size,1,none⟩ (.int .u64 0)).setCell ⟨w.heap.size,2,none⟩ (.slice none 0 0)=W at*;obtain⟨-,-,-,d0,d1,d2⟩:=zbox hx;simp [results,Tryz.results32,go_sem,d0,d1,d2]
   ·rw[HE.out]
    exact⟨rfl,three_below HB.out (Nat.le_refl _)⟩
  | some tj=>
   obtain⟨t,j⟩:=tj;rw[h2] at ht;obtain⟨rfl,hb⟩:=ht;have H2:=hid h2;obtain⟨hn,hk0,hk⟩:=HLT.out k t j h2;have hkj:k+j≤bs.length:=by rw[List.length_drop] at hk;omega
   have HBX2:=hid ((hb.block w.heap.size (lt_of_block HBX1.out)).trans HBX1.out);have HBY2:=hid ((hb.block (w.heap.size+1) (lt_of_block HBY1.out)).trans HBY1.out);have HB2:=hid (HB1.out.trans (hb.mono HB1.out.size));have HN2:=hid hn;clear h2 hb hk0 hk hn HBX1 HBY1;rw[show((k:Int)+(j:Int))=((k+j:Nat):Int) by omega];go_wp2_with fail
   refine(HTT.out _ HB2.out (k+j) hkj).mono ?_;intro r w3 ht;cases h3:Num.dec 10 0 0 (bs.drop (k+j)) with
   | none=>
    rw[h3] at ht;obtain⟨rfl,hb⟩:=ht;have HE:=hid (show parseOf bs=none by simp only[parseOf,H1.out,H2.out,h3]);have HBX:=hid ((hb.block w.heap.size (lt_of_block HBX2.out)).trans HBX2.out);have HBY:=hid ((hb.block (w.heap.size+1) (lt_of_block HBY2.out)).trans HBY2.out);have HB:=hid (HB2.out.trans (hb.mono HB2.out.size));clear h3 hb;obtain⟨f0,f1,f2,c0,c1,c2⟩:=zbox HBX.out;obtain⟨-,-,-,k0,k1,k2⟩:=zbox HBY.out;go_wp2
    refine bodyPost_ret (v:= .tuple #[.agg #[.int .u64 0,.int .u64 0,.slice none 0 0],.int .i64 4]) ?_ rfl ?_
    ·have hx:=three_cells (x:= .int .u64 0) (y:= .int .u64 0) (z:= .slice none 0 0) HBX.out
     generalize ((w3.setCell ⟨w.heap.size,0,none⟩ (.int .u64 0)).setCell ⟨w.heap.size,1,none⟩ (.int .u64 0)).setCell ⟨w.heap.size,2,none⟩ (.slice none 0 0)=W at*;obtain⟨-,-,-,d0,d1,d2⟩:=zbox hx;simp [results,Tryz.results32,go_sem,d0,d1,d2]
    ·rw[HE.out]
     exact⟨rfl,three_below HB.out (Nat.le_refl _)⟩
   | some mi=>
    obtain⟨m,i⟩:=mi;rw[h3] at ht;obtain⟨hb,hr⟩:=ht;have H3:=hid h3;have HBX:=hid ((hb.block w.heap.size (lt_of_block HBX2.out)).trans HBX2.out);have HBY:=hid ((hb.block (w.heap.size+1) (lt_of_block HBY2.out)).trans HBY2.out);have HB:=hid (HB2.out.trans (hb.mono HB2.out.size));clear h3 hb HBX2 HBY2;by_cases hfit:m≤4096∧k+j+i+m≤bs.length
    ·rw[if_pos hfit] at hr
     subst hr;obtain⟨hm,hf⟩:=hfit;have hdl:((bs.drop (k+j+i)).take m).length=m:=by rw[List.length_take,List.length_drop];omega
     have hrr: ∀x∈(bs.drop (k+j+i)).take m,0≤x∧x≤255:=fun x hx=>HR.out x (List.mem_of_mem_drop (List.mem_of_mem_take hx));rw[show(((k+j:Nat):Int)+(i:Int)+(m:Int))=((k+j+i+m:Nat):Int) by omega];have HP:=hid (fun h: ¬(m≤2000∧k+j+i+m=bs.length∧n≠0)=>parse_bad H1.out H2.out H3.out h);have HRS:=hid (fun h=>rec_same HR.out H1.out H2.out H3.out h);have HCV:=hid (Body.conv w3 ((bs.drop (k+j+i)).take m) hrr (by omega));have hcv:=Lib.run_convert_string_bytes (P:=Tryz.prog) w3 9 39 5 (strOfNums ((bs.drop (k+j+i)).take m)) Tryz.underlying9 Tryz.underlying39 Tryz.underlying5;rw[strOfNums_size] at hcv;have hbw:Below w3.heap.size w3 (Lib.bytesWorld w3 5 (strOfNums ((bs.drop (k+j+i)).take m))):=Lib.bytesWorld_below _ _ _;obtain⟨CC,hCC⟩: ∃CC,CC=grownCap w3 ((bs.drop (k+j+i)).take m).length 0 5:=⟨_,rfl⟩;rw[←hCC] at hcv HCV;generalize hBD:(bs.drop (k+j+i)).take m=BD at*;generalize hS:strOfNums BD=S at*;generalize hWB:Lib.bytesWorld w3 5 S=WB at*;obtain⟨x,hx⟩: ∃x,x=Ent.mk n t BD:=⟨_,rfl⟩;have HX:=hid hx;have hxl:x.body.length=m:=by rw[hx];exact hdl
     have hxi:x.ix=n:=by rw[hx]
     have hxt:x.term=t:=by rw[hx]
     have hxb:x.body=BD:=by rw[hx]
     have hbz:Below WB.heap.size WB (WB.alloc (.cells #[.int .u64 (n:Int),.int .u64 (t:Int),.slice (some ⟨w3.heap.size,0,none⟩) m CC] 55)):=(Below.refl _ _).alloc (Nat.le_refl _) _;have hb:=hbw.trans (hbz.mono hbw.size);have HBZ:=hid (heap_alloc_new WB (.cells #[.int .u64 (n:Int),.int .u64 (t:Int),.slice (some ⟨w3.heap.size,0,none⟩) m CC] 55));have HRE:=hid (show Reads (WB.alloc (.cells #[.int .u64 (n:Int),.int .u64 (t:Int),.slice (some ⟨w3.heap.size,0,none⟩) m CC] 55)) (some ⟨w3.heap.size,0,none⟩) x.body from by
      rw[hxb];exact(HCV.out.reads).1.below hbz)
     have HBC:=hid (HCV.out.below hbz);have HBX4:=hid ((hb.block w.heap.size (lt_of_block HBX.out)).trans HBX.out);have HBY4:=hid ((hb.block (w.heap.size+1) (lt_of_block HBY.out)).trans HBY.out);have HB4:=hid (HB.out.trans (hb.mono HB.out.size));have HL3:=hid (show w.heap.size<w3.heap.size from lt_of_block HBX.out);have HW3B:=hid hbw.size;have HDL:=hid hdl;have HLTN:=HN;have HLTT:=HN2;clear hCC hBD hS hb hx hxb hbw hbz HCV HBX HBY HB HLT HT HTT;rw[hdl] at hcv;clear hWB hdl;generalize ((k+j+i+m:Nat):Int)=Q at*;go_wp2_with fail
     generalize hW4:WB.alloc (.cells #[.int .u64 (n:Int),.int .u64 (t:Int),.slice (some ⟨w3.heap.size,0,none⟩) m CC] 55)=w4 at*;clear hW4 hcv;by_cases hn0:n=0
     ·have HE:=hid (HP.out fun h=>h.2.2 hn0)
      have HZR:=hid (refRecord_zero (t:Int) (.slice (some ⟨w3.heap.size,0,none⟩) m CC) w4);have hnz:(n:Int)=0:=by omega
      rw[hnz];refine HZR.out.mono ?_;rintro r w5 ⟨rfl,hb⟩;have HBX:=hid ((hb.block w.heap.size (lt_of_block HBX4.out)).trans HBX4.out);have HBY:=hid ((hb.block (w.heap.size+1) (lt_of_block HBY4.out)).trans HBY4.out);have HB:=hid (HB4.out.trans (hb.mono HB4.out.size));clear hb HP HRS HBX4 HBY4 HZR hrr;obtain⟨f0,f1,f2,c0,c1,c2⟩:=zbox HBX.out;obtain⟨-,-,-,k0,k1,k2⟩:=zbox HBY.out;go_wp2
      refine bodyPost_ret (v:= .tuple #[.agg #[.int .u64 0,.int .u64 0,.slice none 0 0],.int .i64 4]) ?_ rfl ?_
      ·have hx:=three_cells (x:= .int .u64 0) (y:= .int .u64 0) (z:= .slice none 0 0) HBX.out
       generalize ((w5.setCell ⟨w.heap.size,0,none⟩ (.int .u64 0)).setCell ⟨w.heap.size,1,none⟩ (.int .u64 0)).setCell ⟨w.heap.size,2,none⟩ (.slice none 0 0)=W at*;obtain⟨-,-,-,d0,d1,d2⟩:=zbox hx;simp [results,Tryz.results32,go_sem,d0,d1,d2]
      ·rw[HE.out]
       exact⟨rfl,three_below HB.out (Nat.le_refl _)⟩
     ·by_cases hm2:m≤2000
      ·have hok:x.ok:=⟨by omega,by rw[hxi];exact HLTN.out,by rw[hxt];exact HLTT.out,by omega,by rw[HX.out];exact hrr⟩
       have HPS:=hid (HRS.out (by rw[←HX.out];exact hok));rw[←HX.out] at HPS;have HRA:=hid (refRecord_any x (some ⟨w3.heap.size,0,none⟩) CC w4 hok HRE.out);rw[hxl,hxi,hxt] at HRA;refine HRA.out.mono ?_;rintro r w5 ⟨g5,c5,rfl,hr5,hb⟩;have HBX:=hid ((hb.block w.heap.size (lt_of_block HBX4.out)).trans HBX4.out);have HBY:=hid ((hb.block (w.heap.size+1) (lt_of_block HBY4.out)).trans HBY4.out);have HB:=hid (HB4.out.trans (hb.mono HB4.out.size));have hcr:=hr5.text (Below.refl _ _);have hcb:=(HP0.out.below HB.out).text bs.length cap rfl;have HEQ:=hid (str_eq (rec_range hok) HR.out);have HZ5:=hid ((hb.block _ (lt_of_block HBZ.out)).trans HBZ.out);have HC5:=hid (HBC.out.below hb);clear hb HP HRS HBX4 HBY4 HRA hrr hr5 HP0;by_cases hsm:recOf x=bs
       ·rw[if_pos hsm] at HPS
        have heq:((strOfNums (recOf x)).toList == (strOfNums bs).toList)=true:=HEQ.out.trans (decide_eq_true hsm);clear hsm;generalize strOfNums (recOf x)=S1 at*;generalize strOfNums bs=S2 at*;obtain⟨f0,f1,f2,c0,c1,c2⟩:=zbox HBX.out;have k0:w5.cell? ⟨WB.heap.size,0,none⟩=some (.int .u64 (n:Int)):=by rw[cell_of_row _ _ 0 _ _ _ HZ5.out];rfl
        have k1:w5.cell? ⟨WB.heap.size,1,none⟩=some (.int .u64 (t:Int)):=by rw[cell_of_row _ _ 1 _ _ _ HZ5.out];rfl
        have k2:w5.cell? ⟨WB.heap.size,2,none⟩=some (.slice (some ⟨w3.heap.size,0,none⟩) m CC):=by rw[cell_of_row _ _ 2 _ _ _ HZ5.out];rfl
        go_wp2
        have hlt:=HL3.out;refine bodyPost_ret (v:= .tuple #[.agg #[.int .u64 (n:Int),.int .u64 (t:Int),.slice (some ⟨w3.heap.size,0,none⟩) m CC],.int .i64 0]) ?_ rfl ?_
        ·have hx:=three_cells (x:= .int .u64 (n:Int)) (y:= .int .u64 (t:Int)) (z:= .slice (some ⟨w3.heap.size,0,none⟩) m CC) HBX.out
         generalize ((w5.setCell ⟨w.heap.size,0,none⟩ (.int .u64 (n:Int))).setCell ⟨w.heap.size,1,none⟩ (.int .u64 (t:Int))).setCell ⟨w.heap.size,2,none⟩ (.slice (some ⟨w3.heap.size,0,none⟩) m CC)=W at*;have d0:W.cell? ⟨w.heap.size,0,none⟩=some (.int .u64 (n:Int)):=by rw[cell_of_row _ _ 0 _ _ _ hx];rfl
         have d1:W.cell? ⟨w.heap.size,1,none⟩=some (.int .u64 (t:Int)):=by rw[cell_of_row _ _ 1 _ _ _ hx];rfl
         have d2:W.cell? ⟨w.heap.size,2,none⟩=some (.slice (some ⟨w3.heap.size,0,none⟩) m CC):=by rw[cell_of_row _ _ 2 _ _ _ hx];rfl
         simp [results,Tryz.results32,go_sem,d0,d1,d2]
        ·rw[HPS.out]
         refine⟨three_below HB.out (Nat.le_refl _),some ⟨w3.heap.size,0,none⟩,CC,by rw[hxl,hxi,hxt],?_⟩;have hcc:=HC5.out;rw[show BD=x.body by rw[HX.out]] at hcc;exact(hcc.keep fun q _ _ hq _ _=>three_other (by omega)).less (by omega)
       ·rw[if_neg hsm] at HPS
        have HE:=HPS;have hne:((strOfNums (recOf x)).toList == (strOfNums bs).toList)=false:=HEQ.out.trans (decide_eq_false hsm);generalize strOfNums (recOf x)=S1 at*;generalize strOfNums bs=S2 at*;obtain⟨f0,f1,f2,c0,c1,c2⟩:=zbox HBX.out;obtain⟨-,-,-,k0,k1,k2⟩:=zbox HBY.out;go_wp2
        refine bodyPost_ret (v:= .tuple #[.agg #[.int .u64 0,.int .u64 0,.slice none 0 0],.int .i64 4]) ?_ rfl ?_
        ·have hx:=three_cells (x:= .int .u64 0) (y:= .int .u64 0) (z:= .slice none 0 0) HBX.out
         generalize ((w5.setCell ⟨w.heap.size,0,none⟩ (.int .u64 0)).setCell ⟨w.heap.size,1,none⟩ (.int .u64 0)).setCell ⟨w.heap.size,2,none⟩ (.slice none 0 0)=W at*;obtain⟨-,-,-,d0,d1,d2⟩:=zbox hx;simp [results,Tryz.results32,go_sem,d0,d1,d2]
        ·rw[HE.out]
         exact⟨rfl,three_below HB.out (Nat.le_refl _)⟩
      ·have HE:=hid (HP.out fun h=>hm2 h.1)
       have HZR:=hid (refRecord_long (n:Int) (t:Int) (some ⟨w3.heap.size,0,none⟩) m CC w4 (by omega) (by omega));refine HZR.out.mono ?_;rintro r w5 ⟨rfl,hb⟩;have HBX:=hid ((hb.block w.heap.size (lt_of_block HBX4.out)).trans HBX4.out);have HBY:=hid ((hb.block (w.heap.size+1) (lt_of_block HBY4.out)).trans HBY4.out);have HB:=hid (HB4.out.trans (hb.mono HB4.out.size));clear hb HP HRS HBX4 HBY4 HZR hrr;obtain⟨f0,f1,f2,c0,c1,c2⟩:=zbox HBX.out;obtain⟨-,-,-,k0,k1,k2⟩:=zbox HBY.out;go_wp2
       refine bodyPost_ret (v:= .tuple #[.agg #[.int .u64 0,.int .u64 0,.slice none 0 0],.int .i64 4]) ?_ rfl ?_
       ·have hx:=three_cells (x:= .int .u64 0) (y:= .int .u64 0) (z:= .slice none 0 0) HBX.out
        generalize ((w5.setCell ⟨w.heap.size,0,none⟩ (.int .u64 0)).setCell ⟨w.heap.size,1,none⟩ (.int .u64 0)).setCell ⟨w.heap.size,2,none⟩ (.slice none 0 0)=W at*;obtain⟨-,-,-,d0,d1,d2⟩:=zbox hx;simp [results,Tryz.results32,go_sem,d0,d1,d2]
       ·rw[HE.out]
        exact⟨rfl,three_below HB.out (Nat.le_refl _)⟩
    ·rw[if_neg hfit] at hr
     subst hr;have HE:=hid (parse_bad H1.out H2.out H3.out (fun h=>hfit ⟨by omega,by omega⟩));obtain⟨f0,f1,f2,c0,c1,c2⟩:=zbox HBX.out;obtain⟨-,-,-,k0,k1,k2⟩:=zbox HBY.out;go_wp2
     refine bodyPost_ret (v:= .tuple #[.agg #[.int .u64 0,.int .u64 0,.slice none 0 0],.int .i64 4]) ?_ rfl ?_
     ·have hx:=three_cells (x:= .int .u64 0) (y:= .int .u64 0) (z:= .slice none 0 0) HBX.out
      generalize ((w3.setCell ⟨w.heap.size,0,none⟩ (.int .u64 0)).setCell ⟨w.heap.size,1,none⟩ (.int .u64 0)).setCell ⟨w.heap.size,2,none⟩ (.slice none 0 0)=W at*;obtain⟨-,-,-,d0,d1,d2⟩:=zbox hx;simp [results,Tryz.results32,go_sem,d0,d1,d2]
     ·rw[HE.out]
      exact⟨rfl,three_below HB.out (Nat.le_refl _)⟩
end Go.Proofs.YtalfbcbnljhldaaGreatDoor
