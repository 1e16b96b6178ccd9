/-  -/
import Derived.Test.YtalfbcbnljhldaaGreatDoorMbb
import Derived.Test.YtalfbcbnljhldaaGreatDoorMaz
namespace Go.Proofs.YtalfbcbnljhldaaGreatDoor
open Go.Lib (hid)
open Go.RowKit Go.Maps Go.Sort Dsk Wl
namespace Pz
set_option maxRecDepth 100000 in
set_option maxHeartbeats 2000000 in
theorem replace_room (g B N:Nat) (o:Tags) (M:Files) (l:Name) (a:Option Addr) (len cap:Nat) (zs:List Int) (w:World) (hd:DiskAt w B o g M N) (hz:len=zs.length) (hp:Reads w a zs) (hna:a=none→cap=0) (hzl:zs.length≤1048576)
  {ks0:List Name} (hk0:NamesOf M (fun f=>f.now.there) ks0) (hroom:(M.at l).now.there=true∨ks0.length<64) (h1:1≤l.length) (h2:l.length≤64) (hN:N<1000000000) (hn: ∀l f,M l=some f→f.later.length<1000000000) (hBw:B≤w.heap.size):
  Calls Tryz.prog 17 #[.pointer (some ⟨g,0,none⟩),.string ⟨l.toArray⟩,.slice a len cap] w fun e w'=>e= .returned (.int .i64 0)∧ ∃o',DiskAt w' B o' g (upd M l (some ((M.at l).chg ⟨true,zs,zs.length⟩))) (cntN M l N)∧Step o w o' w':=by
 subst hz;have hn1:(M.at l).later.length<1000000000:=by
  unfold Files.at;cases h:M l with
  | none=>simp [Fil.zero]
  | some f=>exact hn l f h
 have HD0:=hid hd;obtain⟨b,D,hd⟩:=hd;have hcell:=hd.cell;obtain⟨⟨t,sa,sn,sc,wh,la,ln,lc,ls⟩,hf,hrun,_⟩:=hd.look l (by unfold maxLen;omega);simp only[mkV] at hrun;have hb2:Below w.heap.size w (w.alloc (.cells #[.bool t,.slice sa sn sc,.int .i64 wh,.slice la ln lc,.bool ls] 98)):=(Below.refl _ _).alloc (Nat.le_refl _) _;have hH:Held (w.alloc (.cells #[.bool t,.slice sa sn sc,.int .i64 wh,.slice la ln lc,.bool ls] 98)) w.heap.size ⟨t,sa,sn,sc,wh,la,ln,lc,ls⟩:=heap_alloc_new _ _;obtain⟨P,q,na,cp,j,hnow,c0,c1,c2,hby⟩:=now_any hH (hf.below hb2 (fun k e=>(hd.own k e).2)) hn1;have HR:=hid (refusal_ok g b l w hcell h1 h2);have HN:=hid hnow;have HB:=hid hb2;have HOWN:=hid hd.own;have HF:=hid (names_all g B N o M _ ⟨b,D,hd.below hb2⟩ hN hn);have HC:=hid (fun W (hw:Below w.heap.size w W)=>clone_reads a zs.length cap zs W rfl (hp.below hw) (by omega) hna);have HS:=hid (fun(W:World) (hw:Below w.heap.size w W) a' c' (hr:Row W w.heap.size zs (.slice a' zs.length c'))=>change_any g B N o M l true a' zs.length c' zs.length zs W ⟨b,D,hd.below hw⟩
  (hr.less hBw) ⟨Nat.le_refl _,hzl,hp.hr⟩ (fun k e=>by
   have hk:w.heap.size≤k:=(hr.own k e).1;cases ho:o k with
   | none=>rfl
   | some t'=>have:=(hd.own k (by rw[ho];simp)).2;omega) h2 (by omega) hn1 (Nat.le_trans hBw hw.size))
 have hzd:decide (1048576<(zs.length:Int))=false:=by simp;omega
 clear hnow hf hd hH hb2 hby hp hna hzl hBw hn hn1;go_enter Tryz.func17,Tryz.ntmps17
 go_wp2_with fail
 refine HR.out.mono ?_;rintro e w1 ⟨rfl,rfl⟩;go_wp2_with fail
 refine HN.out.mono ?_;rintro e w1 ⟨rfl,rfl⟩;by_cases ht:(M.at l).now.there=true
 ·rw[ht] at c0
  go_wp2_with fail
  refine(HC.out _ HB.out).mono ?_;rintro e w3 ⟨v,rfl,hr,hb3⟩;have hb:=HB.out.trans (hb3.mono HB.out.size);replace hr:=hr.less HB.out.size;obtain⟨a',c',rfl⟩:=hr.shape;have HK:=hid (HS.out w3 hb a' c' hr);have HB3:=hid hb;have HRO:=hid (fun k e=>(hr.own k e).1);clear hr hb3 hb;go_wp2_with fail
  refine HK.out.mono ?_;rintro e w5 ⟨rfl,o',hd',hst⟩;have HD:=hid hd';have HST:=hid (hst.behind HB3.out HRO.out);clear hd' hst;go_wp2
  go_ret
  exact⟨rfl,o',HD.out,HST.out⟩
 ·have ht':(M.at l).now.there=false:=by simpa using ht
  rw[ht'] at c0;have hN64:ks0.length<64:=hroom.elim (fun h=>absurd h ht) id;go_wp2_with fail
  refine HF.out.mono ?_;rintro e w4 ⟨ks,ka,kc,rfl,hks,_,hb4,hkl⟩;have hd64:decide (64≤(ks.length:Int))=false:=by have:=NamesOf.one hk0 hks;subst this;simp;omega
  have HB4:=hid (HB.out.trans (hb4.mono HB.out.size));clear hks hb4 hkl hN64;go_wp2_with fail
  refine(HC.out _ HB4.out).mono ?_;rintro e w3 ⟨v,rfl,hr,hb3⟩;have hb:=HB4.out.trans (hb3.mono HB4.out.size);replace hr:=hr.less HB4.out.size;obtain⟨a',c',rfl⟩:=hr.shape;have HK:=hid (HS.out w3 hb a' c' hr);have HB3:=hid hb;have HRO:=hid (fun k e=>(hr.own k e).1);clear hr hb3 hb;go_wp2_with fail
  refine HK.out.mono ?_;rintro e w5 ⟨rfl,o',hd',hst⟩;have HD:=hid hd';have HST:=hid (hst.behind HB3.out HRO.out);clear hd' hst;go_wp2
  go_ret
  exact⟨rfl,o',HD.out,HST.out⟩
set_option maxRecDepth 100000 in
set_option maxHeartbeats 2000000 in
theorem replace_full (g B N:Nat) (o:Tags) (M:Files) (l:Name) (a:Option Addr) (len cap:Nat) (zs:List Int) (w:World) (hd:DiskAt w B o g M N) (hz:len=zs.length) (hp:Reads w a zs) (hna:a=none→cap=0) (hzl:zs.length≤1048576)
  {ks0:List Name} (hk0:NamesOf M (fun f=>f.now.there) ks0) (hno:(M.at l).now.there=false) (hfull:64≤ks0.length) (h1:1≤l.length) (h2:l.length≤64) (hN:N<1000000000) (hn: ∀l f,M l=some f→f.later.length<1000000000) (hBw:B≤w.heap.size):
  Calls Tryz.prog 17 #[.pointer (some ⟨g,0,none⟩),.string ⟨l.toArray⟩,.slice a len cap] w fun e w'=>e= .returned (.int .i64 6)∧Below w.heap.size w w':=by
 subst hz;have hn1:(M.at l).later.length<1000000000:=by
  unfold Files.at;cases h:M l with
  | none=>simp [Fil.zero]
  | some f=>exact hn l f h
 have HD0:=hid hd;obtain⟨b,D,hd⟩:=hd;have hcell:=hd.cell;obtain⟨⟨t,sa,sn,sc,wh,la,ln,lc,ls⟩,hf,hrun,_⟩:=hd.look l (by unfold maxLen;omega);simp only[mkV] at hrun;have hb2:Below w.heap.size w (w.alloc (.cells #[.bool t,.slice sa sn sc,.int .i64 wh,.slice la ln lc,.bool ls] 98)):=(Below.refl _ _).alloc (Nat.le_refl _) _;have hH:Held (w.alloc (.cells #[.bool t,.slice sa sn sc,.int .i64 wh,.slice la ln lc,.bool ls] 98)) w.heap.size ⟨t,sa,sn,sc,wh,la,ln,lc,ls⟩:=heap_alloc_new _ _;obtain⟨P,q,na,cp,j,hnow,c0,c1,c2,hby⟩:=now_any hH (hf.below hb2 (fun k e=>(hd.own k e).2)) hn1;have HR:=hid (refusal_ok g b l w hcell h1 h2);have HN:=hid hnow;have HB:=hid hb2;have HOWN:=hid hd.own;have HF:=hid (names_all g B N o M _ ⟨b,D,hd.below hb2⟩ hN hn);have HC:=hid (fun W (hw:Below w.heap.size w W)=>clone_reads a zs.length cap zs W rfl (hp.below hw) (by omega) hna);have HS:=hid (fun(W:World) (hw:Below w.heap.size w W) a' c' (hr:Row W w.heap.size zs (.slice a' zs.length c'))=>change_any g B N o M l true a' zs.length c' zs.length zs W ⟨b,D,hd.below hw⟩
  (hr.less hBw) ⟨Nat.le_refl _,hzl,hp.hr⟩ (fun k e=>by
   have hk:w.heap.size≤k:=(hr.own k e).1;cases ho:o k with
   | none=>rfl
   | some t'=>have:=(hd.own k (by rw[ho];simp)).2;omega) h2 (by omega) hn1 (Nat.le_trans hBw hw.size))
 have hzd:decide (1048576<(zs.length:Int))=false:=by simp;omega
 clear hnow hf hd hH hb2 hby hp hna hzl hBw hn hn1;go_enter Tryz.func17,Tryz.ntmps17
 go_wp2_with fail
 refine HR.out.mono ?_;rintro e w1 ⟨rfl,rfl⟩;go_wp2_with fail
 refine HN.out.mono ?_;rintro e w1 ⟨rfl,rfl⟩;rw[hno] at c0;go_wp2_with fail
 refine HF.out.mono ?_;rintro e w4 ⟨ks,ka,kc,rfl,hks,_,hb4,hkl⟩;have hd64:decide (64≤(ks.length:Int))=true:=by have:=NamesOf.one hk0 hks;subst this;simp;omega
 have HB4:=hid (HB.out.trans (hb4.mono HB.out.size));clear hks hb4 hkl;go_wp2
 go_ret
 exact⟨rfl,HB4.out⟩
set_option maxRecDepth 100000 in
set_option maxHeartbeats 2000000 in
theorem append_room (g B N:Nat) (o:Tags) (M:Files) (l:Name) (a:Option Addr) (cap:Nat) (zs:List Int) (w:World) (hd:DiskAt w B o g M N) (hp:Reads w a zs) (hna:a=none→cap=0) (ht:(M.at l).now.there=false)
  (hzl:zs.length≤1048576) (h1:1≤l.length) (h2:l.length≤64) {ks0:List Name} (hk0:NamesOf M (fun f=>f.now.there) ks0) (hroom:ks0.length<64) (hN:N<1000000000) (hn: ∀l f,M l=some f→f.later.length<1000000000) (hBw:B≤w.heap.size):
  Calls Tryz.prog 71 #[.pointer (some ⟨g,0,none⟩),.string ⟨l.toArray⟩,.slice a zs.length cap] w fun e w'=>e= .returned (.int .i64 0)∧ ∃o',DiskAt w' B o' g (upd M l (some ((M.at l).chg ⟨true,zs,zs.length⟩))) (cntN M l N)∧Step o w o' w':=by
 have hn1:(M.at l).later.length<1000000000:=by
  unfold Files.at;cases h:M l with
  | none=>simp [Fil.zero]
  | some f=>exact hn l f h
 obtain⟨b,D,hd⟩:=hd;have hcell:=hd.cell;obtain⟨⟨t,sa,sn,sc,wh,la,ln,lc,ls⟩,hf,hrun,_⟩:=hd.look l (by unfold maxLen;omega);simp only[mkV] at hrun;have hb2:Below w.heap.size w (w.alloc (.cells #[.bool t,.slice sa sn sc,.int .i64 wh,.slice la ln lc,.bool ls] 98)):=(Below.refl _ _).alloc (Nat.le_refl _) _;have hH:Held (w.alloc (.cells #[.bool t,.slice sa sn sc,.int .i64 wh,.slice la ln lc,.bool ls] 98)) w.heap.size ⟨t,sa,sn,sc,wh,la,ln,lc,ls⟩:=heap_alloc_new _ _;obtain⟨P,q,na,cp,j,hnow,c0,c1,c2,hby⟩:=now_any hH (hf.below hb2 (fun k e=>(hd.own k e).2)) hn1;rw[ht] at c0;have HR:=hid (refusal_ok g b l w hcell h1 h2);have HN:=hid hnow;have HB:=hid hb2;have HS:=hid (replace_room g B N o M l a zs.length cap zs _ ⟨b,D,hd.below hb2⟩ rfl (hp.below hb2) hna hzl hk0 (.inr hroom) h1 h2 (by omega) hn (Nat.le_trans hBw hb2.size));clear hnow hby hf hd hn hn1 hH hb2 ht hBw hp hna;go_enter Tryz.func71,Tryz.ntmps71
 go_wp2_with fail
 refine HR.out.mono ?_;rintro e w1 ⟨rfl,rfl⟩;go_wp2_with fail
 refine HN.out.mono ?_;rintro e w1 ⟨rfl,rfl⟩;go_wp2_with fail
 refine HS.out.mono ?_;rintro e w1 ⟨rfl,o',hd',hst⟩;have HD:=hid hd';have HST:=hid ((Step.of_below o HB.out).trans hst);clear hd' hst;go_wp2
 go_ret
 exact⟨rfl,o',HD.out,HST.out⟩
set_option maxRecDepth 100000 in
set_option maxHeartbeats 2000000 in
theorem append_full (g B N:Nat) (o:Tags) (M:Files) (l:Name) (a:Option Addr) (cap:Nat) (zs:List Int) (w:World) (hd:DiskAt w B o g M N) (hp:Reads w a zs) (hna:a=none→cap=0) (ht:(M.at l).now.there=false)
  (hzl:zs.length≤1048576) (h1:1≤l.length) (h2:l.length≤64) {ks0:List Name} (hk0:NamesOf M (fun f=>f.now.there) ks0) (hfull:64≤ks0.length) (hN:N<1000000000) (hn: ∀l f,M l=some f→f.later.length<1000000000) (hBw:B≤w.heap.size):
  Calls Tryz.prog 71 #[.pointer (some ⟨g,0,none⟩),.string ⟨l.toArray⟩,.slice a zs.length cap] w fun e w'=>e= .returned (.int .i64 6)∧Below w.heap.size w w':=by
 have hno:=ht;have hn1:(M.at l).later.length<1000000000:=by
  unfold Files.at;cases h:M l with
  | none=>simp [Fil.zero]
  | some f=>exact hn l f h
 obtain⟨b,D,hd⟩:=hd;have hcell:=hd.cell;obtain⟨⟨t,sa,sn,sc,wh,la,ln,lc,ls⟩,hf,hrun,_⟩:=hd.look l (by unfold maxLen;omega);simp only[mkV] at hrun;have hb2:Below w.heap.size w (w.alloc (.cells #[.bool t,.slice sa sn sc,.int .i64 wh,.slice la ln lc,.bool ls] 98)):=(Below.refl _ _).alloc (Nat.le_refl _) _;have hH:Held (w.alloc (.cells #[.bool t,.slice sa sn sc,.int .i64 wh,.slice la ln lc,.bool ls] 98)) w.heap.size ⟨t,sa,sn,sc,wh,la,ln,lc,ls⟩:=heap_alloc_new _ _;obtain⟨P,q,na,cp,j,hnow,c0,c1,c2,hby⟩:=now_any hH (hf.below hb2 (fun k e=>(hd.own k e).2)) hn1;rw[ht] at c0;have HR:=hid (refusal_ok g b l w hcell h1 h2);have HN:=hid hnow;have HB:=hid hb2;have HS:=hid (replace_full g B N o M l a zs.length cap zs _ ⟨b,D,hd.below hb2⟩ rfl (hp.below hb2) hna hzl hk0 hno hfull h1 h2 (by omega) hn (Nat.le_trans hBw hb2.size));clear hnow hby hf hd hn hn1 hH hb2 ht hBw hp hna;go_enter Tryz.func71,Tryz.ntmps71
 go_wp2_with fail
 refine HR.out.mono ?_;rintro e w1 ⟨rfl,rfl⟩;go_wp2_with fail
 refine HN.out.mono ?_;rintro e w1 ⟨rfl,rfl⟩;go_wp2_with fail
 refine HS.out.mono ?_;rintro e w1 ⟨rfl,hb9⟩;have HST:=hid (HB.out.trans (hb9.mono HB.out.size));clear hb9;go_wp2
 go_ret
 exact⟨rfl,HST.out⟩
theorem replace_empty {w:World} {B g N:Nat} {o:Tags} {M:Files} (h:DiskAt w B o g M N) (y:Value):
  Calls Tryz.prog 17 #[.pointer (some ⟨g,0,none⟩),.string ⟨#[]⟩,y] w fun e w'=>e= .returned (.int .i64 2)∧w=w':=by
 obtain⟨b,D,hd⟩:=h;have H:=hid (refusal_empty g b w hd.cell);clear hd;go_enter Tryz.func17,Tryz.ntmps17
 go_wp2_with fail
 refine H.out.mono ?_;rintro e w1 ⟨rfl,rfl⟩;go_wp2
 go_ret
 exact⟨rfl,rfl⟩
end Pz
end Go.Proofs.YtalfbcbnljhldaaGreatDoor

namespace Go.Proofs.YtalfbcbnljhldaaGreatDoor
open Go.Lib (hid)
open Go.RowKit Go.Maps Go.Sort Dsk Wl
namespace Pz
set_option maxRecDepth 100000 in
set_option maxHeartbeats 2000000 in
theorem put_top {w:World} {B g N:Nat} {o:Tags} {M:Files} (h:Live w B o g M N) (sb:Nat) (c:Cur) (e:Ent) (a:Option Addr) (cp:Nat) (U:Nat) (hsb:SBox w o sb c) (hc0:c.num=99999999) (hc1:8≤c.n) (hcn:c.n≤1000000000) (hM:(M (nameOf c.num)).isSome=true) (hUs:U≤sb) (he:e.ok) (hr:ReadsF w o U a e.body):
  Calls Tryz.prog 38 #[.pointer (some ⟨sb,0,none⟩),.pointer (some ⟨g,0,none⟩),.agg #[.int .u64 (e.ix:Int),.int .u64 (e.term:Int),.slice a e.body.length cp]] w fun r w'=>r= .returned (.int .i64 6)∧ ∃o',DiskAt w' B o' g (syncM M c) N∧StepU sb o w o' w'∧SBox w' o' sb c:=by
 obtain⟨⟨x,y,z,hbx⟩,hfree⟩:=hsb;have hsbs:=lt_of_block hbx;have hal:Below w.heap.size w (w.alloc (.cells #[.int .u64 (e.ix:Int),.int .u64 (e.term:Int),.slice a e.body.length cp] 55)):=(Below.refl _ _).alloc (Nat.le_refl _) _;have hbx1:=(hal.block sb hsbs).trans hbx;have s0:(w.alloc (.cells #[.int .u64 (e.ix:Int),.int .u64 (e.term:Int),.slice a e.body.length cp] 55)).cell? ⟨sb,0,none⟩=some (.int .i64 (c.num:Int)):=by rw[cell_of_row _ _ 0 _ _ _ hbx1];rfl
 have s1:(w.alloc (.cells #[.int .u64 (e.ix:Int),.int .u64 (e.term:Int),.slice a e.body.length cp] 55)).cell? ⟨sb,1,none⟩=some x:=by rw[cell_of_row _ _ 1 _ _ _ hbx1];rfl
 have s2:(w.alloc (.cells #[.int .u64 (e.ix:Int),.int .u64 (e.term:Int),.slice a e.body.length cp] 55)).cell? ⟨sb,2,none⟩=some y:=by rw[cell_of_row _ _ 2 _ _ _ hbx1];rfl
 have s3:(w.alloc (.cells #[.int .u64 (e.ix:Int),.int .u64 (e.term:Int),.slice a e.body.length cp] 55)).cell? ⟨sb,3,none⟩=some (.int .i64 (c.n:Int)):=by rw[cell_of_row _ _ 3 _ _ _ hbx1];rfl
 have s4:(w.alloc (.cells #[.int .u64 (e.ix:Int),.int .u64 (e.term:Int),.slice a e.body.length cp] 55)).cell? ⟨sb,4,none⟩=some z:=by rw[cell_of_row _ _ 4 _ _ _ hbx1];rfl
 have HE:=hid he;have heb:(w.alloc (.cells #[.int .u64 (e.ix:Int),.int .u64 (e.term:Int),.slice a e.body.length cp] 55)).heap[w.heap.size]?=some (.cells #[.int .u64 (e.ix:Int),.int .u64 (e.term:Int),.slice a e.body.length cp] 55 (0,0)):=heap_alloc_new _ _;obtain⟨k,n⟩:=c;have hsM:syncM M ⟨k,n⟩=upd M (nameOf k) (settled (M.at (nameOf k)).now):=if_pos hc1;rw[hsM];dsimp only at*;have hg0:((k:Int) == 0)=false:=by rw[beq_eq_false_iff_ne];omega
 have hgt:((k:Int) == 99999999)=true:=by rw[beq_iff_eq];omega
 have hcast:((k+1:Nat):Int)=(k:Int)+1:=by omega
 have hg8:decide ((8:Int)≤(n:Int))=true:=by simp;omega
 have HRECF:=hid (fun(W:World) (hW:Reads W a e.body)=>record_any e a cp W he hW);have HL1:=hid (h.below hal);have HNM0:=hid (HL1.out.name k x y (.int .i64 (n:Int)) z (by omega));have HM:=hid hM;have HR:=hid (show ReadsF (w.alloc (.cells #[.int .u64 (e.ix:Int),.int .u64 (e.term:Int),.slice a e.body.length cp] 55)) o U a e.body from⟨hr.1.below hal,hr.2⟩);have HAL:=hid hal;have HBX1:=hid hbx1;have HEB1:=hid heb;have HSBS:=hid hsbs;have HFREE:=hid hfree;have HFE:=hid (h.free (Nat.le_refl _));have HC0:=hid hc0;clear h hal hbx hbx1 he hr hfree hsbs heb hM hsM hc0;go_enter Tryz.func38,Tryz.ntmps38
 go_wp2_with fail
 refine HNM0.out.mono ?_;rintro r w2 ⟨rfl,hb2⟩;have HSY:=hid (sync_any g B N o M (nameOf k) w2 (HL1.out.disk.below hb2) HM.out (by rw[name_len];decide) (by rw[name_len];decide) (by have:=HL1.out.few;omega) (HL1.out.at_ _));have HB2:=hid hb2;clear hb2 HNM0 s0 s1 s2 s3 s4;go_wp2_with fail
 refine HSY.out.mono ?_;rintro r w3 ⟨rfl,o3,hd3,hs3⟩;have hst:Step o (w.alloc (.cells #[.int .u64 (e.ix:Int),.int .u64 (e.term:Int),.slice a e.body.length cp] 55)) o3 w3:=(Step.of_below o HB2.out).trans hs3;have hsb1:sb<(w.alloc (.cells #[.int .u64 (e.ix:Int),.int .u64 (e.term:Int),.slice a e.body.length cp] 55)).heap.size:=by have:=HSBS.out;simp;omega
 have hbx3:=(hst.block sb hsb1 HFREE.out).trans HBX1.out;have heb3:=(hst.block w.heap.size (by simp) HFE.out).trans HEB1.out;have hfree3:o3 sb=none:=hst.free sb hsb1 HFREE.out (by simp [Value.ownBlock]);have hr3:=HR.out.stepU (hst.toU sb) hUs (by omega);have s0:w3.cell? ⟨sb,0,none⟩=some (.int .i64 (k:Int)):=by rw[cell_of_row _ _ 0 _ _ _ hbx3];rfl
 have s3:w3.cell? ⟨sb,3,none⟩=some (.int .i64 (n:Int)):=by rw[cell_of_row _ _ 3 _ _ _ hbx3];rfl
 have HBX3:=hid hbx3;have HST:=hid hst;have HF3:=hid hfree3;have HD3:=hid hd3;clear hd3 hs3 hst hsb1 hbx3 heb3 hfree3 hr3 HSY HL1 HBX1 HEB1;go_wp2_with fail
 go_ret
 exact⟨rfl,o3,HD3.out,((Step.of_below o HAL.out).trans HST.out).toU sb,⟨⟨_,_,_,HBX3.out⟩,HF3.out⟩⟩
theorem inv_tame {M:Files} (h:Inv M):Tame M:=fun l f hf=>⟨(h.file l f hf).name,by have:=(h.file l f hf).few;omega⟩
theorem appends_room {B g:Nat} {M:Files} {N:Nat} {l:Name} {zs:List Int} (hi:Inv M) (hz:zs.length≤2050) (ht:(M.at l).now.there=true→(M.at l).now.bs.length≤17000) (h1:1≤l.length) (h2:l.length≤64) (hN:N≤5000) (hr:Room M l):
  AppendsTo B g M N l zs 0 (upd M l (some (appF (M.at l) zs))) (cntN M l N):=by
 intro w o a cap hd hB hrd hna;cases hth:(M.at l).now.there with
 | true=>
  have hap:appF (M.at l) zs=(M.at l).app zs:=if_pos hth;have:=ht hth;rw[hap];exact append_there g B N o M l a cap zs w hd hrd hna hth (by omega) h1 h2 (by omega) (by have:=(hi.at_size l).2;omega) hB
 | false=>
  have hap:appF (M.at l) zs=(M.at l).chg ⟨true,zs,zs.length⟩:=if_neg (by rw[hth];decide);rw[hap];rcases hr with h0 | ⟨ks,hk,hl⟩
  ·rw[h0] at hth;cases hth
  ·exact append_room g B N o M l a cap zs w hd hrd hna hth (by omega) h1 h2 hk hl (by omega) (fun l f hf=>by have:=(hi.file l f hf).few;omega) hB
theorem appends_full {B g:Nat} {M:Files} {N:Nat} {l:Name} {zs:List Int} (hi:Inv M) (hz:zs.length≤2050) (h1:1≤l.length) (h2:l.length≤64) (hN:N≤5000) (hr:Full M l):
  AppendsTo B g M N l zs 6 M N:=by
 intro w o a cap hd hB hrd hna;obtain⟨hth,ks,hk,hl⟩:=hr;refine(append_full g B N o M l a cap zs w hd hrd hna hth (by omega) h1 h2 hk hl (by omega) (fun l f hf=>by have:=(hi.file l f hf).few;omega) hB).mono ?_;rintro e w' ⟨rfl,hb⟩;exact⟨rfl,o,hd.below hb,Step.of_below o hb⟩
section
variable {B g N N2:Nat} {M M2:Files} {L:List (Nat×List Ent)} {E E':List Ent} {e:Ent} {er:Int}
theorem cur_small (h:Whole M L E) (hi:Inv M):(curL L).n≤2222:=by
 by_cases hL:L= []
 ·subst hL;simp [curL]
 ·obtain⟨L,x,rfl⟩: ∃L' x,L=L'++ [x]:=⟨L.dropLast,L.getLast hL,(List.dropLast_concat_getLast hL).symm⟩
  rw[curL_snoc];exact(h.small hi).2 x (by simp)
theorem putsTo_of (h:Whole M L E) (hi:Inv M) (he:e.ok) (hk:(curL L).num<99999999∨(curL L).n<8) (hA:AppendsTo B g (syncM M (curL L)) N (nameOf (curL L).next.num) (frm e) er M2 N2) (hT2:Tame M2) (hN2:N2≤5000):
  PutsTo B g M N (curL L) e er M2 N2 ⟨(curL L).next.num,(curL L).next.n+1⟩:=by
 intro w o sb U a cp hl hsb hr hU hB;have hA:=hid hA;have hc:=cur_small h hi;have fin: ∀ {r:Ending} {w':World} {c2:Cur},(r= .returned (.int .i64 er)∧ ∃o',DiskAt w' B o' g M2 N2∧StepU sb o w o' w'∧SBox w' o' sb c2)→r= .returned (.int .i64 er)∧ ∃o',Live w' B o' g M2 N2∧StepU sb o w o' w'∧SBox w' o' sb c2:=by
  rintro r w' c2 ⟨rfl,o',a1,a2,a3⟩;exact⟨rfl,o',hl.stepU a2 hB a1 hT2 hN2,a2,a3⟩
 by_cases h8:8≤(curL L).n
 ·have hk0:(curL L).num<99999999:=hk.resolve_right (by omega)
  have hk1:1≤(curL L).num∧(M (nameOf (curL L).num)).isSome=true:=by
   by_cases hL:L= []
   ·subst hL;exact absurd h8 (by decide)
   ·obtain⟨L,x,rfl⟩: ∃L' x,L=L'++ [x]:=⟨L.dropLast,L.getLast hL,(List.dropLast_concat_getLast hL).symm⟩
    obtain⟨hx1,hx2,_,_⟩:=h.last;rw[curL_snoc];exact⟨hx1.1,there_some hx2⟩
  have hnx:(curL L).next=⟨(curL L).num+1,0⟩:=next_full h8;rw[hnx] at hA ⊢;exact(put_full hl sb (curL L) e a cp U hsb ⟨hk1.1,hk0⟩ h8 (by omega) hk1.2 hU he hr hB hA).mono fun r w' hh=>fin hh
 ·have hs:syncM M (curL L)=M:=if_neg h8
  rw[hs] at hA;by_cases hk0:(curL L).num=0
  ·have hnx:(curL L).next=⟨(curL L).num+1,0⟩:=by
    have:(curL L).fresh=true:=by simp [Cur.fresh,hk0]
    rw[Cur.next,if_pos this]
   rw[hnx] at hA ⊢;exact(put_first hl sb (curL L) e a cp U hsb hk0 (Nat.lt_of_not_le h8) hU he hr hB hA).mono fun r w' hh=>fin hh
  ·have hnx:(curL L).next=curL L:=next_same hk0 h8
   have hle:(curL L).num≤99999999:=by
    have:=(h.next' hk).1;rw[hnx] at this;exact this.2
   rw[hnx] at hA ⊢;exact(put_more hl sb (curL L) e a cp U hsb (by simp [Cur.fresh,hk0,h8]) hle he hr hB hA).mono fun r w' hh=>fin hh
theorem putsTo_top (h:Whole M L E) (hi:Inv M) (he:e.ok) (h8:8≤(curL L).n) (h9:(curL L).num=99999999) (hN:N≤5000):PutsTo B g M N (curL L) e 6 (syncM M (curL L)) N (curL L):=by
 intro w o sb U a cp hl hsb hr hU hB;have hc:=cur_small h hi;have hM:(M (nameOf (curL L).num)).isSome=true:=by
  obtain⟨L,x,rfl⟩:=curL_cases h9;obtain⟨hx1,hx2,_,_⟩:=h.last;rw[curL_snoc];exact there_some hx2
 refine(put_top hl sb (curL L) e a cp U hsb h9 h8 (by omega) hM hU he hr).mono ?_;rintro r w' ⟨rfl,o',a1,a2,a3⟩;exact⟨rfl,o',hl.stepU a2 hB a1 (inv_tame (hi.sync _)) hN,a2,a3⟩
end
theorem puts_of {B g:Nat} : ∀(es:List Ent) {M M2:Files} {L L2:List (Nat×List Ent)} {E E':List Ent} {N:Nat} {er:Int},PutsL M L es er M2 L2→Inv M→Whole M L E→(∀e∈es,e.ok)→chain E es=some E'→N+es.length≤4000→
  ∃N2,N2≤N+es.length∧Puts B g M N (curL L) es er M2 N2
 | [],M,M2,L,L2,E,E',N,er,h,_,_,_,_,_=>by
  cases h;exact⟨N,Nat.le_refl _,.nil M N (curL L)⟩
 | e::es,M,M2,L,L2,E,E',N,er,h,hi,hW,hok,hc,hN=>by
  cases hf:Wl.follow E e with
  | none=>simp [chain,hf] at hc
  | some E1=>
   rw[chain_cons es hf] at hc;have he:=hok e (by simp);simp only[List.length_cons] at hN ⊢;cases h with
   | put hk hr hp=>
    obtain⟨h1,h2,h3⟩:=hW.next' hk;have hcn:=cntN_le (syncM M (curL L)) (nameOf (curL L).next.num) N;have hi2:=hi.put hW he hk hr;have hA:=appends_room (B:=B) (g:=g) (N:=N) (hi.sync (curL L)) (frm_len he).2 (fun ht=>(h2 ht).1) (by rw[name_len];decide) (by rw[name_len];decide) (by omega) hr;obtain⟨N2,hN2,hP⟩:=puts_of es (B:=B) (g:=g) (N:=cntN (syncM M (curL L)) (nameOf (curL L).next.num) N) hp hi2 (hW.put' he hf hk) (fun x hx=>hok x (by simp [hx])) hc (by omega);have hcur:=curL_put L hW.pos e;rw[hcur] at hP;exact⟨N2,by omega,.step (putsTo_of hW hi he hk hA (inv_tame hi2) (by omega)) hP⟩
   | top h8 h9=>exact⟨N,by omega,.stop (putsTo_top hW hi he h8 h9 (by omega)) (by decide)⟩
   | full hk hr=>
    have hA:=appends_full (B:=B) (g:=g) (N:=N) (zs:=frm e) (hi.sync (curL L)) (frm_len he).2 (by rw[name_len];decide) (by rw[name_len];decide) (by omega) hr;exact⟨N,by omega,.stop (putsTo_of hW hi he hk hA (inv_tame (hi.sync _)) (by omega)) (by decide)⟩
theorem chain_okIx: ∀(es:List Ent) {E:List Ent},okIx (lastIx E) es=true→ ∃E',chain E es=some E'
 | [],E,_=>⟨E,rfl⟩
 | e::es,E,h=>by
  rw[okIx,Bool.and_eq_true] at h;cases hf:Wl.follow E e with
  | none=>have:=follow_some E e;rw[hf,h.1] at this;cases this
  | some E1=>
   obtain⟨E',h1⟩:=chain_okIx es (E:=E1) (by rw[(follow_last hf).1];exact h.2);exact⟨E',by rw[chain_cons es hf];exact h1⟩
theorem append_no {w:World} {B g N:Nat} {o:Tags} {M:Files} {L:List (Nat×List Ent)} {E:List Ent} (h:Live w B o g M N) (hW:Whole M L E) (hb:Nat) (hw:WalAt w o hb g) (es:List Ent) (a:Option Addr) (c:Nat) (U:Nat) (hs:EntsF w o U a es) (hn:es.length<1000000000) (hE:E.length≤1000000000) (hr:refuse (lastIx E) es≠0):
  Calls Tryz.prog 9 #[.pointer (some ⟨hb,0,none⟩),.slice a es.length c] w fun r w'=>r= .returned (.int .i64 (refuse (lastIx E) es))∧Below w.heap.size w w':=append_not h hW hb hw es a c U hs hn hE hr
theorem append_all {w:World} {B g N:Nat} {o:Tags} {M M2:Files} {L L2:List (Nat×List Ent)} {E E':List Ent} {er:Int} (h:Live w B o g M N) (hi:Inv M) (hW:Whole M L E) (hb:Nat) (hw:WalAt w o hb g) (es:List Ent) (a:Option Addr) (c:Nat) (U:Nat) (hs:EntsF w o U a es) (hok: ∀e∈es,e.ok) (hc:chain E es=some E') (hE:E.length≤1000000000) (hN:N+es.length≤4000) (hp:PutsL M L es er M2 L2):
  Calls Tryz.prog 9 #[.pointer (some ⟨hb,0,none⟩),.slice a es.length c] w fun r w'=>r= .returned (.int .i64 er)∧ ∃o' N2,N2≤N+es.length∧Live w' B o' g M2 N2∧Step o w o' w':=by
 obtain⟨N2,hN2,hP⟩:=puts_of es (B:=B) (g:=g) (N:=N) hp hi hW hok hc hN;refine(append_puts h hb hw es a c U hs (by omega) er M2 N2 fun ks hks=>?_).mono ?_
 ·rw[hW.read hks,curOf_sg]
  exact⟨refuse_chain hc hok,hE,hP⟩
 ·rintro r w' ⟨rfl,o',h1,h2⟩
  exact⟨rfl,o',N2,hN2,h1,h2⟩
end Pz
end Go.Proofs.YtalfbcbnljhldaaGreatDoor
