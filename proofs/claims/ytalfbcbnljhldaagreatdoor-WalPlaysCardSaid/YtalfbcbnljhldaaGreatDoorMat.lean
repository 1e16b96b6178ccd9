/-  -/
import Derived.Test.YtalfbcbnljhldaaGreatDoorRead10
import Derived.Test.YtalfbcbnljhldaaGreatDoorMag
import Derived.Test.YtalfbcbnljhldaaGreatDoorMaf
import Derived.Test.YtalfbcbnljhldaaGreatDoorMae
namespace Go.Proofs.YtalfbcbnljhldaaGreatDoor
open Go.Lib (hid)
open Go.RowKit Go.Maps Go.Sort Dsk Wl
def Tame (M:Files):Prop:= ∀l f,M l=some f→l.length≤64∧f.later.length≤1000
theorem Tame.good {M:Files} (h:Tame M):Good M:=fun l f hf=>⟨(h l f hf).1,by have:=(h l f hf).2;omega⟩
structure Live (w:World) (B:Nat) (o:Tags) (g:Nat) (M:Files) (N:Nat):Prop where
 tabs:Tabs B w
 disk:DiskAt w B o g M N
 hB:B≤w.heap.size
 tame:Tame M
 few:N≤5000
section
variable {w w':World} {B g N N':Nat} {o o':Tags} {M M':Files}
theorem Live.below (h:Live w B o g M N) (hb:Below w.heap.size w w'):Live w' B o g M N:=⟨h.tabs.below (hb.mono h.hB),h.disk.below hb,Nat.le_trans h.hB hb.size,h.tame,h.few⟩
theorem Live.step (h:Live w B o g M N) (hs:Step o w o' w') (hd:DiskAt w' B o' g M' N') (hg:Tame M') (hN:N'≤5000):Live w' B o' g M' N':=
 ⟨h.tabs.below (hs.below (fun k e=>h.disk.owns k e) h.hB),hd,Nat.le_trans h.hB hs.size,hg,hN⟩
theorem Live.free (h:Live w B o g M N) {k:Nat} (hk:w.heap.size≤k):o k=none:=by
 cases e:o k with
 | none=>rfl
 | some t=>have:=(h.disk.owns k (by rw[e];simp)).2;omega
theorem Tame.at_ (h:Tame M) (l:Name):(M.at l).later.length≤1000:=by
 unfold Files.at;cases hM:M l with
 | none=>simp [Fil.zero]
 | some f=>simpa using(h l f hM).2
theorem Live.at_ (h:Live w B o g M N) (l:Name):(M.at l).later.length<1000000000:=by
 have:=h.tame.at_ l;omega
theorem Live.tabs_step (h:Live w B o g M N) (hs:Step o w o' w'):Tabs B w':=h.tabs.below (hs.below (fun k e=>h.disk.owns k e) h.hB)
theorem Live.ok (h:Live w B o g M N) (l:Name):(M.at l).ok:=by
 obtain⟨b9,D9,hd9⟩:=h.disk;obtain⟨c9,_,_,_,hf9⟩:=hd9.file l;exact hf9.ok
end
theorem upd_upd (M:Files) (n:Name) (x y:Option Fil):upd (upd M n x) n y=upd M n y:=by
 funext m
 unfold upd;split<;>rfl
theorem tame_upd {M:Files} (h:Tame M) {n:Name} {x:Option Fil} (hn:n.length≤64) (hx: ∀f,x=some f→f.later.length≤1000):Tame (upd M n x):=by
 intro l f hf;unfold upd at hf;split at hf
 ·rename_i e
  subst e;exact⟨hn,hx f hf⟩
 ·exact h l f hf
theorem there_some {M:Files} {n:Name} (h:(M.at n).now.there=true):(M n).isSome=true:=by
 unfold Files.at at h;cases hM:M n with
 | none=>rw[hM] at h;simp [Fil.zero,Fil.now,Ver.zero] at h
 | some f=>rfl
theorem chg_now (f:Fil) (v:Ver):(f.chg v).now=v:=Fil.now_some (l:=f.later) rfl
theorem refusal_empty (g b:Nat) (w:World) (hc:w.cell? ⟨g,0,none⟩=some (.map (some b))):
  Calls Tryz.prog 50 #[.pointer (some ⟨g,0,none⟩),.string ⟨#[]⟩] w fun e w'=>e= .returned (.int .i64 2)∧w=w':=by
 have hm:=map_nil w (some b);simp only[Option.isNone_some] at hm;go_enter Tryz.func50,Tryz.ntmps50
 go_wp2
 go_ret
 exact⟨rfl,rfl⟩
theorem sync_empty {w:World} {B g N:Nat} {o:Tags} {M:Files} (h:DiskAt w B o g M N):
  Calls Tryz.prog 19 #[.pointer (some ⟨g,0,none⟩),.string ⟨#[]⟩] w fun e w'=>e= .returned (.int .i64 2)∧w=w':=by
 obtain⟨b,D,hd⟩:=h;have H:=hid (refusal_empty g b w hd.cell);clear hd;go_enter Tryz.func19,Tryz.ntmps19
 go_wp2_with fail
 refine H.out.mono ?_;rintro e w1 ⟨rfl,rfl⟩;go_wp2
 go_ret
 exact⟨rfl,rfl⟩
theorem Live.name {w:World} {B g N:Nat} {o:Tags} {M:Files} (h:Live w B o g M N) (k:Nat) (x y z u:Value) (hk:k≤99999999):
  Calls Tryz.prog 44 #[.agg #[.int .i64 (k:Int),x,y,z,u]] w fun e w'=>e= .returned (.string ⟨(nameOf k).toArray⟩)∧Below w.heap.size w w':=name_any B k x y z u w hk h.tabs h.hB
set_option maxRecDepth 100000 in
set_option maxHeartbeats 1000000 in
theorem remove_seg {w:World} {B g N:Nat} {o:Tags} {M:Files} (h:Live w B o g M N) (k:Nat) (x y z u:Value) (hk:k≤99999999) (ht:(M.at (nameOf k)).now.there=true):
  Calls Tryz.prog 46 #[.agg #[.int .i64 (k:Int),x,y,z,u],.pointer (some ⟨g,0,none⟩)] w fun e w'=>e= .returned (.tuple #[])∧ ∃o',DiskAt w' B o' g (upd M (nameOf k) none) N∧Step o w o' w':=by
 have hal:Below w.heap.size w (w.alloc (.cells #[.int .i64 (k:Int),x,y,z,u] 63)):=(Below.refl _ _).alloc (Nat.le_refl _) _;have hb1:(w.alloc (.cells #[.int .i64 (k:Int),x,y,z,u] 63)).heap[w.heap.size]?=some (.cells #[.int .i64 (k:Int),x,y,z,u] 63 (0,0)):=heap_alloc_new _ _;have hL1:=h.below hal;have HNM:=hid (hL1.name k x y z u hk);have HL:=hid h;have HAL:=hid hal;have HB1:=hid hb1;have HT:=hid ht;clear h hal hb1 hL1 ht;go_enter Tryz.func46,Tryz.ntmps46
 go_wp2_with fail
 refine HNM.out.mono ?_;rintro r w2 ⟨rfl,hb2⟩;have B2:=HAL.out.trans (hb2.mono HAL.out.size);have HL2:=hid (HL.out.below B2);have HBX2:=hid ((hb2.block w.heap.size (by simp)).trans HB1.out);have hkn:=cntN_has N (there_some HT.out);have HR:=hid (remove_any g B N o M (nameOf k) w2 HL2.out.disk HT.out (by rw[name_len];decide) (by rw[name_len];decide) (by have:=HL2.out.few;omega) (HL2.out.at_ _) HL2.out.hB);rw[hkn] at HR;have HB2:=hid B2;clear hb2 B2 HNM HAL HB1 hkn;go_wp2_with fail
 refine HR.out.mono ?_;rintro r w3 ⟨rfl,o3,hd3,hs3⟩;have hfree:o w.heap.size=none:=HL.out.free (Nat.le_refl _);have hbx3:=(hs3.block w.heap.size (lt_of_block HBX2.out) hfree).trans HBX2.out;have HNM3:=hid (name_any B k x y z u w3 hk (HL2.out.tabs_step hs3) (Nat.le_trans HL2.out.hB hs3.size));have b0:w3.cell? ⟨w.heap.size,0,none⟩=some (.int .i64 (k:Int)):=by rw[cell_of_row _ _ 0 _ _ _ hbx3];rfl
 have b1:w3.cell? ⟨w.heap.size,1,none⟩=some x:=by rw[cell_of_row _ _ 1 _ _ _ hbx3];rfl
 have b2:w3.cell? ⟨w.heap.size,2,none⟩=some y:=by rw[cell_of_row _ _ 2 _ _ _ hbx3];rfl
 have b3:w3.cell? ⟨w.heap.size,3,none⟩=some z:=by rw[cell_of_row _ _ 3 _ _ _ hbx3];rfl
 have b4:w3.cell? ⟨w.heap.size,4,none⟩=some u:=by rw[cell_of_row _ _ 4 _ _ _ hbx3];rfl
 have HD3:=hid hd3;have HS3:=hid hs3;clear hd3 hs3 hbx3 hfree HR;go_wp2_with fail
 refine HNM3.out.mono ?_;rintro r w4 ⟨rfl,hb4⟩;have HSY:=hid (sync_any g B N o3 _ (nameOf k) w4 (HD3.out.below hb4) (by rw[upd_same];rfl) (by rw[name_len];decide) (by rw[name_len];decide) (by have:=HL2.out.few;omega) (by
  rw[upd_at];have:=HL2.out.tame.at_ (nameOf k);simp [Fil.chg];omega))
 rw[upd_at,chg_now,upd_upd] at HSY;have HB4:=hid hb4;clear hb4 HNM3;go_wp2_with fail
 refine HSY.out.mono ?_;rintro r w5 ⟨rfl,o5,hd5,hs5⟩;have HD5:=hid hd5;have HS5:=hid hs5;clear hd5 hs5;go_wp2_with fail
 go_end0
 exact⟨rfl,o5,HD5.out,((Step.of_below o HB2.out).trans HS3.out).trans ((Step.of_below o3 HB4.out).trans HS5.out)⟩
end Go.Proofs.YtalfbcbnljhldaaGreatDoor

set_option linter.unusedSimpArgs false
namespace Go.Proofs.YtalfbcbnljhldaaGreatDoor
open Go.Lib (hid)
open Go.RowKit Go.Maps Go.Sort Dsk Wl
def cutSeg (M:Files) (s:Sg):Files:=
 if s.good=0 then upd M (nameOf s.num) none
 else if s.good<s.bs.length then upd M (nameOf s.num) (some ⟨⟨true,s.bs.take s.good,(s.bs.take s.good).length⟩,[],false⟩)
 else M
theorem cutSeg_tame {M:Files} (h:Tame M) (s:Sg):Tame (cutSeg M s):=by
 unfold cutSeg;split
 ·exact tame_upd h (by rw[name_len];decide) (fun f hf=>by cases hf)
 ·split
  ·exact tame_upd h (by rw[name_len];decide) (fun f hf=>by cases hf;simp)
  ·exact h
set_option maxRecDepth 100000 in
set_option maxHeartbeats 2000000 in
theorem cut_any {w:World} {B g N:Nat} {o:Tags} {M:Files} (h:Live w B o g M N) (s:Sg) (a:Option Addr) (c:Nat) (hk:s.num≤99999999) (ht:(M.at (nameOf s.num)).now.there=true) (hr:Reads w a s.bs) (hna:a=none→c=0) (hc:s.bs.length≤c) (hl:s.bs.length≤1048576) (hgl:s.good≤s.bs.length):
  Calls Tryz.prog 26 #[.agg #[.int .i64 (s.num:Int),.slice a s.bs.length c,.int .i64 (s.good:Int),.int .i64 (s.recs.length:Int),.int .u64 (top s.recs:Int)],.pointer (some ⟨g,0,none⟩)] w fun e w'=>e= .returned (.tuple #[])∧ ∃o',DiskAt w' B o' g (cutSeg M s) N∧Step o w o' w':=by
 obtain⟨k,bs,gd,recs⟩:=s;dsimp only at hk ht hr hc hl hgl ⊢;have hal:Below w.heap.size w (w.alloc (.cells #[.int .i64 (k:Int),.slice a bs.length c,.int .i64 (gd:Int),.int .i64 (recs.length:Int),.int .u64 (top recs:Int)] 63)):=(Below.refl _ _).alloc (Nat.le_refl _) _;have hb1:(w.alloc (.cells #[.int .i64 (k:Int),.slice a bs.length c,.int .i64 (gd:Int),.int .i64 (recs.length:Int),.int .u64 (top recs:Int)] 63)).heap[w.heap.size]?=some (.cells #[.int .i64 (k:Int),.slice a bs.length c,.int .i64 (gd:Int),.int .i64 (recs.length:Int),.int .u64 (top recs:Int)] 63 (0,0)):=heap_alloc_new _ _;generalize (recs.length:Int)=rl at*;generalize (top recs:Int)=tp at*;have HR:=hid (hr.below hal);have HL:=hid h;have HL1:=hid (h.below hal);have HAL:=hid hal;have HB1:=hid hb1;have HT:=hid ht;clear h hal hb1 ht hr;by_cases h0:gd=0
 ·subst h0
  have HC:=hid (show cutSeg M ⟨k,bs,0,recs⟩=upd M (nameOf k) none from if_pos rfl);have HRM:=hid (remove_seg HL1.out k (.slice a bs.length c) (.int .i64 0) (.int .i64 rl) (.int .u64 tp) hk HT.out);go_enter Tryz.func26,Tryz.ntmps26
  go_wp2_with fail
  refine HRM.out.mono ?_;rintro r w2 ⟨rfl,o2,hd2,hs2⟩;have HD2:=hid hd2;have HS2:=hid hs2;clear hd2 hs2;go_wp2_with fail
  go_end0
  exact⟨rfl,o2,by rw[HC.out];exact HD2.out,(Step.of_below o HAL.out).trans HS2.out⟩
 ·have g0:((gd:Int) == 0)=false:=by rw[beq_eq_false_iff_ne];omega
  by_cases hlt:gd<bs.length
  ·have HC:=hid (show cutSeg M ⟨k,bs,gd,recs⟩=upd M (nameOf k) (some ⟨⟨true,bs.take gd,(bs.take gd).length⟩,[],false⟩) from(if_neg h0).trans (if_pos hlt))
   have HNM:=hid (fun(W:World) (hW:Live W B o g M N)=>hW.name k (.slice a bs.length c) (.int .i64 (gd:Int)) (.int .i64 rl) (.int .u64 tp) hk);obtain⟨w1,hw1⟩: ∃w1,w1=w.alloc (.cells #[.int .i64 (k:Int),.slice a bs.length c,.int .i64 (gd:Int),.int .i64 rl,.int .u64 tp] 63):=⟨_,rfl⟩;rw[←hw1] at HR HL1 HAL HB1;have HCELL:=hid (show∀W:World,W.heap[w.heap.size]?=some (.cells #[.int .i64 (k:Int),.slice a bs.length c,.int .i64 (gd:Int),.int .i64 rl,.int .u64 tp] 63 (0,0))→W.cell? ⟨w.heap.size,0,none⟩=some (.int .i64 (k:Int))∧W.cell? ⟨w.heap.size,1,none⟩=some (.slice a bs.length c)∧W.cell? ⟨w.heap.size,2,none⟩=some (.int .i64 (gd:Int))∧W.cell? ⟨w.heap.size,3,none⟩=some (.int .i64 rl)∧W.cell? ⟨w.heap.size,4,none⟩=some (.int .u64 tp) from fun W hx=>by
    refine⟨?_,?_,?_,?_,?_⟩<;>rw[cell_of_row _ _ _ _ _ _ hx]<;>rfl)
   go_enter Tryz.func26,Tryz.ntmps26
   go_wp2_with fail
   rw[←hw1];clear hw1;have hgn:(gd:Int)≤(c:Int)∧0≤(gd:Int):=by omega
   have hgnat:gd≤c:=by omega
   refine wp_region_held_drew (S:=fun W=>W.heap[w.heap.size]?=some (.cells #[.int .i64 (k:Int),.slice a bs.length c,.int .i64 (gd:Int),.int .i64 rl,.int .u64 tp] 63 (0,0))) (by kernel_rfl) HB1.out (fun hHeld=>?_);refine zkH 0 (v:=?_) (h2:=?_) (h:=?_);rotate_left;focus (intro W hS;(try dsimp only at hS);go_simp;(try with_reducible rfl))
   try simp only[Act.put,zsA,zsS,zsZ]
   refine zkH 1 (v:=?_) (h2:=?_) (h:=?_);rotate_left;focus (intro W hS;(try dsimp only at hS);have q:=HCELL.out W hS;obtain⟨q0,q1,q2,q3,q4⟩:=q;go_simp;(try with_reducible rfl))
   try simp only[Act.put,zsA,zsS,zsZ]
   refine zkH 3 (v:=?_) (h2:=?_) (h:=?_);rotate_left;focus (intro W hS;(try dsimp only at hS);go_simp;(try with_reducible rfl))
   try simp only[Act.put,zsA,zsS,zsZ]
   refine zkH 4 (v:=?_) (h2:=?_) (h:=?_);rotate_left;focus (intro W hS;(try dsimp only at hS);have q:=HCELL.out W hS;obtain⟨q0,q1,q2,q3,q4⟩:=q;go_simp;(try with_reducible rfl))
   try simp only[Act.put,zsA,zsS,zsZ]
   refine zkH 5 (v:=?_) (h2:=?_) (h:=?_);rotate_left;focus (intro W hS;(try dsimp only at hS);go_simp;(try with_reducible rfl))
   try simp only[Act.put,zsA,zsS,zsZ]
   refine zkH 6 (v:=?_) (h2:=?_) (h:=?_);rotate_left;focus (intro W hS;(try dsimp only at hS);have q:=HCELL.out W hS;obtain⟨q0,q1,q2,q3,q4⟩:=q;go_simp;(try with_reducible rfl))
   try simp only[Act.put,zsA,zsS,zsZ]
   refine zkH 7 (v:=?_) (h2:=?_) (h:=?_);rotate_left;focus (intro W hS;(try dsimp only at hS);go_simp;(try with_reducible rfl))
   try simp only[Act.put,zsA,zsS,zsZ]
   refine zrH 2 (h:=fun K hK=>?_);rw[if_pos (by rfl)];go_simp
   refine(HNM.out _ (HL1.out.below (Below.refl w1.heap.size w1).drew)).mono ?_;rintro r w3 ⟨rfl,hb3⟩;have h3:Below w1.heap.size w1 w3:=(Below.refl w1.heap.size w1).drew.trans hb3;go_wp2_with fail
   refine hK.out _ _ ((hb3.block w.heap.size (lt_of_block HB1.out)).trans HB1.out) (fun hHeld=>?_);clear hK K;try simp only[Act.put,zsA,zsS,zsZ]
   refine zrH 8 (h:=fun K hK=>?_);rw[if_pos (by rfl)];go_simp
   have hL3:=HL1.out.below h3;have hrp:=replace_any g B N o M (nameOf k) a gd c (bs.take gd) w3 hL3.disk (by rw[List.length_take];omega) ((HR.out.below h3).take gd) hna (by rw[List.length_take];omega) (.inl HT.out) (by rw[name_len];decide) (by rw[name_len];decide) (by have:=hL3.few;omega) (fun l f hf=>(hL3.tame.good l f hf).2) hL3.hB;rw[cntN_has N (there_some HT.out)] at hrp;refine hrp.mono ?_;rintro r w4 ⟨rfl,o4,hd4,hs4⟩;go_wp2_with fail
   have hbx3:=(h3.block w.heap.size (lt_of_block HB1.out)).trans HB1.out;have hbx4:=(hs4.block w.heap.size (lt_of_block hbx3) (HL.out.free (Nat.le_refl _))).trans hbx3;refine hK.out _ _ hbx4 (fun hHeld=>?_);clear hK K;try simp only[Act.put,zsA,zsS,zsZ]
   refine wpAnyH_done (by kernel_rfl) ?_ _;obtain⟨q0,q1,q2,q3,q4⟩:=HCELL.out w4 hbx4;have HNM4:=hid (name_any B k (.slice a bs.length c) (.int .i64 (gd:Int)) (.int .i64 rl) (.int .u64 tp) w4 hk (hL3.tabs_step hs4) (Nat.le_trans hL3.hB hs4.size));have H3:=hid h3;have HL3:=hid hL3;have HD4:=hid hd4;have HS4:=hid hs4;clear hHeld hbx3 hbx4 hb3 h3 hL3 hd4 hs4;go_wp2_with fail
   refine HNM4.out.mono ?_;rintro r w5 ⟨rfl,hb5⟩;have HSY:=hid (sync_any g B N o4 _ (nameOf k) w5 (HD4.out.below hb5) (by rw[upd_same];rfl) (by rw[name_len];decide) (by rw[name_len];decide) (by have:=HL3.out.few;omega) (by
    rw[upd_at];have:=HL3.out.tame.at_ (nameOf k);simp [Fil.chg];omega))
   rw[upd_at,chg_now,upd_upd] at HSY;have HB5:=hid hb5;clear hb5 HNM4;go_wp2_with fail
   refine HSY.out.mono ?_;rintro r w6 ⟨rfl,o6,hd6,hs6⟩;have HD6:=hid hd6;have HS6:=hid hs6;clear hd6 hs6;go_wp2_with fail
   go_end0
   exact⟨rfl,o6,by rw[HC.out];exact HD6.out,((Step.of_below o (HAL.out.trans (H3.out.mono HAL.out.size))).trans HS4.out).trans ((Step.of_below o4 HB5.out).trans HS6.out)⟩
  ·have HC:=hid (show cutSeg M ⟨k,bs,gd,recs⟩=M from(if_neg h0).trans (if_neg hlt))
   have hd:decide ((gd:Int)<(bs.length:Int))=false:=by simp;omega
   go_enter Tryz.func26,Tryz.ntmps26
   go_wp2
   go_end0
   exact⟨rfl,o,by rw[HC.out];exact HL1.out.disk,Step.of_below o HAL.out⟩
end Go.Proofs.YtalfbcbnljhldaaGreatDoor

namespace Go.Proofs.YtalfbcbnljhldaaGreatDoor
open Go.Lib (hid)
open Go.RowKit Go.Maps Go.Sort Dsk Wl
theorem readGo_nums: ∀(l:List (Nat×List Int)) (E:List Ent),(readGo l E).1.map Sg.num=l.map Prod.fst
 | [],E=>rfl
 | x::r,E=>by
  rcases hw:walk (x.2.length+1) x.2 0 [] E with⟨good,recs,E',b⟩
  by_cases h:b=true∧recs≠ []
  ·obtain⟨rfl,hr⟩:=h
   rw[readGo_more r hw hr];simp [readGo_nums r E']
  ·rw[readGo_stop r hw (by
    cases b
    ·exact .inl rfl
    ·exact .inr (by simpa using h))]
   simp
theorem readGo_in: ∀(l:List (Nat×List Int)) (E:List Ent),(∀x∈l,∀z∈x.2,0≤z∧z≤255)→ ∀s∈(readGo l E).1,s.good≤s.bs.length∧(s.bs= []∨(s.num,s.bs)∈l)
 | [],E,_,s,hs=>by simp [readGo] at hs
 | x::r,E,hr,s,hs=>by
  have hw0:=walked (x.2.length+1) (bs:=x.2) 0 [] E (hr x (by simp));rcases hw:walk (x.2.length+1) x.2 0 [] E with⟨good,recs,E',b⟩
  rw[hw] at hw0;obtain⟨l',h1,h2,h3,h4,h5,h6⟩:=hw0.more;dsimp only at h5;by_cases h:b=true∧recs≠ []
  ·obtain⟨rfl,hrn⟩:=h
   rw[readGo_more r hw hrn] at hs;rcases List.mem_cons.1 hs with rfl | hs
   ·exact⟨by dsimp only;omega,.inr (by simp)⟩
   ·obtain⟨i1,i2⟩:=readGo_in r E' (fun y hy=>hr y (by simp [hy])) s hs
    exact⟨i1,i2.imp id (fun i=>by simp [i])⟩
  ·rw[readGo_stop r hw (by
    cases b
    ·exact .inl rfl
    ·exact .inr (by simpa using h))] at hs
   rcases List.mem_cons.1 hs with rfl | hs
   ·exact⟨by dsimp only;omega,.inr (by simp)⟩
   ·obtain⟨y,_,rfl⟩:=List.mem_map.1 hs
    exact⟨by simp,.inl rfl⟩
def cutAll (M:Files) (l:List Sg):Files:=l.foldl cutSeg M
theorem cutAll_succ (M:Files) (l:List Sg) {i:Nat} (hi:i<l.length):cutAll M (l.take (i+1))=cutSeg (cutAll M (l.take i)) l[i]:=by
 unfold cutAll;rw[List.take_add_one,List.getElem?_eq_getElem hi,Option.toList_some,List.foldl_append];rfl
theorem cutAll_tame {M:Files} (h:Tame M): ∀(l:List Sg),Tame (cutAll M l):=by
 intro l;induction l generalizing M with
 | nil=>exact h
 | cons s l ih=>exact ih (cutSeg_tame h s)
theorem cutSeg_other {M:Files} {s:Sg} {n:Name} (h:n≠nameOf s.num):(cutSeg M s) n=M n:=by
 unfold cutSeg;split
 ·exact upd_other _ _ h
 ·split
  ·exact upd_other _ _ h
  ·rfl
theorem cutAll_other {n:Name} : ∀(l:List Sg) {M:Files},(∀s∈l,n≠nameOf s.num)→(cutAll M l) n=M n
 | [],M,_=>rfl
 | s::l,M,h=>by
  show(cutAll (cutSeg M s) l) n=_;rw[cutAll_other l (fun x hx=>h x (by simp [hx])),cutSeg_other (h s (by simp))]
def Kept (w0:World) (B1:Nat) (o:Tags) (w:World):Prop:=w0.heap.size≤w.heap.size∧ ∀k,B1≤k→k<w0.heap.size→w.heap[k]?=w0.heap[k]?∧o k=none
section
variable {w0 w w':World} {B1:Nat} {o o':Tags}
theorem Kept.start (h: ∀k,o k≠none→k<B1):Kept w0 B1 o w0:=⟨Nat.le_refl _,fun k h1 _=>⟨rfl,by
 cases e:o k with
 | none=>rfl
 | some t=>have:=h k (by rw[e];simp);omega⟩⟩
theorem Kept.step (h:Kept w0 B1 o w) (hs:Step o w o' w'):Kept w0 B1 o' w':=⟨Nat.le_trans h.1 hs.size,fun k h1 h2=>by
 obtain⟨a1,a2⟩:=h.2 k h1 h2;exact⟨(hs.block k (Nat.lt_of_lt_of_le h2 h.1) a2).trans a1,hs.free k (Nat.lt_of_lt_of_le h2 h.1) a2 (by simp [Value.ownBlock])⟩⟩
theorem SegRow.kept {l:List Sx} {v:Value} (h:SegRow w0 B1 l v) (hk:Kept w0 B1 o w):SegRow w B1 l v:=
 h.keep (fun k _ hB hb _=>(hk.2 k hB (lt_of_block hb)).1) (fun k _ hB hb=>(hk.2 k hB (lt_of_block hb)).1)
end
def WalAt (w:World) (o:Tags) (h g:Nat):Prop:=w.heap[h]?=some (.cells #[.pointer (some ⟨g,0,none⟩)] 66 (0,0))∧o h=none
theorem WalAt.cell {w:World} {o:Tags} {h g:Nat} (x:WalAt w o h g):w.cell? ⟨h,0,none⟩=some (.pointer (some ⟨g,0,none⟩)):=by rw[cell_of_row _ _ 0 _ _ _ x.1];rfl
theorem WalAt.step {w w':World} {o o':Tags} {h g:Nat} (x:WalAt w o h g) (hs:Step o w o' w'):WalAt w' o' h g:=⟨(hs.block h (lt_of_block x.1) x.2).trans x.1,hs.free h (lt_of_block x.1) x.2 (by simp [Value.ownBlock])⟩
theorem WalAt.below {w w':World} {o:Tags} {h g:Nat} (x:WalAt w o h g) (hb:Below w.heap.size w w'):WalAt w' o h g:=⟨(hb.block h (lt_of_block x.1)).trans x.1,x.2⟩
theorem Live.read {w:World} {B g N:Nat} {o:Tags} {M:Files} (h:Live w B o g M N):
  Calls Tryz.prog 25 #[.pointer (some ⟨g,0,none⟩)] w fun r w'=> ∃ks v1 v2,NamesOf M (fun f=>f.now.there) ks∧ks.length≤N∧r= .returned (.tuple #[v1,v2])∧ReadTold w w' (segsOf M (numsOf ks)) v1 v2:=
 read_any B B g N o M w h.tabs h.hB h.disk h.few h.tame.good
def openOf (M:Files) (ks:List Name):Files:=cutAll M (readGo (segsOf M (numsOf ks)) []).1
theorem nums_ok {ks:List Name} {k:Nat} (h:k∈numsOf ks):nameOf k∈ks∧1≤k∧k≤99999999:=nums_mem.1 h
theorem seg_nums (M:Files) (ks:List Name):(readGo (segsOf M (numsOf ks)) []).1.map Sg.num=numsOf ks:=by
 rw[readGo_nums];unfold segsOf;rw[List.map_map];exact List.map_id _
structure SegIs (M:Files) (segs:List Sg) (i:Nat) (s:Sg):Prop where
 lo:1≤s.num
 hi:s.num≤99999999
 there:(M.at (nameOf s.num)).now.there=true
 apart: ∀s'∈segs.take i,nameOf s.num≠nameOf s'.num
 good:s.good≤s.bs.length
 few:s.bs.length≤1048576
 range: ∀x∈s.bs,0≤x∧x≤255
theorem seg_is {M:Files} {ks:List Name} (hok: ∀n,(M.at n).ok) (hks:NamesOf M (fun f=>f.now.there) ks) {i:Nat} (hi:i<(readGo (segsOf M (numsOf ks)) []).1.length):SegIs M (readGo (segsOf M (numsOf ks)) []).1 i ((readGo (segsOf M (numsOf ks)) []).1[i]):=by
 have hn:=seg_nums M ks;have hin:=readGo_in (segsOf M (numsOf ks)) [] (fun x hx z hz=>by
  unfold segsOf at hx;obtain⟨k,_,rfl⟩:=List.mem_map.1 hx;exact(Fil.now_ok (hok _)).2.2 z hz)
 generalize (readGo (segsOf M (numsOf ks)) []).1=segs at*;have hp:(segs.map Sg.num).Pairwise (· < ·):=by rw[hn];exact nums_rise hks.1
 have hm: ∀ {j:Nat} (hj:j<segs.length),nameOf segs[j].num∈ks∧1≤segs[j].num∧segs[j].num≤99999999:=fun hj=>nums_ok (by rw[←hn];exact List.mem_map.2 ⟨_,List.getElem_mem hj,rfl⟩);obtain⟨h1,h2,h3⟩:=hm hi;obtain⟨g1,g2⟩:=hin segs[i] (List.getElem_mem hi);have hth:(M.at (nameOf segs[i].num)).now.there=true:=by
  obtain⟨f,hf,hq⟩:=(hks.2 _).1 h1;simpa [Files.at,hf] using hq
 refine⟨h2,h3,hth,fun s' hs'=>?_,g1,?_,?_⟩
 ·obtain⟨j,hj,rfl⟩:=List.getElem_of_mem hs'
  rw[List.length_take] at hj;rw[List.getElem_take];have hjl:j<segs.length:=by omega
  obtain⟨_,k2,k3⟩:=hm hjl;intro e0;have e1:=name_inj ⟨h2,h3⟩ ⟨k2,k3⟩ e0;have hlt:=List.pairwise_iff_getElem.1 hp j i (by simpa using hjl) (by simpa using hi) (by omega);simp only[List.getElem_map] at hlt;omega
 ·rcases g2 with g2 | g2
  ·rw[g2];simp
  ·unfold segsOf at g2
   obtain⟨k,_,e⟩:=List.mem_map.1 g2;simp only[Prod.mk.injEq] at e;rw[←e.2];exact(Fil.now_ok (hok _)).2.1
 ·rcases g2 with g2 | g2
  ·rw[g2];exact fun x hx=>by cases hx
  ·unfold segsOf at g2
   obtain⟨k,_,e⟩:=List.mem_map.1 g2;simp only[Prod.mk.injEq] at e;rw[←e.2];exact(Fil.now_ok (hok _)).2.2
set_option maxRecDepth 100000 in
set_option maxHeartbeats 2000000 in
theorem open_any {w:World} {B g N:Nat} {o:Tags} {M:Files} (h:Live w B o g M N):
  Calls Tryz.prog 6 #[.pointer (some ⟨g,0,none⟩)] w fun r w'=> ∃ks hb o',r= .returned (.tuple #[.pointer (some ⟨hb,0,none⟩),.int .i64 0])∧NamesOf M (fun f=>f.now.there) ks∧w.heap.size≤hb∧WalAt w' o' hb g∧DiskAt w' B o' g (openOf M ks) N∧Step o w o' w':=by
 have HSE:=hid (sync_empty h.disk);have HRD:=hid h.read;have HL:=hid h;clear h;go_enter Tryz.func6,Tryz.ntmps6
 go_wp2_with fail
 refine HSE.out.mono ?_;rintro r w1 ⟨rfl,rfl⟩;go_wp2_with fail
 refine HRD.out.mono ?_;rintro r w2 ⟨ks,v1,v2,hks,hkN,rfl,htold⟩;obtain⟨sa,sc,rfl,_⟩:=htold.segs.shape;obtain⟨segs,hsegs⟩: ∃segs,segs=(readGo (segsOf M (numsOf ks)) []).1:=⟨_,rfl⟩;have hsr:=htold.segs;rw[←hsegs] at hsr;rw[←hsegs,List.length_map];rw[List.length_map] at hsr;have HSI:=hid (show∀(i:Nat) (hi:i<segs.length),SegIs M segs i segs[i] from fun i hi=>by
  subst hsegs;exact seg_is (fun n=>HL.out.ok n) hks hi)
 have HK:=hid hks;have HSEGS:=hid hsegs;have HSR:=hid hsr;have hls:segs.length≤5000:=by
  have h1:=congrArg List.length (seg_nums M ks);rw[←hsegs,List.length_map] at h1;have h2:=nums_len ks;have h3:=HL.out.few;omega
 have HSTART:=hid (show DiskAt w2 B o g (cutAll M (segs.take 0)) N∧Step o w o w2∧Kept w2 w.heap.size o w2 from⟨HL.out.disk.below htold.below,Step.of_below o htold.below,Kept.start fun k e=>(HL.out.disk.owns k e).2⟩);clear hks hsegs hsr htold;go_wp2_with fail
 go_loopw [18] (fun v wr=> ∃(i:Nat) (oi:Tags),i≤segs.length∧v= .int .i64 (i:Int)∧DiskAt wr B oi g (cutAll M (segs.take i)) N∧Step o w oi wr∧Kept w2 w.heap.size oi wr) (fun v _=>segs.length - (intOf v).toNat)
 case atStart=>exact⟨0,o,Nat.zero_le _,rfl,HSTART.out⟩
 case round=>
  clear HSTART;obtain⟨i,oi,hi,rfl,hd,hst,hkp⟩:=hrel;by_cases hil:i<segs.length
  ·have hsrw:=HSR.out.kept hkp
   have hll:(segs.map Sg.raw).length=segs.length:=List.length_map _;obtain⟨sg,cap,ba,bc,hsv,hsgB,hsgs,s0,s1,s2,s3,s4,hrow,hcap,hcm⟩:=hsrw.at_ (i:=i) (by rw[hll];exact hil);rw[List.getElem_map] at s0 s1 s2 s3 s4 hrow;rw[hll] at hsv;simp only[Value.slice.injEq,true_and] at hsv;obtain⟨rfl,rfl⟩:=hsv;obtain⟨sx,hsx⟩: ∃sx,sx=segs[i]:=⟨_,rfl⟩;rw[←hsx] at s0 s1 s2 s3 s4 hrow;simp only[Sg.raw] at s0 s1 s2 s3 s4 hrow;have hsi:=HSI.out i hil;rw[←hsx] at hsi;have HLi:=hid (HL.out.step hst hd (cutAll_tame HL.out.tame _) HL.out.few);obtain⟨ra,rcap,hrv,hrd,hrc,hrm⟩:=hrow.reads hsi.range (by have:=hsi.few;omega);simp only[Value.slice.injEq] at hrv;obtain⟨rfl,_,rfl⟩:=hrv;have hna:ba=none→bc=0:=fun e0=>by
    obtain⟨_,_,e1,e2⟩:=slice_shape hrow;simp only[Value.slice.injEq] at e1;obtain⟨rfl,_,rfl⟩:=e1;exact(e2 e0).2
   have hal:Below wr.heap.size wr (wr.alloc (.cells #[.int .i64 (sx.num:Int),.slice ba sx.bs.length bc,.int .i64 (sx.good:Int),.int .i64 (sx.recs.length:Int),.int .u64 (top sx.recs:Int)] 63)):=(Below.refl _ _).alloc (Nat.le_refl _) _;have HAL:=hid hal;have HCUT:=hid (cut_any (HLi.out.below hal) sx ba bc hsi.hi (by
    have h1:(cutAll M (segs.take i)).at (nameOf sx.num)=M.at (nameOf sx.num):=by
     unfold Files.at;rw[cutAll_other _ hsi.apart]
    rw[h1];exact hsi.there) (hrd.below hal) hna hrc hsi.few hsi.good)
   have HST:=hid hst;have HKP:=hid hkp;have HSX:=hid hsx;clear hsrw hll hsgB hcap hcm hrow hrd hrc hrm hna hsi hal hst hkp hd hsx hsgs;generalize (sx.recs.length:Int)=rl at*;generalize (top sx.recs:Int)=tp at*;go_wp2_with fail
   refine HCUT.out.mono ?_;rintro r w4 ⟨rfl,o4,hd4,hs4⟩;have HD4:=hid (show DiskAt w4 B o4 g (cutAll M (segs.take (i+1))) N by rw[cutAll_succ _ _ hil,←HSX.out];exact hd4);have HS4:=hid ((Step.of_below oi HAL.out).trans hs4);clear hd4 hs4 HCUT;go_wp2_with fail
   go_roundw
   case rel=>exact⟨i+1,o4,hil,by go_num,HD4.out,HST.out.trans HS4.out,HKP.out.step HS4.out⟩
   case measure=>simp [intOf];omega
  ·obtain rfl:i=segs.length:=by omega
   rw[List.take_length] at hd;have HD:=hid (show DiskAt wr B oi g (openOf M ks) N by unfold openOf;rw[←HSEGS.out];exact hd);have HST:=hid hst;have HLi:=hid (HL.out.step hst hd (cutAll_tame HL.out.tame _) HL.out.few);clear hd hst hkp;go_wp2_with fail
   go_ret2
   have hal:Below wr.heap.size wr (wr.alloc (.cells #[.pointer (some ⟨g,0,none⟩)] 66)):=(Below.refl _ _).alloc (Nat.le_refl _) _;exact⟨ks,wr.heap.size,oi,rfl,HK.out,HST.out.size,⟨heap_alloc_new _ _,HLi.out.free (Nat.le_refl _)⟩,HD.out.below hal,HST.out.trans (Step.of_below oi hal)⟩
end Go.Proofs.YtalfbcbnljhldaaGreatDoor
