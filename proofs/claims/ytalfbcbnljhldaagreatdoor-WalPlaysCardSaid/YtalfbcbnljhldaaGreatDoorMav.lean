/-  -/
import Derived.Test.YtalfbcbnljhldaaGreatDoorApp10
import Derived.Test.YtalfbcbnljhldaaGreatDoorMae
import Derived.Test.YtalfbcbnljhldaaGreatDoorMam
import Derived.Test.YtalfbcbnljhldaaGreatDoorMao
set_option linter.unusedSimpArgs false
namespace Go.Proofs.YtalfbcbnljhldaaGreatDoor
open Go.Lib (hid)
open Go.RowKit Go.Maps Go.Sort Dsk Wl
def segsAt (M:Files) (ks:List Name):List Sg:=(readGo (segsOf M (numsOf ks)) []).1
def entsAt (M:Files) (ks:List Name):List Ent:=(readGo (segsOf M (numsOf ks)) []).2
set_option maxRecDepth 100000 in
set_option maxHeartbeats 1000000 in
theorem entries_any {w:World} {B g N:Nat} {o:Tags} {M:Files} (h:Live w B o g M N) (hb:Nat) (hw:WalAt w o hb g):
  Calls Tryz.prog 22 #[.pointer (some ⟨hb,0,none⟩)] w fun r w'=> ∃ks v,NamesOf M (fun f=>f.now.there) ks∧r= .returned v∧EntRow w' w.heap.size (entsAt M ks) v∧Below w.heap.size w w':=by
 have hc:=hw.cell;have HRD:=hid h.read;clear h hw;go_enter Tryz.func22,Tryz.ntmps22
 go_wp2_with fail
 refine HRD.out.mono ?_;rintro r w2 ⟨ks,v1,v2,hks,_,rfl,htold⟩;have HT:=hid htold;have HK:=hid hks;clear htold hks;go_wp2_with fail
 go_ret
 exact⟨ks,v2,HK.out,rfl,HT.out.ents,HT.out.below⟩
def oldN (ix:Nat):List Sg→Nat
 | []=>0
 | s::r=>if r= [] then 0 else if top s.recs≤ix then oldN ix r+1 else 0
theorem oldN_le (ix:Nat): ∀(l:List Sg),oldN ix l≤l.length
 | []=>Nat.le_refl _
 | s::r=>by
  have:=oldN_le ix r;unfold oldN;split
  ·simp
  ·split
   ·simp;omega
   ·simp
def dropAll (M:Files) (l:List Sg):Files:=l.foldl (fun M s=>upd M (nameOf s.num) none) M
theorem dropAll_succ (M:Files) (l:List Sg) {i:Nat} (hi:i<l.length):dropAll M (l.take (i+1))=upd (dropAll M (l.take i)) (nameOf l[i].num) none:=by
 unfold dropAll;rw[List.take_add_one,List.getElem?_eq_getElem hi,Option.toList_some,List.foldl_append];rfl
theorem dropAll_other {n:Name} : ∀(l:List Sg) {M:Files},(∀s∈l,n≠nameOf s.num)→(dropAll M l) n=M n
 | [],M,_=>rfl
 | s::l,M,h=>by
  show(dropAll (upd M (nameOf s.num) none) l) n=_;rw[dropAll_other l (fun x hx=>h x (by simp [hx])),upd_other _ _ (h s (by simp))]
set_option maxRecDepth 100000 in
set_option maxHeartbeats 2000000 in
theorem compact_any {w:World} {B g N:Nat} {o:Tags} {M:Files} (h:Live w B o g M N) (hb:Nat) (hw:WalAt w o hb g) (ix:Nat):
  Calls Tryz.prog 13 #[.pointer (some ⟨hb,0,none⟩),.int .u64 (ix:Int)] w fun r w'=> ∃ks o',NamesOf M (fun f=>f.now.there) ks∧r= .returned (.int .i64 0)∧Live w' B o' g (dropAll M ((segsAt M ks).take (oldN ix (segsAt M ks)))) N∧Step o w o' w':=by
 have hc:=hw.cell;have HRD:=hid h.read;have HL:=hid h;have HW:=hid hw;clear h hw;go_enter Tryz.func13,Tryz.ntmps13
 go_wp2_with fail
 refine HRD.out.mono ?_;rintro r w2 ⟨ks,v1,v2,hks,hkN,rfl,htold⟩;obtain⟨segs,hsegs⟩: ∃segs,segs=segsAt M ks:=⟨_,rfl⟩;have hsr:=htold.segs;change SegRow w2 w.heap.size ((segsAt M ks).map Sg.raw) v1 at hsr;rw[←hsegs] at hsr;obtain⟨sa,sc,rfl,_⟩:=hsr.shape;rw[List.length_map] at hsr ⊢;obtain⟨n,hn⟩: ∃n,n=segs.length:=⟨_,rfl⟩;rw[←hn] at hsr ⊢;have HN:=hid hn;have HSI:=hid (show∀(i:Nat) (hi:i<segs.length),SegIs M segs i segs[i] from fun i hi=>by
  subst hsegs;exact seg_is (fun n=>HL.out.ok n) hks hi)
 have HK:=hid hks;have HSEGS:=hid hsegs;have HSR:=hid hsr;have hls:segs.length≤5000:=by
  have h1:=congrArg List.length (seg_nums M ks);change ((segsAt M ks).map Sg.num).length=_ at h1;rw[←hsegs,List.length_map] at h1;have h2:=nums_len ks;have h3:=HL.out.few;omega
 rw[←hn] at hls;have HSTART:=hid (show oldN ix segs=0+oldN ix (segs.drop 0)∧Live w2 B o g (dropAll M (segs.take 0)) N∧Step o w o w2∧Kept w2 w.heap.size o w2 from⟨by simp,HL.out.below htold.below,Step.of_below o htold.below,Kept.start fun k e=>(HL.out.disk.owns k e).2⟩);clear hks hsegs hsr htold HRD hn;go_wp2_with fail
 go_loopw [28] (fun v wr=> ∃(i:Nat) (oi:Tags),i≤n∧v= .int .i64 (i:Int)∧oldN ix segs=i+oldN ix (segs.drop i)∧Live wr B oi g (dropAll M (segs.take i)) N∧Step o w oi wr∧Kept w2 w.heap.size oi wr) (fun v _=>n - (intOf v).toNat)
 case atStart=>exact⟨0,o,Nat.zero_le _,rfl,HSTART.out⟩
 case round=>
  clear HSTART;obtain⟨i,oi,hi,rfl,hold,hli,hst,hkp⟩:=hrel;by_cases hin:i<n
  ·have hil:i<segs.length:=by rw[←HN.out];exact hin
   have hsrw:=HSR.out.kept hkp;have hll:(segs.map Sg.raw).length=segs.length:=List.length_map _;obtain⟨sg,cap,ba,bc,hsv,j1,j2,s0,s1,s2,s3,s4,j3,j4,j5⟩:=hsrw.at_ (i:=i) (by rw[hll];exact hil);rw[List.getElem_map] at s0 s1 s2 s3 s4;rw[hll,←HN.out] at hsv;simp only[Value.slice.injEq,true_and] at hsv;obtain⟨rfl,rfl⟩:=hsv;obtain⟨sx,hsx⟩: ∃sx,sx=segs[i]:=⟨_,rfl⟩;rw[←hsx] at s0 s1 s2 s3 s4;simp only[Sg.raw] at s0 s1 s2 s3 s4;clear j1 j2 j3 j4 j5;have hdr:segs.drop i=sx::segs.drop (i+1):=by rw[hsx];exact List.drop_eq_getElem_cons hil
   have hsi:=HSI.out i hil;rw[←hsx] at hsi;have hth:((dropAll M (segs.take i)).at (nameOf sx.num)).now.there=true:=by
    have h1:(dropAll M (segs.take i)).at (nameOf sx.num)=M.at (nameOf sx.num):=by
     unfold Files.at;rw[dropAll_other _ hsi.apart]
    rw[h1];exact hsi.there
   have hwi:=HW.out.step hst;obtain⟨gd,hgd⟩: ∃gd:Int,gd=(sx.good:Int):=⟨_,rfl⟩;obtain⟨rl,hrl⟩: ∃rl:Int,rl=(sx.recs.length:Int):=⟨_,rfl⟩;rw[←hgd] at s2;rw[←hrl] at s3;have hal:Below wr.heap.size wr (wr.alloc (.cells #[.int .i64 (sx.num:Int),.slice ba sx.bs.length bc,.int .i64 gd,.int .i64 rl,.int .u64 (top sx.recs:Int)] 63)):=(Below.refl _ _).alloc (Nat.le_refl _) _;have HTH:=hid hth;have HHI:=hid hsi.hi;have HDR:=hid hdr;have HOLD:=hid hold;have HLI:=hid hli;have HST:=hid hst;have HKP:=hid hkp;have HSX:=hid hsx;have HWI:=hid hwi;have HAL:=hid hal;have hc2:=hwi.cell;clear hsrw hsx hsi hth hwi hgd hrl hdr hold hli hst hkp hal;have HIL:=hid hil;have HEL:=hid (show oldN ix segs=i+(if segs.drop (i+1)= [] then 0 else if top sx.recs≤ix then oldN ix (segs.drop (i+1))+1 else 0) by rw[HOLD.out,HDR.out,oldN]);by_cases hlast:n=i+1
   ·have HN0:=hid (show oldN ix segs=i by
     have h1:=HN.out;rw[HEL.out,if_pos (List.drop_of_length_le (by omega))];rfl)
    subst hlast;go_wp2_with fail
    go_ret
    refine⟨ks,oi,HK.out,rfl,?_,HST.out.trans (Step.of_below oi HAL.out)⟩;rw[←HSEGS.out,HN0.out];exact HLI.out.below HAL.out
   ·have hq:((i:Int) == (n:Int) - 1)=false:=by rw[beq_eq_false_iff_ne];omega
    have hne:segs.drop (i+1)≠ []:=fun e0=>by
     have:=congrArg List.length e0;rw[List.length_drop] at this;simp at this;have h1:=HN.out;omega
    clear hlast;by_cases htop:top sx.recs≤ix
    ·have hd:decide ((ix:Int)<(top sx.recs:Int))=false:=by simp;omega
     have HN1:=hid (show oldN ix segs=(i+1)+oldN ix (segs.drop (i+1)) by
      rw[HEL.out,if_neg hne,if_pos htop];omega)
     have HHELD:=hid (show(wr.alloc (.cells #[.int .i64 (sx.num:Int),.slice ba sx.bs.length bc,.int .i64 gd,.int .i64 rl,.int .u64 (top sx.recs:Int)] 63)).heap[hb]?=some (.cells #[.pointer (some ⟨g,0,none⟩)] 66 (0,0))∧(wr.alloc (.cells #[.int .i64 (sx.num:Int),.slice ba sx.bs.length bc,.int .i64 gd,.int .i64 rl,.int .u64 (top sx.recs:Int)] 63)).heap[wr.heap.size]?=some (.cells #[.int .i64 (sx.num:Int),.slice ba sx.bs.length bc,.int .i64 gd,.int .i64 rl,.int .u64 (top sx.recs:Int)] 63 (0,0)) from⟨(HAL.out.block hb (lt_of_block HWI.out.1)).trans HWI.out.1,heap_alloc_new _ _⟩);clear hne;go_wp2_with fail
     refine wp_region_held_drew (S:=fun W=>W.heap[hb]?=some (.cells #[.pointer (some ⟨g,0,none⟩)] 66 (0,0))∧W.heap[wr.heap.size]?=some (.cells #[.int .i64 (sx.num:Int),.slice ba sx.bs.length bc,.int .i64 gd,.int .i64 rl,.int .u64 (top sx.recs:Int)] 63 (0,0))) (by kernel_rfl) HHELD.out (fun hHeld=>?_);refine zkH 0 (v:=?_) (h2:=?_) (h:=?_);rotate_left;focus (intro W hS;(try dsimp only at hS);have q0:W.cell? ⟨wr.heap.size,0,none⟩=some (.int .i64 (sx.num:Int)):=by {rw[cell_of_row _ _ 0 _ _ _ hS.2];rfl};have q1:W.cell? ⟨wr.heap.size,1,none⟩=some (.slice ba sx.bs.length bc):=by {rw[cell_of_row _ _ 1 _ _ _ hS.2];rfl};have q2:W.cell? ⟨wr.heap.size,2,none⟩=some (.int .i64 gd):=by {rw[cell_of_row _ _ 2 _ _ _ hS.2];rfl};have q3:W.cell? ⟨wr.heap.size,3,none⟩=some (.int .i64 rl):=by {rw[cell_of_row _ _ 3 _ _ _ hS.2];rfl};have q4:W.cell? ⟨wr.heap.size,4,none⟩=some (.int .u64 (top sx.recs:Int)):=by {rw[cell_of_row _ _ 4 _ _ _ hS.2];rfl};go_simp;(try with_reducible rfl))
     try simp only[Act.put,zsA,zsS,zsZ]
     refine zkH 1 (v:=?_) (h2:=?_) (h:=?_);rotate_left;focus (intro W hS;(try dsimp only at hS);go_simp;(try with_reducible rfl))
     try simp only[Act.put,zsA,zsS,zsZ]
     refine zkH 2 (v:=?_) (h2:=?_) (h:=?_);rotate_left;focus (intro W hS;(try dsimp only at hS);go_simp;(try with_reducible rfl))
     try simp only[Act.put,zsA,zsS,zsZ]
     refine zkH 3 (v:=?_) (h2:=?_) (h:=?_);rotate_left;focus (intro W hS;(try dsimp only at hS);go_simp;(try with_reducible rfl))
     try simp only[Act.put,zsA,zsS,zsZ]
     refine zkH 4 (v:=?_) (h2:=?_) (h:=?_);rotate_left;focus (intro W hS;(try dsimp only at hS);have q:W.cell? ⟨hb,0,none⟩=some (.pointer (some ⟨g,0,none⟩)):=by {rw[cell_of_row _ _ 0 _ _ _ hS.1];rfl};go_simp;(try with_reducible rfl))
     try simp only[Act.put,zsA,zsS,zsZ]
     refine zrH 5 (h:=fun K hK=>?_);rw[if_pos (by rfl)];go_simp
     refine(remove_seg ((HLI.out.below HAL.out).below (Below.refl _ _).drew) sx.num (.slice ba sx.bs.length bc) (.int .i64 gd) (.int .i64 rl) (.int .u64 (top sx.recs:Int)) HHI.out HTH.out).mono ?_;rintro r w7 ⟨rfl,o7,hd7,hs7⟩;have hs8:Step oi wr o7 w7:=((Step.of_below oi HAL.out).trans (Step.of_below oi (Below.refl _ _).drew)).trans hs7;have HHELD7:=hid (show w7.heap[hb]?=_∧w7.heap[wr.heap.size]?=_ from⟨(hs7.block hb (lt_of_block HHELD.out.1) HWI.out.2).trans HHELD.out.1,(hs7.block wr.heap.size (by simp) (HLI.out.free (Nat.le_refl _))).trans HHELD.out.2⟩);have HL7:=hid (show Live w7 B o7 g (dropAll M (segs.take (i+1))) N by
      rw[dropAll_succ _ _ HIL.out,←HSX.out];exact HLI.out.step hs8 hd7 (tame_upd HLI.out.tame (by rw[name_len];decide) (fun f hf=>by cases hf)) HLI.out.few)
     have HS8:=hid hs8;clear hd7 hs7 hs8;go_wp2_with fail
     refine hK.out _ _ HHELD7.out (fun hHeld=>?_);clear hK K;try simp only[Act.put,zsA,zsS,zsZ]
     refine wpAnyH_done (by kernel_rfl) ?_ _;go_wp2_with fail
     go_roundw
     case rel=>exact⟨i+1,o7,hin,by go_num,HN1.out,HL7.out,HST.out.trans HS8.out,HKP.out.step HS8.out⟩
     case measure=>simp [intOf];omega
    ·have hd:decide ((ix:Int)<(top sx.recs:Int))=true:=by simp;omega
     have HN0:=hid (show oldN ix segs=i by
      rw[HEL.out,if_neg hne,if_neg htop];rfl)
     clear hne;go_wp2_with fail
     go_ret
     refine⟨ks,oi,HK.out,rfl,?_,HST.out.trans (Step.of_below oi HAL.out)⟩;rw[←HSEGS.out,HN0.out];exact HLI.out.below HAL.out
  ·obtain rfl:i=n:=by omega
   have HN0:=hid (show oldN ix segs=i by rw[hold,HN.out,List.drop_length];rfl);have HLI:=hid hli;have HST:=hid hst;clear hold hli hst hkp;go_wp2_with fail
   go_ret
   refine⟨ks,oi,HK.out,rfl,?_,HST.out⟩;rw[←HSEGS.out,HN0.out];exact HLI.out
end Go.Proofs.YtalfbcbnljhldaaGreatDoor

set_option linter.unusedSimpArgs false
namespace Go.Proofs.YtalfbcbnljhldaaGreatDoor
open Go.Lib (hid)
open Go.RowKit Go.Maps Go.Sort Dsk Wl
def syncAll (M:Files) (ns:List Nat):Files:=ns.foldl (fun M k=>upd M (nameOf k) (settled (M.at (nameOf k)).now)) M
theorem syncAll_succ (M:Files) (ns:List Nat) {i:Nat} (hi:i<ns.length):syncAll M (ns.take (i+1))=upd (syncAll M (ns.take i)) (nameOf ns[i]) (settled ((syncAll M (ns.take i)).at (nameOf ns[i])).now):=by
 unfold syncAll;rw[List.take_add_one,List.getElem?_eq_getElem hi,Option.toList_some,List.foldl_append];rfl
theorem tame_settled {M:Files} (h:Tame M) (k:Nat):Tame (upd M (nameOf k) (settled (M.at (nameOf k)).now)):=by
 refine tame_upd h (by rw[name_len];decide) fun f hf=>?_;unfold settled at hf;split at hf
 ·cases hf;simp
 ·cases hf
theorem syncAll_other {n:Name} : ∀(ns:List Nat) {M:Files},(∀k∈ns,n≠nameOf k)→(syncAll M ns) n=M n
 | [],M,_=>rfl
 | k::ns,M,h=>by
  show(syncAll (upd M (nameOf k) _) ns) n=_;rw[syncAll_other ns (fun x hx=>h x (by simp [hx])),upd_other _ _ (h k (by simp))]
set_option maxRecDepth 100000 in
set_option maxHeartbeats 2000000 in
theorem sync_wal {w:World} {B g N:Nat} {o:Tags} {M:Files} (h:Live w B o g M N) (hb:Nat) (hw:WalAt w o hb g):
  Calls Tryz.prog 11 #[.pointer (some ⟨hb,0,none⟩)] w fun r w'=> ∃ks o',NamesOf M (fun f=>f.loose) ks∧r= .returned (.int .i64 0)∧Live w' B o' g (syncAll M (numsOf ks)) N∧Step o w o' w':=by
 have hc:=hw.cell;have HLO:=hid (loose_all g B N o M w h.disk (by have:=h.few;omega) (fun l f hf=>by have:=(h.tame l f hf).2;omega));have HL:=hid h;have HW:=hid hw;clear h hw;go_enter Tryz.func11,Tryz.ntmps11
 go_wp2_with fail
 refine HLO.out.mono ?_;rintro r w1 ⟨ks,a,c,rfl,hks,hsr,hb1,hkN⟩;have HL1:=hid (HL.out.below hb1);have HAM:=hid (among_any B _ ks a c w1 HL1.out.tabs HL1.out.hB hsr (by have:=HL.out.few;omega) (fun n hn=>by
  obtain⟨f,hf,_⟩:=(hks.2 n).1 hn;have:=(HL.out.tame n f hf).1;omega))
 have HB1:=hid hb1;have hrise:=nums_rise hks.1;have hsome: ∀k∈numsOf ks,(1≤k∧k≤99999999)∧(M (nameOf k)).isSome=true:=fun k hk=>by
  obtain⟨h1,h2⟩:=nums_mem.1 hk;obtain⟨f,hf,_⟩:=(hks.2 _).1 h1;exact⟨h2,by rw[hf];rfl⟩
 have hnl:=nums_len ks;have HK:=hid hks;clear hks hsr hb1 HLO;go_wp2_with fail
 refine HAM.out.mono ?_;rintro r w2 ⟨v,rfl,hsg,hb2⟩;obtain⟨ns,hns⟩: ∃ns,ns=numsOf ks:=⟨_,rfl⟩;rw[←hns] at hsg hrise hsome hnl;obtain⟨sa,sc,rfl,_⟩:=hsg.shape;rw[List.length_map] at hsg ⊢;have HNS:=hid hns;obtain⟨n,hn⟩: ∃n,n=ns.length:=⟨_,rfl⟩;rw[←hn] at hsg ⊢;have HN:=hid hn;have hb12:Below w.heap.size w w2:=HB1.out.trans (hb2.mono HB1.out.size);have HSR:=hid (hsg.less HB1.out.size);have HRISE:=hid hrise;have HSOME:=hid hsome;have hls:n≤5000:=by have:=HL.out.few;omega
 have HSTART:=hid (show Live w2 B o g (syncAll M (ns.take 0)) N∧Step o w o w2∧Kept w2 w.heap.size o w2 from⟨HL.out.below hb12,Step.of_below o hb12,Kept.start fun k e=>(HL.out.disk.owns k e).2⟩);clear hns hn hsg hrise hsome hb12 hb2 HAM HL1 HB1 hnl;go_wp2_with fail
 go_loopw [21] (fun v wr=> ∃(i:Nat) (oi:Tags),i≤n∧v= .int .i64 (i:Int)∧Live wr B oi g (syncAll M (ns.take i)) N∧Step o w oi wr∧Kept w2 w.heap.size oi wr) (fun v _=>n - (intOf v).toNat)
 case atStart=>exact⟨0,o,Nat.zero_le _,rfl,HSTART.out⟩
 case round=>
  clear HSTART;obtain⟨i,oi,hi,rfl,hli,hst,hkp⟩:=hrel;by_cases hin:i<n
  ·have hil:i<ns.length:=by rw[←HN.out];exact hin
   have hsrw:=HSR.out.kept hkp;have hll:(ns.map Sx.mk0).length=ns.length:=List.length_map _;obtain⟨sg,cap,ba,bc,hsv,j1,j2,s0,s1,s2,s3,s4,j3,j4,j5⟩:=hsrw.at_ (i:=i) (by rw[hll];exact hil);rw[List.getElem_map] at s0 s1 s2 s3 s4;rw[hll,←HN.out] at hsv;simp only[Value.slice.injEq,true_and] at hsv;obtain⟨rfl,rfl⟩:=hsv;obtain⟨k,hk⟩: ∃k,k=ns[i]:=⟨_,rfl⟩;rw[←hk] at s0 s1 s2 s3 s4;simp only[Sx.mk0,List.length_nil] at s0 s1 s2 s3 s4;rw[show((0:Nat):Int)=0 from rfl] at s2 s3 s4;clear j1 j2 j3 j4 j5;have hkm:=HSOME.out k (by rw[hk];exact List.getElem_mem hil);have hsm:((syncAll M (ns.take i)) (nameOf k)).isSome=true:=by
    rw[syncAll_other _ fun j hj=>?_]
    ·exact hkm.2
    ·intro e0
     have hj1:=HSOME.out j (List.mem_of_mem_take hj);have hjk:=name_inj hkm.1 hj1.1 e0;obtain⟨q,hq,hqe⟩:=List.getElem_of_mem hj;rw[List.length_take] at hq;rw[List.getElem_take] at hqe;have hlt:=List.pairwise_iff_getElem.1 HRISE.out q i (by omega) hil (by omega);omega
   have hwi:=HW.out.step hst;have hal:Below wr.heap.size wr (wr.alloc (.cells #[.int .i64 (k:Int),.slice ba 0 bc,.int .i64 0,.int .i64 0,.int .u64 0] 63)):=(Below.refl _ _).alloc (Nat.le_refl _) _;have HSM:=hid hsm;have HKR:=hid hkm.1;have HLI:=hid hli;have HST:=hid hst;have HKP:=hid hkp;have HKE:=hid hk;have HWI:=hid hwi;have HAL:=hid hal;have hc2:=hwi.cell;clear hsrw hk hkm hsm hwi hli hst hkp hal;have HIL:=hid hil;have HHELD:=hid (show(wr.alloc (.cells #[.int .i64 (k:Int),.slice ba 0 bc,.int .i64 0,.int .i64 0,.int .u64 0] 63)).heap[hb]?=some (.cells #[.pointer (some ⟨g,0,none⟩)] 66 (0,0))∧(wr.alloc (.cells #[.int .i64 (k:Int),.slice ba 0 bc,.int .i64 0,.int .i64 0,.int .u64 0] 63)).heap[wr.heap.size]?=some (.cells #[.int .i64 (k:Int),.slice ba 0 bc,.int .i64 0,.int .i64 0,.int .u64 0] 63 (0,0)) from⟨(HAL.out.block hb (lt_of_block HWI.out.1)).trans HWI.out.1,heap_alloc_new _ _⟩);go_wp2_with fail
   refine wp_region_held_drew (S:=fun W=>W.heap[hb]?=some (.cells #[.pointer (some ⟨g,0,none⟩)] 66 (0,0))∧W.heap[wr.heap.size]?=some (.cells #[.int .i64 (k:Int),.slice ba 0 bc,.int .i64 0,.int .i64 0,.int .u64 0] 63 (0,0))) (by kernel_rfl) HHELD.out (fun hHeld=>?_);refine zkH 0 (v:=?_) (h2:=?_) (h:=?_);rotate_left;focus (intro W hS;(try dsimp only at hS);go_simp;(try with_reducible rfl))
   try simp only[Act.put,zsA,zsS,zsZ]
   refine zkH 1 (v:=?_) (h2:=?_) (h:=?_);rotate_left;focus (intro W hS;(try dsimp only at hS);go_simp;(try with_reducible rfl))
   try simp only[Act.put,zsA,zsS,zsZ]
   refine zkH 2 (v:=?_) (h2:=?_) (h:=?_);rotate_left;focus (intro W hS;(try dsimp only at hS);go_simp;(try with_reducible rfl))
   try simp only[Act.put,zsA,zsS,zsZ]
   refine zkH 3 (v:=?_) (h2:=?_) (h:=?_);rotate_left;focus (intro W hS;(try dsimp only at hS);have q:W.cell? ⟨hb,0,none⟩=some (.pointer (some ⟨g,0,none⟩)):=by {rw[cell_of_row _ _ 0 _ _ _ hS.1];rfl};go_simp;(try with_reducible rfl))
   try simp only[Act.put,zsA,zsS,zsZ]
   refine zkH 4 (v:=?_) (h2:=?_) (h:=?_);rotate_left;focus (intro W hS;(try dsimp only at hS);have q0:W.cell? ⟨wr.heap.size,0,none⟩=some (.int .i64 (k:Int)):=by {rw[cell_of_row _ _ 0 _ _ _ hS.2];rfl};have q1:W.cell? ⟨wr.heap.size,1,none⟩=some (.slice ba 0 bc):=by {rw[cell_of_row _ _ 1 _ _ _ hS.2];rfl};have q2:W.cell? ⟨wr.heap.size,2,none⟩=some (.int .i64 0):=by {rw[cell_of_row _ _ 2 _ _ _ hS.2];rfl};have q3:W.cell? ⟨wr.heap.size,3,none⟩=some (.int .i64 0):=by {rw[cell_of_row _ _ 3 _ _ _ hS.2];rfl};have q4:W.cell? ⟨wr.heap.size,4,none⟩=some (.int .u64 0):=by {rw[cell_of_row _ _ 4 _ _ _ hS.2];rfl};go_simp;(try with_reducible rfl))
   try simp only[Act.put,zsA,zsS,zsZ]
   refine zrH 5 (h:=fun K hK=>?_);rw[if_pos (by rfl)];go_simp
   refine(((HLI.out.below HAL.out).below (Below.refl _ _).drew).name k (.slice ba 0 bc) (.int .i64 0) (.int .i64 0) (.int .u64 0) HKR.out.2).mono ?_;rintro r w6 ⟨rfl,hb6⟩;have hs6:Step oi wr oi w6:=((Step.of_below oi HAL.out).trans (Step.of_below oi (Below.refl _ _).drew)).trans (Step.of_below oi hb6);have HHELD6:=hid (show w6.heap[hb]?=_∧w6.heap[wr.heap.size]?=_ from⟨(hb6.block hb (lt_of_block HHELD.out.1)).trans HHELD.out.1,(hb6.block wr.heap.size (by simp)).trans HHELD.out.2⟩);have HL6:=hid (((HLI.out.below HAL.out).below (Below.refl _ _).drew).below hb6);have HS6:=hid hs6;clear hb6 hs6;go_wp2_with fail
   refine hK.out _ _ HHELD6.out (fun hHeld=>?_);clear hK K;try simp only[Act.put,zsA,zsS,zsZ]
   refine zrH 6 (h:=fun K hK=>?_);rw[if_pos (by rfl)];go_simp
   refine(sync_any g B N oi (syncAll M (ns.take i)) (nameOf k) w6 HL6.out.disk HSM.out (by rw[name_len];decide) (by rw[name_len];decide) (by have:=HL6.out.few;omega) (HL6.out.at_ _)).mono ?_;rintro r w7 ⟨rfl,o7,hd7,hs7⟩;have hs8:Step oi wr o7 w7:=HS6.out.trans hs7;have HHELD7:=hid (show w7.heap[hb]?=_∧w7.heap[wr.heap.size]?=_ from⟨(hs7.block hb (lt_of_block HHELD6.out.1) HWI.out.2).trans HHELD6.out.1,(hs7.block wr.heap.size (lt_of_block HHELD6.out.2) (HLI.out.free (Nat.le_refl _))).trans HHELD6.out.2⟩);have HL7:=hid (show Live w7 B o7 g (syncAll M (ns.take (i+1))) N by
    rw[syncAll_succ _ _ HIL.out,←HKE.out];exact HLI.out.step hs8 hd7 (tame_settled HLI.out.tame k) HLI.out.few)
   have HS8:=hid hs8;clear hd7 hs7 hs8;go_wp2_with fail
   refine hK.out _ _ HHELD7.out (fun hHeld=>?_);clear hK K;try simp only[Act.put,zsA,zsS,zsZ]
   refine wpAnyH_done (by kernel_rfl) ?_ _;go_wp2_with fail
   go_roundw
   case rel=>exact⟨i+1,o7,hin,by go_num,HL7.out,HST.out.trans HS8.out,HKP.out.step HS8.out⟩
   case measure=>simp [intOf];omega
  ·obtain rfl:i=n:=by omega
   have HLI:=hid hli;have HST:=hid hst;clear hli hst hkp;go_wp2_with fail
   go_ret
   refine⟨ks,oi,HK.out,rfl,?_,HST.out⟩;rw[←HNS.out];have:=HLI.out;rw[HN.out,List.take_length] at this;exact this
end Go.Proofs.YtalfbcbnljhldaaGreatDoor

set_option linter.unusedSimpArgs false
namespace Go.Proofs.YtalfbcbnljhldaaGreatDoor
open Go.Lib (hid)
open Go.RowKit Go.Maps Dsk Rd Wl
namespace Rl
theorem syncAll_snoc (M:Files) (l:List Nat) (k:Nat):syncAll M (l++ [k])=upd (syncAll M l) (nameOf k) (settled ((syncAll M l).at (nameOf k)).now):=by
 unfold syncAll;rw[List.foldl_append];rfl
theorem allok_at {M:Files} (h:AllOk M) (nm:Name):(M.at nm).ok:=by
 unfold Files.at;cases hM:M nm with
 | none=>exact Fil.zero_ok
 | some q=>exact h nm q hM
theorem settled_now {v:Ver} (hv:v.ok) {f:Fil} (h:settled v=some f):f.ok∧f.later= []:=by
 unfold settled at h;split at h
 ·cases h
  exact⟨⟨⟨Nat.le_refl _,hv.2.1,hv.2.2⟩,fun v hv=>by cases hv⟩,rfl⟩
 ·cases h
theorem allok_upd {M:Files} (h:AllOk M) {nm:Name} {x:Option Fil} (hx: ∀f,x=some f→f.ok):AllOk (upd M nm x):=fun n f hf=>by
 by_cases e:n=nm
 ·subst e
  rw[upd_same] at hf;exact hx f hf
 ·rw[upd_other _ _ e] at hf
  exact h n f hf
theorem slim_upd {M:Files} (h:Slim M) {nm:Name} {x:Option Fil} (hx: ∀f,x=some f→f.later.length≤800):Slim (upd M nm x):=fun n f hf=>by
 by_cases e:n=nm
 ·subst e
  rw[upd_same] at hf;exact hx f hf
 ·rw[upd_other _ _ e] at hf
  exact h n f hf
theorem sync_both {M:Files} (h:AllOk M) (hs:Slim M) (nm:Name):AllOk (upd M nm (settled (M.at nm).now))∧Slim (upd M nm (settled (M.at nm).now)):=by
 have hk:=Fil.now_ok (allok_at h nm);exact⟨allok_upd h fun f hf=>(settled_now hk hf).1,slim_upd hs fun f hf=>by rw[(settled_now hk hf).2];simp⟩
theorem syncAll_both: ∀(l:List Nat) {M:Files},AllOk M→Slim M→AllOk (syncAll M l)∧Slim (syncAll M l)
 | [],_,h,hs=>⟨h,hs⟩
 | k::l,_,h,hs=>syncAll_both l (sync_both h hs (nameOf k)).1 (sync_both h hs (nameOf k)).2
theorem nums_snoc (l:List Name) (n:Name):numsOf (l++ [n])=numsOf l++(numOf n).toList:=by
 unfold numsOf;rw[List.filterMap_append];cases h:numOf n<;>simp [h]
section
variable {w:World} {B g n h:Nat} {S:Nat→Prop} {M:Files}
set_option maxRecDepth 100000 in
set_option maxHeartbeats 4000000 in
theorem sync_any (hd:RM w B S g n M) (ho:AllOk M) (hs:Slim M) (hn:n≤700000) (hbox:w.cell? ⟨h,0,none⟩=some (.pointer (some ⟨g,0,none⟩))) (hnS: ¬S h) {ks:List Name} (hk:NamesOf M (fun f=>f.loose) ks) (hkl:ks.length≤700000):
  Calls Tryz.prog 12 #[.pointer (some ⟨h,0,none⟩)] w fun e w'=>e= .returned (.tuple #[])∧Rd.Apart S w w'∧RM w' B (More S w w') g n (syncAll M (numsOf ks)):=by
 have HLO:=hid (rm_loose hd ho hs hn hk);have hhw:=World.block_lt_of_cell? w ⟨h,0,none⟩ hbox;have HSB:=hid (show∀k,S k→k<w.heap.size from fun k e=>by obtain⟨F,h1,_⟩:=hd;exact(h1.hS k e).2);have HD:=hid hd;have HOK0:=hid ho;have HSL0:=hid hs;have HBX:=hid hbox;have HNS:=hid hnS;have HHW:=hid hhw;have HKS:=hid hk;obtain⟨N,hN⟩: ∃x,x=ks.length:=⟨_,rfl⟩;rw[←hN] at hkl;have HN:=hid hN;clear hd ho hs hnS hk hhw hN;go_enter Tryz.func12,Tryz.ntmps12
 go_wp2_with fail
 refine HLO.out.mono ?_;rintro e w1 ⟨v,rfl,hrow,hb⟩;obtain⟨oa,oc,rfl,hcell⟩:=ownsRow_cell hrow;rw[←HN.out];have HCELL:=hid hcell;have HROW:=hid hrow;have HB:=hid hb;have HBX1:=hid (stays' hb HBX.out);clear hcell hrow hb HLO hbox;go_wp2_with fail
 go_loopw [3] (fun v3 wr=> ∃(i:Nat) (Sx:Nat→Prop),v3= .int .i64 (i:Int)∧i≤N∧Hid (Ex S w1 wr Sx)∧Hid (RM wr B Sx g n (syncAll M (numsOf (ks.take i))))) (fun v3 _=>N - (intOf v3).toNat)
 case atStart=>exact⟨0,S,rfl,Nat.zero_le _,hid (Ex.of_below (Below.refl _ _)),hid (HD.out.below HB.out)⟩
 case round=>
  obtain⟨i,Sx,rfl,hi,HEX,HDX⟩:=hrel;by_cases hlt:i<N
  ·have hil:i<ks.length:=by rw[←HN.out];exact hlt
   obtain⟨nm,hnm⟩: ∃nm,nm=ks[i]:=⟨_,rfl⟩;obtain⟨b,rfl,hbl,hx,_⟩:=HCELL.out i (.string ⟨nm.toArray⟩) (by simp [strs,hil,hnm]);have hbS: ¬S b:=fun e=>by
    have h1:=HSB.out b e;have h2:=World.ownsRow.lt HROW.out b rfl;omega
   have x2:wr.cell? ⟨b,i,none⟩=some (.string ⟨nm.toArray⟩):=(World.cell?_of_block (w:=w1) (a:=⟨b,i,none⟩) (HEX.out.ap.block b hbl hbS)).trans hx;have hh1:h<w1.heap.size:=Nat.lt_of_lt_of_le HHW.out HB.out.size;have c1:wr.cell? ⟨h,0,none⟩=some (.pointer (some ⟨g,0,none⟩)):=(World.cell?_of_block (w:=w1) (a:=⟨h,0,none⟩) (HEX.out.ap.block h hh1 HNS.out)).trans HBX1.out;have hnot: ∀k,k<w1.heap.size→ ¬S k→ ¬Sx k:=fun k hk hns hsx=>by
    rcases HEX.out.sub k hsx with h1 | ⟨h1,_⟩
    ·exact hns h1
    ·omega
   have HHB:=hid (⟨Nat.lt_of_lt_of_le hh1 HEX.out.ap.size,hnot h hh1 HNS.out,Nat.lt_of_lt_of_le hbl HEX.out.ap.size,hnot b hbl hbS⟩:h<wr.heap.size∧ ¬Sx h∧b<wr.heap.size∧ ¬Sx b);have HC1:=hid c1;have HX2:=hid x2;have HNUM:=hid (number_any nm);have htk:ks.take (i+1)=ks.take i++ [nm]:=by rw[List.take_succ_eq_append_getElem hil,hnm]
   have hdi:decide ((i:Int)<(N:Int))=true:=decide_eq_true (by omega);have hdi2:decide (i<N)=true:=decide_eq_true hlt;have hdi3:decide ((i:Int)<0)=false:=by simp
   have hk0:(0:Int)≤i:=by omega
   have hk1:(i:Int)≤700000:=by omega
   have hk2:(i:Int)<(N:Int):=by omega
   have hmem:nm∈ks:=by rw[hnm];exact List.getElem_mem hil
   have HMEM:=hid hmem;have HNOT:=hid (show nm∉ks.take i from fun hm=>by
    obtain⟨j,hj,e⟩:=List.getElem_of_mem hm;rw[List.length_take] at hj;rw[List.getElem_take] at e;have:=List.pairwise_iff_getElem.1 HKS.out.1 j i (by omega) hil (by omega);rw[e,hnm] at this;exact name_irr _ this)
   have hns:=nums_snoc (ks.take i) nm;rw[←htk] at hns;have HTK0:=hid hns;obtain⟨r,hr⟩: ∃r,r=numR nm:=⟨_,rfl⟩;rw[←hr] at HNUM;clear hnm hx hbS hh1 hnot htk hmem hns;by_cases hr0:0<r
   ·have hnum:numOf nm=some r:=by rw[hr];exact numR_pos.1 (by rw[←hr];exact hr0)
    obtain⟨hne,hr1,hr2⟩:=name_num hnum;have HNE:=hid hne;have HNM:=hid (show nm.length=12 by rw[hne];exact name_len r);have HTK:=hid (show numsOf (ks.take (i+1))=numsOf (ks.take i)++ [r] by rw[HTK0.out,hnum];rfl);obtain⟨hok,hsl⟩:=syncAll_both (numsOf (ks.take i)) HOK0.out HSL0.out;have HOK:=hid hok;have HSL:=hid hsl;have HSOME:=hid (show((syncAll M (numsOf (ks.take i))) nm).isSome=true by
     rw[syncAll_other _ fun k hk e=>?_]
     ·obtain⟨f,hf,_⟩:=(HKS.out.2 nm).1 HMEM.out
      rw[hf];rfl
     ·exact HNOT.out (by rw[e];exact(nums_mem.1 hk).1))
    have dr:decide ((0:Int)<(r:Int))=true:=decide_eq_true (by omega);have dr2:decide (0<r)=true:=decide_eq_true hr0;clear hnum hne hr1 hr2 hok hsl hr;go_wp2_with fail
    refine(HNUM.out wr).mono ?_;rintro e w4 ⟨rfl,rfl⟩;go_wp2_with fail
    have HDR:=hid (show Below wr.heap.size wr wr.drew from(Below.refl _ _).drew);obtain⟨u,hu⟩: ∃u,u=wr.drew:=⟨_,rfl⟩;rw[←hu] at HDR;refine wp_region_held_drew (S:=fun W=>W.cell? ⟨h,0,none⟩=some (.pointer (some ⟨g,0,none⟩))∧W.cell? ⟨b,i,none⟩=some (.string ⟨nm.toArray⟩)) (by kernel_rfl) (by rw[←hu];exact⟨stays' HDR.out HC1.out,stays' HDR.out HX2.out⟩) (fun hHeld=>?_);rw[←hu] at hHeld ⊢;clear hu;refine zkH 0 (v:=?_) (h2:=?_) (h:=?_);rotate_left;focus (rintro W ⟨q1,q2⟩;go_simp;(try with_reducible rfl))
    try simp only[Act.put,zsA,zsS,zsZ]
    refine zkH 1 (v:=?_) (h2:=?_) (h:=?_);rotate_left;focus (rintro W ⟨q1,q2⟩;go_simp;(try with_reducible rfl))
    try simp only[Act.put,zsA,zsS,zsZ]
    refine zkH 2 (v:=?_) (h2:=?_) (h:=?_);rotate_left;focus (rintro W ⟨q1,q2⟩;go_simp;(try with_reducible rfl))
    try simp only[Act.put,zsA,zsS,zsZ]
    refine zkH 3 (v:=?_) (h2:=?_) (h:=?_);rotate_left;focus (rintro W ⟨q1,q2⟩;go_simp;(try with_reducible rfl))
    try simp only[Act.put,zsA,zsS,zsZ]
    refine zkH 4 (v:=?_) (h2:=?_) (h:=?_);rotate_left;focus (rintro W ⟨q1,q2⟩;go_simp;(try with_reducible rfl))
    try simp only[Act.put,zsA,zsS,zsZ]
    refine zkH 5 (v:=?_) (h2:=?_) (h:=?_);rotate_left;focus (rintro W ⟨q1,q2⟩;go_simp;(try with_reducible rfl))
    try simp only[Act.put,zsA,zsS,zsZ]
    refine zkH 6 (v:=?_) (h2:=?_) (h:=?_);rotate_left;focus (rintro W ⟨q1,q2⟩;go_simp;(try with_reducible rfl))
    try simp only[Act.put,zsA,zsS,zsZ]
    refine zkH 7 (v:=?_) (h2:=?_) (h:=?_);rotate_left;focus (rintro W ⟨q1,q2⟩;go_simp;(try with_reducible rfl))
    try simp only[Act.put,zsA,zsS,zsZ]
    refine zrH 8 (h:=fun K hK=>?_);rw[if_pos (by rfl)];go_simp
    refine(rm_sync (HDX.out.below HDR.out) HOK.out HSL.out hn nm (by rw[HNM.out];decide) (by rw[HNM.out];decide) HSOME.out).mono ?_;rintro e w5 ⟨rfl,hap5,hrm5⟩;have hex:=HEX.out.trans ((Ex.of_below HDR.out).trans (Ex.of_more hap5));have HELD5:=hid (⟨(World.cell?_of_block (w:=u) (a:=⟨h,0,none⟩) (hap5.block h (Nat.lt_of_lt_of_le HHB.out.1 HDR.out.size) HHB.out.2.1)).trans hHeld.1,(World.cell?_of_block (w:=u) (a:=⟨b,i,none⟩) (hap5.block b (Nat.lt_of_lt_of_le HHB.out.2.2.1 HDR.out.size) HHB.out.2.2.2)).trans hHeld.2⟩:w5.cell? ⟨h,0,none⟩=some (.pointer (some ⟨g,0,none⟩))∧w5.cell? ⟨b,i,none⟩=some (.string ⟨nm.toArray⟩));have HEX5:=hid hex;have HRM5:=hid hrm5;clear hex hap5 hrm5;go_wp2_with fail
    refine hK.out _ _ HELD5.out (fun hHeld=>?_);clear hK K;try simp only[Act.put,zsA,zsS,zsZ]
    refine wpAnyH_done (by kernel_rfl) ?_ _;go_wp2_with fail
    go_roundw
    case rel=>
     refine⟨i+1,_,by go_num,by omega,HEX5,hid ?_⟩;rw[HTK.out,syncAll_snoc,←HNE.out];exact HRM5.out
    case measure=>simp [intOf];omega
   ·have hrz:r=0:=by omega
    have hnum:numOf nm=none:=by
     cases hq:numOf nm with
     | none=>rfl
     | some k=>have h1:numR nm=k:=by unfold numR;rw[hq];rfl
               have:=(name_num hq).2;omega
    have HTK:=hid (show numsOf (ks.take (i+1))=numsOf (ks.take i) by rw[HTK0.out,hnum];simp);have dr:decide ((0:Int)<(r:Int))=false:=decide_eq_false (by omega);have dr2:decide (0<r)=false:=decide_eq_false hr0;clear hnum hr;go_wp2_with fail
    refine(HNUM.out wr).mono ?_;rintro e w4 ⟨rfl,rfl⟩;go_wp2_with fail
    go_roundw
    case rel=>exact⟨i+1,Sx,by go_num,by omega,HEX,hid (by rw[HTK.out];exact HDX.out)⟩
    case measure=>simp [intOf];omega
  ·have hdi:decide ((i:Int)<(N:Int))=false:=decide_eq_false (by omega)
   have hdi2:decide (i<N)=false:=decide_eq_false hlt;have HT:=hid (show ks.take i=ks from List.take_of_length_le (by have:=HN.out;omega));go_wp2_with fail
   go_end0
   have hrm:=HDX.out;rw[HT.out] at hrm;have hex:=(Ex.of_below (S:=S) HB.out).trans HEX.out;refine⟨rfl,hex.ap,?_⟩;obtain⟨F,h1,h2,h3⟩:=hrm;obtain⟨F0,h4,-⟩:=HD.out;exact⟨F,h4.ex h1 hex,h2,h3⟩
end
end Rl
end Go.Proofs.YtalfbcbnljhldaaGreatDoor

namespace Go.Proofs.YtalfbcbnljhldaaGreatDoor
open Go.RowKit Go.Maps Dsk Rd Wl
namespace Rl
def BodyK (w:World) (K:Nat→Prop) (p:EV):Prop:= ∃ba bc,p.2= .slice ba p.1.body.length bc∧(ba=none→bc=0)∧Reads w ba p.1.body∧ ∀x,ba=some x→p.1.body≠ []→K x.block
def SegK (w:World) (K:Nat→Prop) (s:SV):Prop:= ∃a c,s.v= .slice a s.l.length c∧(∃g o,(s.l≠ []→a=some ⟨g,o,none⟩)∧ ∀j u,(pcells s.l)[j]?=some u→K g∧g<w.heap.size∧w.cell? ⟨g,o+j,none⟩=some u)∧(a=none→s.l.length=0∧c=0)∧Fine s.l∧ ∀p∈s.l,BodyK w K p
def RowT (w:World) (T:Nat→Prop) (h:Nat) (sv:Value) (L:List SV):Prop:=(sv= .slice none 0 0∧L= [])∨ ∃q o c cur,sv= .slice (some ⟨q,o,none⟩) L.length c∧T q∧q≠h∧w.heap[q]?=some (.cells cur 79 (0,0))∧L.length≤c∧c≤maxLen∧o+c*2≤cur.size∧ ∀j u,(segCells L)[j]?=some u→cur[o+j]?=some u
structure LogT (w:World) (T K:Nat→Prop) (h g:Nat) (L:List SV):Prop where
 th:T h
 wal: ∃sv,w.heap[h]?=some (.cells #[.pointer (some ⟨g,0,none⟩),sv] 69 (0,0))∧RowT w T h sv L
 segs: ∀s∈L,SegK w K s
section
variable {w w':World} {T K:Nat→Prop} {h g:Nat} {L:List SV}
theorem reads_keep {a:Option Addr} {zs:List Int} (r:Reads w a zs) (hz:w.heap.size≤w'.heap.size) (hk: ∀x,a=some x→zs≠ []→w'.heap[x.block]?=w.heap[x.block]?):Reads w' a zs:=by
 refine⟨fun i hi=>?_,r.hr,r.hl⟩;obtain⟨x,hx,hlt,hc⟩:=r.cell i hi;have hn:zs≠ []:=fun e=>by rw[e] at hi;simp at hi
 refine⟨x,hx,Nat.lt_of_lt_of_le hlt hz,?_⟩;rw[←hc];exact World.cell?_of_block (a:=x.add i) (by rw[add_block];exact hk x hx hn)
theorem BodyK.keep {p:EV} (b:BodyK w K p) (hz:w.heap.size≤w'.heap.size) (hk: ∀k,K k→w'.heap[k]?=w.heap[k]?):BodyK w' K p:=by
 obtain⟨ba,bc,h1,h2,h3,h4⟩:=b;exact⟨ba,bc,h1,h2,reads_keep h3 hz fun x e hn=>hk _ (h4 x e hn),h4⟩
theorem SegK.keep {s:SV} (t:SegK w K s) (hz:w.heap.size≤w'.heap.size) (hk: ∀k,K k→w'.heap[k]?=w.heap[k]?):SegK w' K s:=by
 obtain⟨a,c,h1,⟨q,o,h2,h3⟩,h4,h5,h6⟩:=t;refine⟨a,c,h1,⟨q,o,h2,fun j u hu=>?_⟩,h4,h5,fun p hp=>(h6 p hp).keep hz hk⟩;obtain⟨k1,k2,k3⟩:=h3 j u hu;exact⟨k1,Nat.lt_of_lt_of_le k2 hz,(World.cell?_of_block (w:=w) (a:=⟨q,o+j,none⟩) (hk q k1)).trans k3⟩
theorem SegK.mono {s:SV} {K':Nat→Prop} (t:SegK w K s) (hk: ∀k,K k→K' k):SegK w K' s:=by
 obtain⟨a,c,h1,⟨q,o,h2,h3⟩,h4,h5,h6⟩:=t;refine⟨a,c,h1,⟨q,o,h2,fun j u hu=>⟨hk _ (h3 j u hu).1,(h3 j u hu).2⟩⟩,h4,h5,fun p hp=>?_⟩;obtain⟨ba,bc,k1,k2,k3,k4⟩:=h6 p hp;exact⟨ba,bc,k1,k2,k3,fun x e hn=>hk _ (k4 x e hn)⟩
theorem RowT.keep {sv:Value} (t:RowT w T h sv L) (hk: ∀k,T k→k≠h→w'.heap[k]?=w.heap[k]?):RowT w' T h sv L:=by
 rcases t with t | ⟨q,o,c,cur,h1,h2,h3,h4,h5⟩
 ·exact .inl t
 ·exact .inr ⟨q,o,c,cur,h1,h2,h3,(hk q h2 h3).trans h4,h5⟩
theorem LogT.keep (t:LogT w T K h g L) (hz:w.heap.size≤w'.heap.size) (hT: ∀k,T k→w'.heap[k]?=w.heap[k]?) (hK: ∀k,K k→w'.heap[k]?=w.heap[k]?):LogT w' T K h g L:=by
 obtain⟨sv,h1,h2⟩:=t.wal;exact⟨t.th,⟨sv,(hT h t.th).trans h1,h2.keep fun k hk _=>hT k hk⟩,fun s hs=>(t.segs s hs).keep hz hK⟩
theorem RowT.reads {sv:Value} (t:RowT w T h sv L): ∃a c,sv= .slice a L.length c∧(a=none→c=0)∧ ∃q o,(L≠ []→a=some ⟨q,o,none⟩)∧ ∀j u,(segCells L)[j]?=some u→q<w.heap.size∧w.cell? ⟨q,o+j,none⟩=some u:=by
 rcases t with⟨rfl,rfl⟩ | ⟨q,o,c,cur,h1,h2,h3,h4,h5,h6,h7,h8⟩
 ·exact⟨none,0,rfl,fun _=>rfl,0,0,fun e=>absurd rfl e,fun j u hu=>by simp [segCells] at hu⟩
 ·refine⟨_,c,h1,fun e=>(by cases e),q,o,fun _=>rfl,fun j u hu=>⟨lt_of_block h4,?_⟩⟩
  rw[cell_of_row _ _ _ _ _ _ h4];exact h8 j u hu
theorem SegK.ok {s:SV} (t:SegK w K s):s.Ok w:=by
 obtain⟨a,c,h1,⟨q,o,h2,h3⟩,h4,h5,h6⟩:=t;exact⟨a,c,h1,⟨q,o,h2,fun j u hu=>(h3 j u hu).2⟩,h4,h5⟩
theorem LogT.logR (t:LogT w T K h g L):LogR w h g L:=by
 obtain⟨sv,h1,h2⟩:=t.wal;obtain⟨a,c,rfl,-,q,o,h3,h4⟩:=h2.reads;exact⟨⟨a,c,q,o,h1,h3,h4⟩,fun s hs=>(t.segs s hs).ok⟩
theorem RowT.tail {s:SV} {a:Option Addr} {n c:Nat} (t:RowT w T h (.slice a n c) (s::L)) (hL:L≠ []):RowT w T h (.slice (a.map (·.add 2)) (n - 1) (c - 1)) L∧c≠1:=by
 have hl:0<L.length:=List.length_pos_iff.2 hL;rcases t with⟨_,e⟩ | ⟨q,o,c',cur,h1,h2,h3,h4,h5,h6,h7,h8⟩
 ·cases e
 ·cases h1
  simp only[List.length_cons] at h5;refine⟨.inr ⟨q,o+2,c - 1,cur,?_,h2,h3,h4,by omega,by omega,by omega,fun j u hu=>?_⟩,by omega⟩
  ·simp [addNone]
  ·rw[show o+2+j=o+(j+2) by omega]
   exact h8 (j+2) u (by simpa [segCells] using hu)
def oldR (ix:Nat):List SV→Nat
 | []=>0
 | s::r=>if r= [] then 0 else if (∀p∈s.l,p.1.ix≤ix) then oldR ix r+1 else 0
def dropN (M:Files) (l:List SV):Files:=l.foldl (fun M s=>upd M (nameOf s.n) none) M
theorem dropN_snoc (M:Files) (l:List SV) (s:SV):dropN M (l++ [s])=upd (dropN M l) (nameOf s.n) none:=by
 unfold dropN;rw[List.foldl_append];rfl
theorem dropN_other {n:Name} : ∀(l:List SV) {M:Files},(∀s∈l,n≠nameOf s.n)→(dropN M l) n=M n
 | [],_,_=>rfl
 | s::l,M,h=>by
  show(dropN (upd M (nameOf s.n) none) l) n=_;rw[dropN_other l (fun x hx=>h x (by simp [hx])),upd_other _ _ (h s (by simp))]
theorem dropN_both: ∀(l:List SV) {M:Files},AllOk M→Slim M→AllOk (dropN M l)∧Slim (dropN M l)
 | [],_,h,hs=>⟨h,hs⟩
 | s::l,_,h,hs=>dropN_both l (allok_upd h fun f hf=>by cases hf) (slim_upd hs fun f hf=>by cases hf)
structure SegsIn (M:Files) (L:List SV):Prop where
 rise:L.Pairwise fun a b=>a.n<b.n
 num: ∀s∈L,1≤s.n∧s.n≤99999999
 there: ∀s∈L,(M.at (nameOf s.n)).now.there=true
theorem upd_upd (M:Files) (n:Name) (x y:Option Fil):upd (upd M n x) n y=upd M n y:=by
 funext m
 unfold upd;split<;>rfl
theorem gone_now (f:Fil):settled (f.chg ⟨false,[],0⟩).now=none:=by
 unfold Fil.chg Fil.now settled;simp
theorem removed (M:Files) (n:Name):upd (upd M n (some ((M.at n).chg ⟨false,[],0⟩))) n (settled ((upd M n (some ((M.at n).chg ⟨false,[],0⟩))).at n).now)=upd M n none:=by
 rw[upd_at,gone_now,upd_upd]
end
end Rl
end Go.Proofs.YtalfbcbnljhldaaGreatDoor
