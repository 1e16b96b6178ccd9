/-  -/
import Derived.Test.YtalfbcbnljhldaaGreatDoorMar
import Derived.Test.YtalfbcbnljhldaaGreatDoorMas
import Derived.Test.YtalfbcbnljhldaaGreatDoorMae
set_option linter.unusedSimpArgs false
namespace Go.Proofs.YtalfbcbnljhldaaGreatDoor
open Go.Lib (hid)
open Go.RowKit Go.Maps Go.Sort Dsk Wl
set_option maxRecDepth 100000 in
set_option maxHeartbeats 8000000 in
theorem read_any (B Bd g N:Nat) (o:Tags) (M:Files) (w:World) (ht:Tabs B w) (hB:B≤w.heap.size) (hd:DiskAt w Bd o g M N) (hN:N≤5000) (hgood:Good M):
  Calls Tryz.prog 25 #[.pointer (some ⟨g,0,none⟩)] w fun r w'=> ∃ks v1 v2,NamesOf M (fun f=>f.now.there) ks∧ks.length≤N∧r= .returned (.tuple #[v1,v2])∧ReadTold w w' (segsOf M (numsOf ks)) v1 v2:=by
 have hw1:Below w.heap.size w (w.alloc (.cells #[.slice none 0 0] 36)):=(Below.refl _ _).alloc (Nat.le_refl _) _;have hb1:(w.alloc (.cells #[.slice none 0 0] 36)).heap[w.heap.size]?=some (.cells #[.slice none 0 0] 36 (0,0)):=heap_alloc_new _ _;have HW1:=hid hw1;have HX1:=hid (show Boxed (w.alloc (.cells #[.slice none 0 0] 36)) w.heap.size w.heap.size [] from⟨_,hb1,EntRow.nil _ _⟩);have HNM:=hid (names_all g Bd N o M _ (hd.below hw1) (by omega) (fun l f h=>(hgood l f h).2));have HD:=hid hd;have HG:=hid hgood;have HT:=hid ht;clear hw1 hb1 hd hgood ht;go_enter Tryz.func25,Tryz.ntmps25
 go_wp2_with fail
 go_step3
 go_wp2_with fail
 refine HNM.out.mono ?_;rintro r w2 ⟨ks,a,c,rfl,hks,hsr,hb2,hkN⟩;have HW2:=hid (HW1.out.trans (hb2.mono HW1.out.size));have HX2:=hid (HX1.out.below hb2);have HKS:=hid hks;have HKLN:=hid hkN;have HAM:=hid (among_any B _ ks a c w2 (HT.out.below (HW2.out.mono hB)) (Nat.le_trans hB HW2.out.size) hsr (by omega) (fun n hn=>by
  obtain⟨f,hf,_⟩:=(hks.2 n).1 hn;have:=(HG.out n f hf).1;omega))
 clear hks hsr hb2 HX1 HW1 HNM;go_wp2_with fail
 refine HAM.out.mono ?_;rintro r w3 ⟨sv,rfl,hsg,hb3⟩;have HW3:=hid (HW2.out.trans (hb3.mono HW2.out.size));have HX3:=hid (HX2.out.below hb3);have hnl:=nums_len ks;obtain⟨sa,sc,rfl,hsgn⟩:=hsg.shape;rw[List.length_map];have HSG:=hid (hsg.less HW2.out.size);rw[List.length_map] at HSG;obtain⟨ns,hns⟩: ∃ns,ns=numsOf ks:=⟨_,rfl⟩;rw[←hns] at HSG hnl ⊢;have HNS:=hid hns;clear hsgn hsg hb3 HX2 HW2 HAM hns;go_wp2_with fail
 go_step3
 go_wp2_with fail
 have HSTART:=hid (show AtSeg w M ns (.slice sa ns.length sc) 0 [] [] w3 from⟨rfl,by simpa using HSG.out,HX3.out,(fun e he=>by cases he),by simp,by simp,HW3.out⟩);clear HSG HX3 HW3;go_loopw [18] (fun i wr=> ∃(k:Nat) (done:List Sg) (ents:List Ent),k≤ns.length∧i= .int .i64 (k:Int)∧AtSeg w M ns (.slice sa ns.length sc) k done ents wr) (fun i _=>ns.length - (intOf i).toNat)
 case atStart=>exact⟨0,[],[],Nat.zero_le _,rfl,HSTART.out⟩
 case round=>
  clear HSTART;obtain⟨k,done,ents,hk,rfl,hat⟩:=hrel;obtain⟨ea,ec,hec,her⟩:=hat.box.cell;obtain⟨ecs,hebx⟩:=hat.box.box;by_cases hkn:k<ns.length
  ·have hll:(done.map Sg.raw++(ns.drop k).map Sx.mk0).length=ns.length:=by simp [hat.len];omega
   have hlk:(done.map Sg.raw++(ns.drop k).map Sx.mk0)[k]'(by omega)=Sx.mk0 ns[k]:=by
    rw[List.getElem_append_right (by simp [hat.len])];simp [hat.len]
   obtain⟨sg,cap,ba,bc,hsv,hsgB,hsgs,s0,s1,s2,s3,s4,hrow0,hcap,hcm⟩:=hat.segs.at_ (i:=k) (by omega);rw[hlk] at s0 s1 s2 s3 s4 hrow0;simp only[Value.slice.injEq] at hsv;obtain⟨rfl,hl9,rfl⟩:=hsv;simp only[Sx.mk0,List.length_nil] at s0 s1 s2 s3 s4;rw[show((0:Nat):Int)=0 from rfl] at s2 s3 s4;obtain⟨num,hnum⟩: ∃num,num=ns[k]:=⟨_,rfl⟩;rw[←hnum] at s0;have hnum2:nameOf num∈ks∧1≤num∧num≤99999999:=by
    rw[hnum];exact nums_mem.1 (by rw[←HNS.out];exact List.getElem_mem hkn)
   have HNM:=hid (name_any B num (.slice ba 0 bc) (.int .i64 0) (.int .i64 0) (.int .u64 0) wr hnum2.2.2 (HT.out.below (hat.below.mono hB)) (Nat.le_trans hB hat.below.size));have HAT:=hid hat;have HNU:=hid hnum;have HKN:=hid hkn;have HSGS:=hid hsgs;have HSGB:=hid hsgB;have HNUM:=hid hnum2;have HEC:=hid hec;have HCAP:=hid hcap;have HNL:=hid hnl;have HKB:=hid (show ns.length≤5000 by omega);clear hat hlk hll hrow0 hnum her hsgs hsgB hnum2 hebx hec hcap hcm hnl hkN hl9;go_wp2_with fail
   refine HNM.out.mono ?_;rintro r w4 ⟨rfl,hb4⟩;have HB4:=hid (HAT.out.below.trans (hb4.mono HAT.out.below.size));have hf:=(HG.out (nameOf num));have hfile:Hid (Files1 (.pointer (some ⟨g,0,none⟩)) (.string ⟨(nameOf num).toArray⟩) w4 Bd o (nameOf num) (M.at (nameOf num))):=file_any g Bd N o M (nameOf num) w4 (HD.out.below HB4.out) (by rw[name_len];decide);have HR:=hid (read_of _ _ w4 Bd o (nameOf num) (M.at (nameOf num)) hfile (hid fun q hq=>(HD.out.below HB4.out).owns q hq |>.2) (by
    unfold Files.at;cases hM:M (nameOf num) with
    | none=>simp [Fil.zero]
    | some f=>simpa using(hf f hM).2))
   clear hf hfile HNM;go_wp2_with fail
   refine HR.out.mono ?_;rintro r w5 ⟨ra,rc,rfl,hrow5,hb5⟩;obtain⟨bs,hbs⟩: ∃bs,bs=(M.at (nameOf num)).now.bs:=⟨_,rfl⟩;rw[←hbs] at hrow5 ⊢;have hs1:w5.cell? ⟨sg,k*5+1,none⟩=some (.slice ba 0 bc):=((hb4.trans (hb5.mono hb4.size)).cell (p:=⟨sg,k*5+1,none⟩) HSGS.out).trans s1;have hlt:sg<wr.heap.size:=HSGS.out;obtain⟨cs0,hblk⟩:=HAT.out.segs.block;have hblk5:w5.heap[sg]?=some (.cells cs0 63 (0,0)):=((hb4.trans (hb5.mono hb4.size)).block sg hlt).trans hblk;have hfz1:w5.frozen? ⟨sg,k*5+1,none⟩=false:=frozen_row hblk5;have hREC:=HAT.out.read HKN.out (hb4.trans (hb5.mono hb4.size)) (hrow5.less hb4.size);rw[←HNU.out] at hREC;have HREC:=hid hREC;have HBS:=hid hbs;have HBSL:=hid (show bs.length≤1048576∧ ∀x∈bs,0≤x∧x≤255 from by
    rw[hbs];have hok:(M.at (nameOf num)).ok:=by
     obtain⟨b9,D9,hd9⟩:=HD.out;obtain⟨c9,_,_,_,hf9⟩:=hd9.file (nameOf num);exact hf9.ok
    exact(Fil.now_ok hok).2)
   clear hREC hbs hrow5 hb5 hb4 HR HB4 s0 s1 s2 s3 s4 hblk hblk5 hlt;go_wp2_with fail
   clear hs1 hfz1;generalize w5.setCell ⟨sg,k*5+1,none⟩ (.slice ra bs.length rc)=w6 at*;have HSTART:=hid (show∃(f good:Nat) (recs ents':List Ent),bs.length=bs.length - good∧AtRec w ns (.slice (some ⟨sg,0,none⟩) ns.length sc) k done ents num bs f good recs ents' w6 from⟨_,0,[],ents,by simp,HREC.out⟩);clear HREC;go_loopg [] bs.length (fun gk wx=> ∃(f good:Nat) (recs ents':List Ent),gk=bs.length - good∧AtRec w ns (.slice (some ⟨sg,0,none⟩) ns.length sc) k done ents num bs f good recs ents' wx)
   case atStart=>exact HSTART.out
   case round=>
    clear HSTART;obtain⟨f,good,recs,ents',hgk,hrec⟩:=hrel;have hll:(done.map Sg.raw++(⟨num,bs,good,recs.length,top recs⟩:Sx)::(ns.drop (k+1)).map Sx.mk0).length=ns.length:=by have:=HKN.out;simp [HAT.out.len];omega
    obtain⟨sg',cap',ra',rc',hsv,_,hsgs,s0,s1,s2,s3,s4,hrowb,_,_⟩:=hrec.segs.at_ (i:=k) (by rw[hll];exact HKN.out);rw[get_mid HAT.out.len] at s0 s1 s2 s3 s4 hrowb;simp only[Value.slice.injEq,Option.some.injEq,Addr.mk.injEq,and_true] at hsv;obtain⟨rfl,hl9,rfl⟩:=hsv;have HGK:=hid hgk;have HREC:=hid hrec;have HROWB:=hid hrowb;clear hl9 hll hgk hrec hrowb hsgs;by_cases hlt:good<bs.length
    ·have hd:decide ((good:Int)<(bs.length:Int))=true:=by simp;omega
     go_wp2_with fail
     go_quiet (fail)
     have hb7:=many_drew wr nq;have s1':(wr.drewN nq).cell? ⟨sg,k*5+1,none⟩=some (.slice ra' bs.length rc'):=s1;have s2':(wr.drewN nq).cell? ⟨sg,k*5+2,none⟩=some (.int .i64 (good:Int)):=s2;have s3':(wr.drewN nq).cell? ⟨sg,k*5+3,none⟩=some (.int .i64 (recs.length:Int)):=s3;have s4':(wr.drewN nq).cell? ⟨sg,k*5+4,none⟩=some (.int .u64 (top recs:Int)):=s4;have HREC7:=hid (HREC.out.down hb7);have HROW7:=hid (HROWB.out.below hb7);clear s0 s1 s2 s3 s4 HREC HROWB hb7;go_wp2_with fail
     obtain⟨w7,hw7⟩: ∃w7,w7=wr.drewN nq:=⟨_,rfl⟩;rw[←hw7] at s1' s2' s3' s4' HREC7 HROW7 ⊢;clear hw7;have hne:bs≠ []:=fun h0=>by rw[h0] at hlt;simp at hlt
     obtain⟨rg,rcap,hrs,_,hrgs,hrcap,hrcm,_⟩:=HROW7.out.is hne;simp only[Value.slice.injEq] at hrs;obtain⟨rfl,_,rfl⟩:=hrs;have hsgs:sg<w7.heap.size:=lt_of_cell s2';have HC1:=hid (show∀W,Below w7.heap.size w7 W→W.cell? ⟨sg,k*5+1,none⟩=some (.slice (some ⟨rg,0,none⟩) bs.length rc') from fun W h=>(h.cell (p:=⟨sg,k*5+1,none⟩) hsgs).trans s1');have HC2:=hid (show∀W,Below w7.heap.size w7 W→W.cell? ⟨sg,k*5+2,none⟩=some (.int .i64 (good:Int)) from fun W h=>(h.cell (p:=⟨sg,k*5+2,none⟩) hsgs).trans s2');have hrds:=(HROW7.out.reads HBSL.out.2 (by have:=HBSL.out.1;omega));obtain⟨ar,capr,har,hrd,_,_⟩:=hrds;simp only[Value.slice.injEq] at har;obtain⟨rfl,_,rfl⟩:=har;have HFIRST:=hid (fun(W:World) (h:Below w7.heap.size w7 W)=>first_cap (some ⟨rg,good,none⟩) (bs.length - good) (rc' - good) (bs.drop good) W (by rw[List.length_drop]) (by
      have h1:=(hrd.below h).drop good;rwa [Option.map_some,addr_add] at h1) (by have:=HBSL.out.1;omega) (by omega) (by unfold maxLen at hrcm;omega))
     clear hrd hrgs s1' s2' s3' s4' hsgs;have hgc: ¬rc'=good:=by omega
     have hgn:(good:Int)≤(bs.length:Int)∧(bs.length:Int)≤(rc':Int):=by omega
     refine wp_region_held_drew (S:=fun W=>Below w7.heap.size w7 W) (by kernel_rfl) (Below.refl _ _).drew (fun hHeld=>?_);refine zkH 0 (v:=?_) (h2:=?_) (h:=?_);rotate_left;focus (intro W hS;(try dsimp only at hS);go_simp;(try with_reducible rfl))
     try simp only[Act.put,zsA,zsS,zsZ]
     refine zkH 1 (v:=?_) (h2:=?_) (h:=?_);rotate_left;focus (intro W hS;(try dsimp only at hS);go_simp;(try with_reducible rfl))
     try simp only[Act.put,zsA,zsS,zsZ]
     refine zkH 2 (v:=?_) (h2:=?_) (h:=?_);rotate_left;focus (intro W hS;(try dsimp only at hS);go_simp;(try with_reducible rfl))
     try simp only[Act.put,zsA,zsS,zsZ]
     refine zkH 3 (v:=?_) (h2:=?_) (h:=?_);rotate_left;focus (intro W hS;(try dsimp only at hS);have q:=HC1.out W hS;go_simp;(try with_reducible rfl))
     try simp only[Act.put,zsA,zsS,zsZ]
     refine zkH 4 (v:=?_) (h2:=?_) (h:=?_);rotate_left;focus (intro W hS;(try dsimp only at hS);go_simp;(try with_reducible rfl))
     try simp only[Act.put,zsA,zsS,zsZ]
     refine zkH 5 (v:=?_) (h2:=?_) (h:=?_);rotate_left;focus (intro W hS;(try dsimp only at hS);go_simp;(try with_reducible rfl))
     try simp only[Act.put,zsA,zsS,zsZ]
     refine zkH 6 (v:=?_) (h2:=?_) (h:=?_);rotate_left;focus (intro W hS;(try dsimp only at hS);go_simp;(try with_reducible rfl))
     try simp only[Act.put,zsA,zsS,zsZ]
     refine zkH 7 (v:=?_) (h2:=?_) (h:=?_);rotate_left;focus (intro W hS;(try dsimp only at hS);have q:=HC2.out W hS;go_simp;(try with_reducible rfl))
     try simp only[Act.put,zsA,zsS,zsZ]
     refine zkH 8 (v:=?_) (h2:=?_) (h:=?_);rotate_left;focus (intro W hS;(try dsimp only at hS);go_simp;(try with_reducible rfl))
     try simp only[Act.put,zsA,zsS,zsZ]
     refine zrH 9 (h:=fun K hK=>?_);rw[if_pos (by rfl)];go_simp
     refine(HFIRST.out _ (Below.refl _ _).drew).mono ?_;clear HFIRST HC1 HC2;intro r w8 ht;cases hfo:Frame.firstOf (bs.drop good) with
     | none=>
      rw[hfo] at ht;obtain⟨rfl,hb8⟩:=ht;have h8:Below w7.heap.size w7 w8:=(Below.refl w7.heap.size w7).drew.trans hb8;have HRX:=hid (HREC7.out.bad (Nat.not_le.2 hlt) (step1_none hfo));have HREC8:=hid (HREC7.out.down h8);clear hfo hb8;go_wp2_with fail
      refine hK.out _ _ h8 (fun hHeld=>?_);clear hK K;try simp only[Act.put,zsA,zsS,zsZ]
      refine zkH 10 (v:=?_) (h2:=?_) (h:=?_);rotate_left;focus (intro W hS;(try dsimp only at hS);go_simp;(try with_reducible rfl))
      try simp only[Act.put,zsA,zsS,zsZ]
      refine zkH 11 (v:=?_) (h2:=?_) (h:=?_);rotate_left;focus (intro W hS;(try dsimp only at hS);go_simp;(try with_reducible rfl))
      try simp only[Act.put,zsA,zsS,zsZ]
      refine zkH 12 (v:=?_) (h2:=?_) (h:=?_);rotate_left;focus (intro W hS;(try dsimp only at hS);go_simp;(try with_reducible rfl))
      try simp only[Act.put,zsA,zsS,zsZ]
      refine zkH 13 (v:=?_) (h2:=?_) (h:=?_);rotate_left;focus (intro W hS;(try dsimp only at hS);go_simp;(try with_reducible rfl))
      try simp only[Act.put,zsA,zsS,zsZ]
      refine zkH 14 (v:=?_) (h2:=?_) (h:=?_);rotate_left;focus (intro W hS;(try dsimp only at hS);go_simp;(try with_reducible rfl))
      try simp only[Act.put,zsA,zsS,zsZ]
      refine zkH 15 (v:=?_) (h2:=?_) (h:=?_);rotate_left;focus (intro W hS;(try dsimp only at hS);go_simp;(try with_reducible rfl))
      try simp only[Act.put,zsA,zsS,zsZ]
      refine zkH 16 (v:=?_) (h2:=?_) (h:=?_);rotate_left;focus (intro W hS;(try dsimp only at hS);go_simp;(try with_reducible rfl))
      try simp only[Act.put,zsA,zsS,zsZ]
      refine wpAnyH_done (by kernel_rfl) ?_ _;go_wp2_with fail
      refine(parse_any none 0 0 [] _ rfl (Reads.nil _ _) (by decide) (Nat.le_refl _) (by decide)).mono ?_;rintro r w9 ⟨rfl,hb9⟩;have HREC9:=hid ((HREC8.out.down hb9).down ((Below.refl _ _).alloc (Nat.le_refl _) (.cells #[.int .u64 0,.int .u64 0,.slice none 0 0] 55)));clear HREC8 HREC7 hb9 h8;go_wp2_with fail
      generalize w9.alloc (.cells #[.int .u64 0,.int .u64 0,.slice none 0 0] 55)=wz at*;obtain⟨ea2,ec2,hec2,her2⟩:=HREC9.out.box.cell;obtain⟨ecs2,hebx2⟩:=HREC9.out.box.box;have hfz2:wz.frozen? ⟨w.heap.size,0,none⟩=false:=frozen_row hebx2;have HER2:=hid her2;clear her2 hebx2;go_region
      all_goals (go_wp2_with fail)
      all_goals (try rw[Exit.noGoto_ret])
      all_goals (go_wp2_with fail)
      refine bodyPost_ret (v:= .tuple #[.slice (some ⟨sg,0,none⟩) ns.length sc,.slice ea2 ents'.length ec2]) ?_ rfl ?_
      ·have hcx:((wz.setCell ⟨w.heap.size,0,none⟩ (.slice ea2 ents'.length ec2)).drew).cell? ⟨w.heap.size,0,none⟩=some (.slice ea2 ents'.length ec2):=box_end HREC9.out.box _
       generalize (wz.setCell ⟨w.heap.size,0,none⟩ (.slice ea2 ents'.length ec2)).drew=WE at*;simp [results,Tryz.results25,go_sem,hcx]
      ·have heq:=HAT.out.stops HKN.out (by rw[←HNU.out];exact HBS.out) HRX.out (.inl rfl)
       refine⟨ks,_,_,HKS.out,HKLN.out,rfl,?_⟩;rw[←HNS.out];exact told_end heq (by rw[raw_stops,←HNU.out];exact HREC9.out.segs) HREC9.out.box HER2.out HREC9.out.below
     | some zm=>
      obtain⟨zs,m⟩:=zm;rw[hfo] at ht;obtain⟨g2,c2,rfl,_,hhr,hzc,hcm2,hb8⟩:=ht;have h8:Below w7.heap.size w7 w8:=(Below.refl w7.heap.size w7).drew.trans hb8;have hzl:zs.length≤4096:=(Frame.first_is (fun x hx=>HBSL.out.2 x (List.mem_of_mem_drop hx)) hfo).1;have HFO:=hid hfo;have HREC8:=hid (HREC7.out.down h8);have HPA:=hid (parse_any (some ⟨g2,0,none⟩) zs.length c2 zs w8 rfl hhr.reads (by omega) hzc hcm2);clear hfo hb8 hhr hzc hcm2 hzl HREC7;go_wp2_with fail
      refine hK.out _ _ h8 (fun hHeld=>?_);clear hK K;try simp only[Act.put,zsA,zsS,zsZ]
      refine zkH 10 (v:=?_) (h2:=?_) (h:=?_);rotate_left;focus (intro W hS;(try dsimp only at hS);go_simp;(try with_reducible rfl))
      try simp only[Act.put,zsA,zsS,zsZ]
      refine zkH 11 (v:=?_) (h2:=?_) (h:=?_);rotate_left;focus (intro W hS;(try dsimp only at hS);go_simp;(try with_reducible rfl))
      try simp only[Act.put,zsA,zsS,zsZ]
      refine zkH 12 (v:=?_) (h2:=?_) (h:=?_);rotate_left;focus (intro W hS;(try dsimp only at hS);go_simp;(try with_reducible rfl))
      try simp only[Act.put,zsA,zsS,zsZ]
      refine zkH 13 (v:=?_) (h2:=?_) (h:=?_);rotate_left;focus (intro W hS;(try dsimp only at hS);go_simp;(try with_reducible rfl))
      try simp only[Act.put,zsA,zsS,zsZ]
      refine zkH 14 (v:=?_) (h2:=?_) (h:=?_);rotate_left;focus (intro W hS;(try dsimp only at hS);go_simp;(try with_reducible rfl))
      try simp only[Act.put,zsA,zsS,zsZ]
      refine zkH 15 (v:=?_) (h2:=?_) (h:=?_);rotate_left;focus (intro W hS;(try dsimp only at hS);go_simp;(try with_reducible rfl))
      try simp only[Act.put,zsA,zsS,zsZ]
      refine zkH 16 (v:=?_) (h2:=?_) (h:=?_);rotate_left;focus (intro W hS;(try dsimp only at hS);go_simp;(try with_reducible rfl))
      try simp only[Act.put,zsA,zsS,zsZ]
      refine wpAnyH_done (by kernel_rfl) ?_ _;go_wp2_with fail
      refine HPA.out.mono ?_;clear HPA;intro r w9 ht;cases hpa:parseOf zs with
      | none=>
       rw[hpa] at ht;obtain⟨rfl,hb9⟩:=ht;have HRX:=hid (HREC8.out.bad (Nat.not_le.2 hlt) (step1_bad HFO.out hpa));have HREC9:=hid ((HREC8.out.down hb9).down ((Below.refl _ _).alloc (Nat.le_refl _) (.cells #[.int .u64 0,.int .u64 0,.slice none 0 0] 55)));clear HREC8 hb9 h8 hpa;go_wp2_with fail
       generalize w9.alloc (.cells #[.int .u64 0,.int .u64 0,.slice none 0 0] 55)=wz at*;obtain⟨ea2,ec2,hec2,her2⟩:=HREC9.out.box.cell;obtain⟨ecs2,hebx2⟩:=HREC9.out.box.box;have hfz2:wz.frozen? ⟨w.heap.size,0,none⟩=false:=frozen_row hebx2;have HER2:=hid her2;clear her2 hebx2;go_region
       all_goals (go_wp2_with fail)
       all_goals (try rw[Exit.noGoto_ret])
       all_goals (go_wp2_with fail)
       refine bodyPost_ret (v:= .tuple #[.slice (some ⟨sg,0,none⟩) ns.length sc,.slice ea2 ents'.length ec2]) ?_ rfl ?_
       ·have hcx:((wz.setCell ⟨w.heap.size,0,none⟩ (.slice ea2 ents'.length ec2)).drew).cell? ⟨w.heap.size,0,none⟩=some (.slice ea2 ents'.length ec2):=box_end HREC9.out.box _
        generalize (wz.setCell ⟨w.heap.size,0,none⟩ (.slice ea2 ents'.length ec2)).drew=WE at*;simp [results,Tryz.results25,go_sem,hcx]
       ·have heq:=HAT.out.stops HKN.out (by rw[←HNU.out];exact HBS.out) HRX.out (.inl rfl)
        refine⟨ks,_,_,HKS.out,HKLN.out,rfl,?_⟩;rw[←HNS.out];exact told_end heq (by rw[raw_stops,←HNU.out];exact HREC9.out.segs) HREC9.out.box HER2.out HREC9.out.below
      | some e=>
       rw[hpa] at ht;obtain⟨hb9,a3,c3,rfl,hbody⟩:=ht;have HS1:=hid (step1_some HFO.out hpa);have hal:Below w9.heap.size w9 (w9.alloc (.cells #[.int .u64 (e.ix:Int),.int .u64 (e.term:Int),.slice a3 e.body.length c3] 55)):=(Below.refl _ _).alloc (Nat.le_refl _) _;have HREC9:=hid (HREC8.out.down hb9);have HREC10:=hid (HREC9.out.down hal);have HEB:=hid (show(w9.alloc (.cells #[.int .u64 (e.ix:Int),.int .u64 (e.term:Int),.slice a3 e.body.length c3] 55)).heap[w9.heap.size]?=some (.cells #[.int .u64 (e.ix:Int),.int .u64 (e.term:Int),.slice a3 e.body.length c3] 55 (0,0)) from heap_alloc_new _ _);have HFOL:=hid (follow_any w.heap.size w.heap.size ents' e a3 c3 _ HREC10.out.box ((hbody.below hal).less HREC8.out.below.size) HREC10.out.below.size (by
        have h1:=HREC10.out.many;have h2:=HAT.out.many;have h3:=HREC10.out.few;have h4:=HREC10.out.le;have h5:=HBSL.out.1;have h6:=HKB.out;have h7:=HKN.out;omega))
       clear HREC8 hb9 h8 hpa hbody hal HFO;go_wp2_with fail
       refine HFOL.out.mono ?_;intro r w11 h11;clear HFOL;cases hfl:Wl.follow ents' e with
       | none=>
        rw[hfl] at h11;simp only[Option.isSome_none,Option.getD_none] at h11;obtain⟨rfl,hbx,hT,_⟩:=h11;have HRX:=hid (HREC10.out.stop (Nat.not_le.2 hlt) HS1.out hfl);have HREC11:=hid (HREC10.out.turned hT hbx);clear HREC10 HREC9 HEB hfl hbx hT;go_wp2_with fail
        obtain⟨ea2,ec2,hec2,her2⟩:=HREC11.out.box.cell;obtain⟨ecs2,hebx2⟩:=HREC11.out.box.box;have hfz2:w11.frozen? ⟨w.heap.size,0,none⟩=false:=frozen_row hebx2;have HER2:=hid her2;clear her2 hebx2;go_region
        all_goals (go_wp2_with fail)
        all_goals (try rw[Exit.noGoto_ret])
        all_goals (go_wp2_with fail)
        refine bodyPost_ret (v:= .tuple #[.slice (some ⟨sg,0,none⟩) ns.length sc,.slice ea2 ents'.length ec2]) ?_ rfl ?_
        ·have hcx:((w11.setCell ⟨w.heap.size,0,none⟩ (.slice ea2 ents'.length ec2)).drew).cell? ⟨w.heap.size,0,none⟩=some (.slice ea2 ents'.length ec2):=box_end HREC11.out.box _
         generalize (w11.setCell ⟨w.heap.size,0,none⟩ (.slice ea2 ents'.length ec2)).drew=WE at*;simp [results,Tryz.results25,go_sem,hcx]
        ·have heq:=HAT.out.stops HKN.out (by rw[←HNU.out];exact HBS.out) HRX.out (.inl rfl)
         refine⟨ks,_,_,HKS.out,HKLN.out,rfl,?_⟩;rw[←HNS.out];exact told_end heq (by rw[raw_stops,←HNU.out];exact HREC11.out.segs) HREC11.out.box HER2.out HREC11.out.below
       | some E=>
        rw[hfl] at h11;simp only[Option.isSome_some,Option.getD_some] at h11;obtain⟨rfl,hbx,hT,hap⟩:=h11;obtain⟨f',m1,m2,m3,m4,m5⟩:=AtRec.more HREC10.out.same HREC10.out.fuel HBSL.out.2 (Nat.not_le.2 hlt) HS1.out hfl;obtain⟨cs1,hblk⟩:=HREC10.out.segs.block;obtain⟨ecs3,hbox3⟩:=HREC10.out.box.box;have hne3:sg≠w.heap.size:=fun e0=>by
         rw[e0,hbox3] at hblk;injection hblk with h1
         injection h1 with _ h2
         exact absurd h2 (by decide)
        have hsame:=hT.typed hblk (by decide) hne3;have hblk11:=hsame.trans hblk;have hll:(done.map Sg.raw++(⟨num,bs,good,recs.length,top recs⟩:Sx)::(ns.drop (k+1)).map Sx.mk0).length=ns.length:=by have:=HKN.out;simp [HAT.out.len];omega
        obtain⟨sg',cap',ra',rc',hsv,_,hsgs,s0,s1,s2,s3,s4,hrowb,_,_⟩:=HREC10.out.segs.at_ (i:=k) (by rw[hll];exact HKN.out);rw[get_mid HAT.out.len] at s2 s3 s4;simp only[Value.slice.injEq,Option.some.injEq,Addr.mk.injEq,and_true] at hsv;obtain⟨rfl,hl9,rfl⟩:=hsv;have t2:w11.cell? ⟨sg,k*5+2,none⟩=some (.int .i64 (good:Int)):=(World.cell?_of_block hsame).trans s2;have t3:w11.cell? ⟨sg,k*5+3,none⟩=some (.int .i64 (recs.length:Int)):=(World.cell?_of_block hsame).trans s3;have t4:w11.cell? ⟨sg,k*5+4,none⟩=some (.int .u64 (top recs:Int)):=(World.cell?_of_block hsame).trans s4;obtain⟨ea9,ec9,hec9,her9⟩:=HREC9.out.box.cell;have hlt9:w.heap.size<w9.heap.size:=lt_of_cell hec9;have hoff9:(Value.slice ea9 ents'.length ec9).ownBlock≠some w9.heap.size:=fun e0=>by
         obtain⟨vs9,_,h9,_⟩:=her9.row;exact absurd (World.ownsRow.lt h9 _ e0).2 (Nat.lt_irrefl _)
        have hec10:=(((Below.refl w9.heap.size w9).alloc (Nat.le_refl _) (.cells #[.int .u64 (e.ix:Int),.int .u64 (e.term:Int),.slice a3 e.body.length c3] 55)).cell (p:=⟨w.heap.size,0,none⟩) hlt9).trans hec9;have heb11:=(hap _ _ hec10 w9.heap.size (by simp) (Nat.ne_of_gt hlt9) hoff9).trans HEB.out;have t0:w11.cell? ⟨w9.heap.size,0,none⟩=some (.int .u64 (e.ix:Int)):=by rw[cell_of_row _ _ 0 _ _ _ heb11];rfl
        have z2:w11.frozen? ⟨sg,k*5+2,none⟩=false:=frozen_row hblk11;have z3:w11.frozen? ⟨sg,k*5+3,none⟩=false:=frozen_row hblk11;have z4:w11.frozen? ⟨sg,k*5+4,none⟩=false:=frozen_row hblk11;have hne4:sg≠w9.heap.size:=fun e0=>by
         rw[e0,heb11] at hblk11;injection hblk11 with h1
         injection h1 with _ h2
         exact absurd h2 (by decide)
        have hfew:=HREC10.out.few;have hgl:good+m≤1048576:=Nat.le_trans m3 HBSL.out.1;have hrl:recs.length≤1048576:=by omega
        have HTOOK:=hid (HREC10.out.took HAT.out.len HKN.out hT hbx hfl m1 m2 m3 m4 m5);have HM5:=hid m5;have HNE4:=hid hne4;clear hl9 s0 s1 s2 s3 s4 hrowb hll hblk hbox3 hne3 hsame hblk11 hec9 her9 hoff9 hec10 heb11 hap hbx hT hfl m1 m2 m3 m4 m5 HREC10 HREC9 HEB hfew hsgs;go_wp2_with fail
        obtain⟨w12,hw12⟩: ∃w12,w12=(w11.setCell ⟨sg,k*5+2,none⟩ (.int .i64 ((good:Int)+(m:Int)))).setCell ⟨sg,k*5+3,none⟩ (.int .i64 ((recs.length:Int)+1)):=⟨_,rfl⟩;have y4:w12.cell? ⟨sg,k*5+4,none⟩=some (.int .u64 (top recs:Int)):=by rw[hw12];go_simp
        have y0:w12.cell? ⟨w9.heap.size,0,none⟩=some (.int .u64 (e.ix:Int)):=by
         rw[hw12,World.cell?_of_block (w:=w11) (a:=⟨w9.heap.size,0,none⟩) ((Below.heap_setCell _ _ _ _ (fun e0=>HNE4.out e0.symm)).trans (Below.heap_setCell _ _ _ _ (fun e0=>HNE4.out e0.symm)))];exact t0
        have f4:w12.frozen? ⟨sg,k*5+4,none⟩=false:=by rw[hw12];go_simp
        rw[←hw12];have HW12:=hid hw12;clear hw12 t0 t2 t3 t4 z2 z3 z4;go_region
        have hwe:w12.setCell ⟨sg,k*5+4,none⟩ (.int .u64 (max (top recs:Int) (e.ix:Int)))=((w11.setCell ⟨sg,k*5+2,none⟩ (.int .i64 ((good+m:Nat):Int))).setCell ⟨sg,k*5+3,none⟩ (.int .i64 ((recs.length+1:Nat):Int))).setCell ⟨sg,k*5+4,none⟩ (.int .u64 ((max (top recs) e.ix:Nat):Int)):=by
         rw[HW12.out,show((good+m:Nat):Int)=(good:Int)+(m:Int) by omega,show((recs.length+1:Nat):Int)=(recs.length:Int)+1 by omega,show((max (top recs) e.ix:Nat):Int)=max (top recs:Int) (e.ix:Int) by omega]
        have HT2:=hid (HTOOK.out.down (Below.refl _ _).drew);rw[←hwe] at HT2;clear hwe HTOOK HW12 y4 y0 f4;go_wp2_with fail
        go_roundg (bs.length - (good+m))
        case rel=>exact⟨f',good+m,recs++ [e],E,rfl,HT2.out⟩
        case measure=>have:=HM5.out;rw[HGK.out];omega
    ·have hd:decide ((good:Int)<(bs.length:Int))=false:=by simp;omega
     have HRX:=hid (HREC.out.over (Nat.not_lt.1 hlt));obtain⟨rl,hrl⟩: ∃rl:Int,rl=(recs.length:Int):=⟨_,rfl⟩;rw[←hrl] at s3;by_cases hre:recs= []
     ·have hr0:(rl == 0)=true:=by rw[hrl,hre];rfl
      have HRE:=hid hre;clear hre hrl s0 s4 HROWB;go_wp2_with fail
      go_quiet (fail)
      have HREC7:=hid (HREC.out.down (many_drew wr nq));clear HREC;go_wp2_with fail
      generalize wr.drewN nq=w7 at*;clear s1 s2 s3;obtain⟨ea2,ec2,hec2,her2⟩:=HREC7.out.box.cell;obtain⟨ecs2,hebx2⟩:=HREC7.out.box.box;have hfz2:w7.frozen? ⟨w.heap.size,0,none⟩=false:=frozen_row hebx2;have HER2:=hid her2;clear her2 hebx2;go_region
      all_goals (go_wp2_with fail)
      all_goals (try rw[Exit.noGoto_ret])
      all_goals (go_wp2_with fail)
      refine bodyPost_ret (v:= .tuple #[.slice (some ⟨sg,0,none⟩) ns.length sc,.slice ea2 ents'.length ec2]) ?_ rfl ?_
      ·have hcx:((w7.setCell ⟨w.heap.size,0,none⟩ (.slice ea2 ents'.length ec2)).drew).cell? ⟨w.heap.size,0,none⟩=some (.slice ea2 ents'.length ec2):=box_end HREC7.out.box _
       generalize (w7.setCell ⟨w.heap.size,0,none⟩ (.slice ea2 ents'.length ec2)).drew=WE at*;simp [results,Tryz.results25,go_sem,hcx]
      ·have heq:=HAT.out.stops HKN.out (by rw[←HNU.out];exact HBS.out) HRX.out (.inr HRE.out)
       refine⟨ks,_,_,HKS.out,HKLN.out,rfl,?_⟩;rw[←HNS.out];exact told_end heq (by rw[raw_stops,←HNU.out];exact HREC7.out.segs) HREC7.out.box HER2.out HREC7.out.below
     ·have hr0:(rl == 0)=false:=by
       rw[beq_eq_false_iff_ne,hrl];intro h0;exact hre (List.eq_nil_of_length_eq_zero (by omega))
      have HRE:=hid hre;clear hre hrl s0 s4 HROWB;go_wp2_with fail
      go_quiet (fail)
      have HREC7:=hid (HREC.out.down (many_drew wr nq));have HNX:=hid (HAT.out.next HKN.out (by rw[←HNU.out];exact HBS.out) HRX.out HRE.out HBSL.out.1 (by rw[←HNU.out];exact HREC7.out));clear HREC HREC7;have hk5:k<5000:=by
       have h1:=HKN.out;have h2:=HKB.out;omega
      go_wp2_with fail
      go_roundw
      case rel=>exact⟨k+1,_,_,HKN.out,by go_num,HNX.out⟩
      case measure=>have:=HKN.out;simp [intOf];omega
  ·obtain rfl:k=ns.length:=by omega
   have hfz:wr.frozen? ⟨w.heap.size,0,none⟩=false:=frozen_row hebx;have HAT:=hid hat;have HER:=hid her;have HEBX:=hid hebx;clear hat her hebx;go_wp2_with fail
   go_region
   all_goals (go_wp2_with fail)
   all_goals (try rw[Exit.noGoto_ret])
   all_goals (go_wp2_with fail)
   refine bodyPost_ret (v:= .tuple #[.slice sa ns.length sc,.slice ea ents.length ec]) ?_ rfl ?_
   ·have hcx:((wr.setCell ⟨w.heap.size,0,none⟩ (.slice ea ents.length ec)).drew).cell? ⟨w.heap.size,0,none⟩=some (.slice ea ents.length ec):=box_end HAT.out.box _
    generalize (wr.setCell ⟨w.heap.size,0,none⟩ (.slice ea ents.length ec)).drew=WE at*;simp [results,Tryz.results25,go_sem,hcx]
   ·have heq:=HAT.out.same
    rw[List.drop_length] at heq;have hsegs:=HAT.out.segs;rw[List.drop_length,List.map_nil,List.append_nil] at hsegs;refine⟨ks,_,_,HKS.out,HKLN.out,rfl,?_⟩;rw[←HNS.out];exact told_end (segs:=done) (by rw[heq];simp [segsOf,readGo]) hsegs HAT.out.box HER.out HAT.out.below
end Go.Proofs.YtalfbcbnljhldaaGreatDoor
