/-  -/
import Derived.Test.YtalfbcbnljhldaaGreatDoorMbf
import Derived.Test.YtalfbcbnljhldaaGreatDoorProg
import Derived.RangeFuncNested
import Derived.RangeFuncBound
import Derived.RangeFuncCalls
import Derived.RangeFuncLeaves
import Derived.RangeFuncBox
import Derived.Test.YtalfbcbnljhldaaGreatDoorMas
import Derived.Lib.SliceRun
import Derived.Shelf.Abstract
import Derived.Shelf.RegionOpen
import Derived.OwnWalkIn
import Derived.TacticsInMore
import Derived.LoopNIn
import Derived.LoopIn
import Derived.Maps.AppendAt
import Derived.Test.YtalfbcbnljhldaaGreatDoorMbd
namespace Go.Proofs.YtalfbcbnljhldaaGreatDoor
open Go.RowKit Go.Maps Go.Sort Dsk Rd Wl
namespace Rl
theorem inv_cutSeg {M:Files} (hi:Wl.Inv M) {s:Sg} (hs:Pz.SgOk s) (hbs:s.recs≠ []→s.bs=(M.at (nameOf s.num)).now.bs∧(M.at (nameOf s.num)).now.there=true):Wl.Inv (cutSeg M s):=by
 unfold cutSeg;split
 ·exact hi.upd (fun f hf=>by cases hf) fun h=>by cases h
 ·rename_i hg
  split
  ·have hn:s.recs≠ []:=fun e=>hg (by rw[hs.good,e];rfl)
   obtain⟨h1,h2⟩:=hbs hn;refine hi.upd (fun f hf=>?_) fun _=> .inl h2;cases hf;have hsz:=(hi.at_size (nameOf s.num)).1;have hok:=(Fil.now_ok (hi.at_ok (nameOf s.num))).2.2;rw[←h1] at hsz hok;have hle:(s.bs.take s.good).length≤20000:=by rw[List.length_take];omega
   exact⟨⟨⟨Nat.le_refl _,by dsimp only;omega,fun x hx=>hok x (List.mem_of_mem_take hx)⟩,fun v hv=>by cases hv⟩,rfl,by simp,hle,(fun v hv=>by cases hv),by rw[name_len];decide⟩
  ·exact hi
structure GoAt (M:Files) (ks:List Name) (j:Nat) (done:List Sg) (cut:Bool) (E:List Ent):Prop where
 nums:done.map Sg.num=numsOf (ks.take j)
 inv:Wl.Inv (cutAll M done)
 rest:(readGo (segsOf M (numsOf ks)) []).1=done++(if cut=true then(numsOf (ks.drop j)).map (fun k=>(⟨k,[],0,[]⟩:Sg)) else(readGo (segsOf M (numsOf (ks.drop j))) E).1)
 ch:chain [] ((Pz.logL done).map Prod.snd).flatten=some E
section
variable {M:Files} {ks:List Name} {j k:Nat} {done:List Sg} {cut:Bool} {E E' recs:List Ent} {b:Bool}
theorem GoAt.start (hi:Wl.Inv M):GoAt M ks 0 [] false []:=⟨by simp [numsOf],hi,by simp,rfl⟩
theorem take_one (hj:j<ks.length):numsOf (ks.take (j+1))=numsOf (ks.take j)++(numOf ks[j]).toList:=by
 rw[List.take_succ_eq_append_getElem hj,nums_snoc]
theorem drop_none (hj:j<ks.length) (h:numOf ks[j]=none):numsOf (ks.drop j)=numsOf (ks.drop (j+1)):=by
 rw[List.drop_eq_getElem_cons hj];unfold numsOf;rw[List.filterMap_cons_none h]
theorem drop_some (hj:j<ks.length) (h:numOf ks[j]=some k):numsOf (ks.drop j)=k::numsOf (ks.drop (j+1)):=by
 rw[List.drop_eq_getElem_cons hj];unfold numsOf;rw[List.filterMap_cons_some h]
theorem cutAll_snoc (M:Files) (l:List Sg) (s:Sg):cutAll M (l++ [s])=cutSeg (cutAll M l) s:=by
 unfold cutAll;rw[List.foldl_append];rfl
theorem GoAt.skip (h:GoAt M ks j done cut E) (hj:j<ks.length) (hk:numOf ks[j]=none):GoAt M ks (j+1) done cut E:=
 ⟨by rw[take_one hj,hk,h.nums];simp,h.inv,by rw[←drop_none hj hk];exact h.rest,h.ch⟩
theorem GoAt.fresh (h:GoAt M ks j done cut E) (hks:Here1 M ks) (hj:j<ks.length) (hk:numOf ks[j]=some k):(cutAll M done) (nameOf k)=M (nameOf k):=by
 refine cutAll_other done fun s hs e=>?_;have h1:s.num∈numsOf (ks.take j):=by rw[←h.nums];exact List.mem_map.2 ⟨s,hs,rfl⟩
 have h2:=(nums_mem.1 h1).1;have h3:=(name_num hk).1;rw[←e,←h3] at h2;obtain⟨i,hi,he⟩:=List.getElem_of_mem h2;rw[List.length_take] at hi;rw[List.getElem_take] at he;have h4:=List.pairwise_iff_getElem.1 hks.1 i j (by omega) hj (by omega);rw[he] at h4;exact List.lt_irrefl _ h4
theorem GoAt.fresh_at (h:GoAt M ks j done cut E) (hks:Here1 M ks) (hj:j<ks.length) (hk:numOf ks[j]=some k):(cutAll M done).at (nameOf k)=M.at (nameOf k):=by
 unfold Files.at;rw[h.fresh hks hj hk]
theorem GoAt.there (h:GoAt M ks j done cut E) (hks:Here1 M ks) (hj:j<ks.length) (hk:numOf ks[j]=some k):((cutAll M done).at (nameOf k)).now.there=true:=by
 rw[h.fresh_at hks hj hk,←(name_num hk).1];exact(names_iff hks _).1 (List.getElem_mem hj)
theorem GoAt.gone (h:GoAt M ks j done true E) (hj:j<ks.length) (hk:numOf ks[j]=some k):GoAt M ks (j+1) (done++ [⟨k,[],0,[]⟩]) true E∧cutAll M (done++ [⟨k,[],0,[]⟩])=upd (cutAll M done) (nameOf k) none:=by
 have hc:cutSeg (cutAll M done) ⟨k,[],0,[]⟩=upd (cutAll M done) (nameOf k) none:=if_pos rfl;refine⟨⟨by rw[take_one hj,hk,List.map_append,h.nums];rfl,?_,?_,?_⟩,by rw[cutAll_snoc,hc]⟩
 ·rw[cutAll_snoc,hc]
  exact h.inv.upd (fun f hf=>by cases hf) fun e=>by cases e
 ·have hr:=h.rest
  rw[if_pos rfl,drop_some hj hk] at hr;rw[if_pos rfl,List.append_assoc];exact hr
 ·rw[Pz.logL_append,List.map_append,List.flatten_append]
  have:Pz.logL [⟨k,[],0,[]⟩]= []:=rfl;rw[this];simpa using h.ch
theorem GoAt.read (h:GoAt M ks j done false E) (hks:Here1 M ks) (hi:Wl.Inv M) (hj:j<ks.length) (hk:numOf ks[j]=some k)
  (hw:walk ((M.at (nameOf k)).now.bs.length+1) (M.at (nameOf k)).now.bs 0 [] E=((flatE recs).length,recs,E',b)):
  GoAt M ks (j+1) (done++ [⟨k,(M.at (nameOf k)).now.bs,(flatE recs).length,recs⟩]) (!(b&&decide (recs≠ []))) E'∧Pz.SgOk ⟨k,(M.at (nameOf k)).now.bs,(flatE recs).length,recs⟩:=by
 have hr:=h.rest;have hd:=drop_some hj hk;have hrng:=(Fil.now_ok (hi.at_ok (nameOf k))).2.2;obtain⟨l',a1,a2,a3,a4,a5,a6⟩:=(walked ((M.at (nameOf k)).now.bs.length+1) (bs:=(M.at (nameOf k)).now.bs) 0 [] E hrng).more;rw[hw] at a1 a3 a5;dsimp only at a1 a3 a5;rw[List.nil_append] at a1;subst a1;rw[List.drop_zero] at a4;have hsg:Pz.SgOk ⟨k,(M.at (nameOf k)).now.bs,(flatE recs).length,recs⟩:=⟨a2,rfl,a4,by dsimp only;omega⟩;have hfa:=h.fresh_at hks hj hk;have hth:=h.there hks hj hk;refine⟨⟨by rw[take_one hj,hk,List.map_append,h.nums];rfl,?_,?_,?_⟩,hsg⟩
 ·rw[cutAll_snoc]
  refine inv_cutSeg h.inv hsg fun _=>⟨?_,hth⟩;rw[hfa]
 ·rw[if_neg (by decide),hd] at hr
  have hs:segsOf M (k::numsOf (ks.drop (j+1)))=(k,(M.at (nameOf k)).now.bs)::segsOf M (numsOf (ks.drop (j+1))):=rfl;rw[hs] at hr;by_cases hb:b=true∧recs≠ []
  ·obtain⟨rfl,hn⟩:=hb
   rw[readGo_more (x:=(k,(M.at (nameOf k)).now.bs)) _ hw hn] at hr;rw[hr];simp [hn]
  ·rw[readGo_stop (x:=(k,(M.at (nameOf k)).now.bs)) _ hw (by
    by_cases h1:b=true
    ·exact .inr (Classical.byContradiction fun e=>hb ⟨h1,e⟩)
    ·exact .inl (by simpa using h1))] at hr
   have hc:(!(b&&decide (recs≠ [])))=true:=by
    cases hb0:b with
    | false=>rfl
    | true=>
     have: ¬recs≠ []:=fun e=>hb ⟨hb0,e⟩;simp [this]
   rw[hr,hc,if_pos rfl];simp [segsOf]
 ·rw[Pz.logL_append,List.map_append,List.flatten_append,chain_append _ _ _ h.ch]
  by_cases hn:recs= []
  ·subst hn
   cases a3;rfl
  ·have:Pz.logL [⟨k,(M.at (nameOf k)).now.bs,(flatE recs).length,recs⟩]= [(k,recs)]:=by simp [Pz.logL,hn]
   rw[this];simpa using a3
theorem GoAt.fin (h:GoAt M ks ks.length done cut E):(readGo (segsOf M (numsOf ks)) []).1=done:=by
 have hr:=h.rest;rw[List.drop_length] at hr;have:numsOf ([]:List Name)= []:=rfl;rw[this] at hr;cases cut with
 | true=>simpa using hr
 | false=>simpa [segsOf,readGo] using hr
theorem GoAt.small (h:GoAt M ks j done cut E) (hi:Wl.Inv M) (hkl:ks.length≤64) {Lx:List SV} (hl:logOf Lx=Pz.logL done):Lx.length≤64∧(recsOf Lx).length≤142208:=by
 have hr:=Pz.segs_range hi (ks:=ks);have h1:done.length≤64:=by
  have e:=congrArg List.length h.nums;rw[List.length_map] at e;have h2:(numsOf (ks.take j)).length≤(ks.take j).length:=List.length_filterMap_le _ _;rw[List.length_take] at h2;omega
 have h2:Lx.length≤64:=by
  have e:=congrArg List.length hl;rw[logOf_len] at e;unfold Pz.logL at e;rw[List.length_map] at e;have:=List.length_filter_le (fun s:Sg=>decide (s.recs≠ [])) done;omega
 refine⟨h2,?_⟩;have h3: ∀s∈Lx,s.l.length≤2222:=fun s hs=>by
  have hm:(s.n,s.l.map Prod.fst)∈Pz.logL done:=by rw[←hl];exact List.mem_map.2 ⟨s,hs,rfl⟩
  obtain⟨t,ht,hn,he⟩:=Pz.logL_mem.1 hm;have htr:t∈(readGo (segsOf M (numsOf ks)) []).1:=by rw[h.rest];simp [ht]
  have k1:=(Pz.readGo_ok _ [] hr).1 t htr;have k2:=Pz.readGo_bs _ [] hr t htr hn;unfold segsOf at k2;obtain⟨k,_,k3⟩:=List.mem_map.1 k2;have hsz:=(hi.at_size (nameOf k)).1;have k4:t.bs=(M.at (nameOf k)).now.bs:=(congrArg Prod.snd k3).symm;rw[←k4] at hsz;have k5:=k1.le;rw[k1.good] at k5;have k6:=(flatE_len k1.ok).1;have k7:s.l.length=t.recs.length:=by
   have:=congrArg (fun x:Nat×List Ent=>x.2.length) he;simpa using this
  omega
 have:=recs_small h3;have:=Nat.mul_le_mul_right 2222 h2;omega
end
end Rl
end Go.Proofs.YtalfbcbnljhldaaGreatDoor

namespace Go.Proofs.YtalfbcbnljhldaaGreatDoor
open Go.RowKit
variable {n:Nat} {P:Program}
end Go.Proofs.YtalfbcbnljhldaaGreatDoor

namespace Go.Proofs.YtalfbcbnljhldaaGreatDoor
open Go.RowKit Go.Shelf
attribute [local go_sem] Oper.semAt_some
end Go.Proofs.YtalfbcbnljhldaaGreatDoor

namespace Go.Proofs.YtalfbcbnljhldaaGreatDoor
open Go.RowKit Go.Shelf
attribute [local go_sem] Oper.semAt_some
structure Rec where
 at_:Nat
 g:Nat
 c:Nat
 zs:List Int
def Rec.val (x:Rec):Value:= .slice (some ⟨x.g,0,none⟩) x.zs.length x.c
inductive Goes (bs:List Int):List Rec→Nat→Prop
 | start:Goes bs [] 0
 | next {pre x m k} :Goes bs pre k→Frame.firstOf (bs.drop k)=some (x.zs,m)→x.at_=k→Goes bs (pre++ [x]) (k+m)
theorem Goes.le {bs:List Int} {pre:List Rec} {k:Nat} (hr: ∀x∈bs,0≤x∧x≤255) (h:Goes bs pre k):k≤bs.length∧6*pre.length≤k:=by
 induction h with
 | start=>simp
 | @next pre x m k h0 h1 h2 ih=>
  obtain⟨_,h3,_,h4⟩:=Frame.first_is (fun y hy=>hr y (List.mem_of_mem_drop hy)) h1;rw[Frame.frame_len] at h3;have:=Num.put_len x.zs.length;rw[List.length_drop] at h4;rw[List.length_append,List.length_singleton];omega
theorem Goes.scans {bs:List Int} {pre:List Rec} {k:Nat} (h:Goes bs pre k): ∀ {l:List (List Int)} {g:Nat},Frame.Scans (bs.drop k) l g→Frame.Scans bs (pre.map Rec.zs++l) (k+g):=by
 induction h with
 | start=>intro l g hs;simpa using hs
 | @next pre x m k h0 h1 h2 ih=>
  intro l g hs;have h3:=ih (.more h1 (by rw[List.drop_drop];exact hs));rw[List.map_append,List.append_assoc,Nat.add_assoc];exact h3
end Go.Proofs.YtalfbcbnljhldaaGreatDoor

namespace Go.Proofs.YtalfbcbnljhldaaGreatDoor
open Go.RowKit Go.Shelf
attribute [local go_sem] Oper.semAt_some
theorem infoSl:(Tryz.prog.info? 39).map (fun i=>(i.zero,i.size,i.bytes))=some (some (.slice none 0 0),1,24):=by kernel_rfl
theorem own_same {w w':World} {B:Nat} {e:TypeId} {size:Nat} {v:Value} {n:Nat} {xs:List Value} (h:w.ownsRow B e size v n xs) (hs: ∀g cs fr,B≤g→w.heap[g]?=some (.cells cs e fr)→w'.heap[g]?=w.heap[g]?):w'.ownsRow B e size v n xs:=by
 refine⟨h.1,?_⟩;rcases h.2 with hn | ⟨g,cap,cur,rfl,hb,hg,rest⟩
 ·exact .inl hn
 ·exact .inr ⟨g,cap,cur,rfl,hb,(hs g _ _ hb hg).trans hg,rest⟩
structure Scanned (bs:List Int) (w w':World) (xs:List Rec) (v:Value) (good:Nat):Prop where
 row:w'.ownsRow w.heap.size 39 1 v xs.length (xs.map Rec.val)
 here: ∀x∈xs,Here w' x.g x.zs∧w.heap.size≤x.g∧x.zs.length≤x.c
 scans:Frame.Scans bs (xs.map Rec.zs) good
 below:Below w.heap.size w w'
end Go.Proofs.YtalfbcbnljhldaaGreatDoor

namespace Go.Proofs.YtalfbcbnljhldaaGreatDoor
open Go.Lib (hid)
open Go.RowKit
theorem here_alloc {w:World} {g:Nat} {zs:List Int} (h:Here w g zs) (o:Obj):Here (w.alloc o) g zs:=h.other (Below.heap_alloc _ _ _ h.lt)
theorem here_grown {w w':World} {B:Nat} {g:Nat} {zs:List Int} {v:Value} {n:Nat} {xs:List Value} (h:Here w g zs) (hr:w.ownsRow B 39 1 v n xs) (hg:w.grownBy w' v.ownBlock):Here w' g zs:=by
 refine h.other (hg.block g h.lt fun e=>?_);obtain⟨cs,fr,hb,_⟩:=h.blk;rcases hr.2 with⟨rfl,_⟩ | ⟨g',cap,cur,rfl,_,hgb,_⟩
 ·simp [Value.ownBlock] at e
 ·obtain rfl:g=g':=by simpa [Value.ownBlock] using e
  rw[hb] at hgb;simp at hgb
set_option maxRecDepth 100000 in
set_option maxHeartbeats 2000000 in
theorem refScan_any (a:Option Addr) (len cap:Nat) (bs:List Int) (w:World) (hz:len=bs.length) (hp:Reads w a bs) (hl:bs.length≤1000000) (hcap:len≤cap) (hcm:cap≤9223372036854775807):
  Calls Tryz.prog 31 #[.slice a len cap] w fun e w'=> ∃xs v good,e= .returned (.tuple #[v,.int .i64 ((good:Nat):Int)])∧Scanned bs w w' xs v good:=by
 obtain⟨i0,hi,hz0,hz1,hz2⟩:=info_parts infoSl;have hR:=hid hp.hr;have HP:=hid hp;have HZ:=hid hz;clear hp hz;have hll:len≤1000000:=by have:=HZ.out;omega
 go_enter Tryz.func31,Tryz.ntmps31
 go_wp2
 go_loopw [4,5] (fun v p wr=> ∃(xs:List Rec) (k:Nat),p= .int .i64 (k:Int)∧wr.ownsRow w.heap.size 39 1 v xs.length (xs.map Rec.val)∧Goes bs xs k∧(∀x∈xs,Here wr x.g x.zs∧w.heap.size≤x.g∧x.zs.length≤x.c)∧Below w.heap.size w wr)
  (fun _ p _=>bs.length - (intOf p).toNat)
 case atStart=>exact⟨[],0,rfl,World.ownsRow_nil _ _ _ _,.start,fun x hx=>(by cases hx),Below.refl _ _⟩
 case round=>
  obtain⟨xs,k,rfl,hrow,hg,hhere,hb⟩:=hrel;have hk:=hg.le hR.out;have hd:=HP.out.below hb;have hkll:k≤len:=by have:=HZ.out;omega
  by_cases hc:cap=k
  ·have hlk:len=k:=by omega
   have hF:=hid (refFirst_any a 0 0 (bs.drop k) wr (by rw[List.length_drop];have:=HZ.out;omega) (hd.dropAll (by have:=HZ.out;omega)) (by omega) (by omega) (by omega));subst hc;subst hlk;have HG:=hid hg;have HHERE:=hid hhere;have HROW:=hid hrow;have HB:=hid hb;have hkl:=hk.1;have hbs:=hb.size;obtain⟨D,hD⟩: ∃D,D=Frame.firstOf (bs.drop len):=⟨_,rfl⟩;have HD:=hid hD;clear hg hhere hrow hb hd hk hD;go_wp2_with fail
   with_reducible refine hF.out.mono ?_
   intro e W1 hfirst;rw[←HD.out] at hfirst;clear hF;cases D with
   | none=>
    obtain⟨rfl,hb1⟩:=hfirst;go_wp2
    go_ret2
    refine⟨xs,_,len,rfl,?_⟩;have hs:=HG.out.scans (.stop HD.out.symm);rw[List.append_nil,Nat.add_zero] at hs;exact⟨own_same HROW.out fun g cs fr _ hgc=>hb1.block g (lt_of_block hgc),fun x hx=>⟨((HHERE.out x hx).1.below hb1),(HHERE.out x hx).2⟩,hs,HB.out.trans (hb1.mono hbs)⟩
   | some zm=>
    obtain⟨zs,m⟩:=zm;obtain⟨g,cg,rfl,hg0,hh1,hcg,hb1⟩:=hfirst;have hgo:Goes bs (xs++ [⟨len,g,cg,zs⟩]) (len+m):= .next (x:=⟨len,g,cg,zs⟩) HG.out HD.out.symm rfl;have hgl:=hgo.le hR.out;have hgl0:=HG.out.le hR.out;rw[List.length_append,List.length_singleton] at hgl;have hm0:6≤m:=by
     obtain⟨_,h3,_,_⟩:=Frame.first_is (fun y hy=>hR.out y (List.mem_of_mem_drop hy)) HD.out.symm;rw[Frame.frame_len] at h3;have:=Num.put_len zs.length;omega
    have hrow1:=own_same (w':=W1) HROW.out fun g cs fr _ hgc=>hb1.block g (lt_of_block hgc);have hB1:=HB.out.trans (hb1.mono hbs);have hw1:=hB1.size;have HGO:=hid hgo;have hkm:len+m≤bs.length∧6*xs.length+6≤len+m:=by omega
    have hxl:xs.length≤1000000:=by omega
    have HH1:=hid (fun x hx=>(⟨(HHERE.out x hx).1.below hb1,(HHERE.out x hx).2⟩:Here W1 x.g x.zs∧w.heap.size≤x.g∧x.zs.length≤x.c));clear hgo hgl hgl0 hb1;go_wp2_with (at_builtin;refine wpList_append_own _ rfl _ _ 75 rfl w.heap.size 39 i0 (.slice none 0 0) 1 24 Tryz.underlying75 hi hz0 hz1 hz2 rfl (by decide) _ _ _ rfl (hrow1.alloc _) ⟨W1.heap.size,0,none⟩ 1 1 [.slice (some ⟨g,0,none⟩) zs.length cg] rfl rfl (cell_one_new _ _ _) (by simp [Value.oneCell']) (by unfold maxLen;omega) (by omega) (by simp;omega) ?_)
    intro v' w2 hown' hgrow _;have hkeep: ∀y zz,Here W1 y zz→Here w2 y zz:=fun y zz hy=>here_grown (here_alloc hy _) (hrow1.alloc _) hgrow;have hB2:=(hB1.alloc hw1 (.cells #[.slice (some ⟨g,0,none⟩) zs.length cg] 39)).grown hgrow (by simp;omega) (fun j e=>(hrow1.lt j e).1);have HO:=hid hown';have HB2:=hid hB2;have HK:=hid hkeep;clear hown' hgrow hrow1 hB1 hB2 hkeep HROW HB;go_wp2
    go_roundw
    case rel=>
     have hh2: ∀x∈xs++ [(⟨len,g,cg,zs⟩:Rec)],Here w2 x.g x.zs∧w.heap.size≤x.g∧x.zs.length≤x.c:=fun x hx=>by
      rcases List.mem_append.1 hx with hx | hx
      ·exact⟨HK.out _ _ (HH1.out x hx).1,(HH1.out x hx).2⟩
      ·simp only[List.mem_singleton] at hx
       subst hx;exact⟨HK.out _ _ hh1,by show w.heap.size≤g;omega,hcg⟩
     have hrow2:w2.ownsRow w.heap.size 39 1 v' (xs++ [(⟨len,g,cg,zs⟩:Rec)]).length ((xs++ [(⟨len,g,cg,zs⟩:Rec)]).map Rec.val):=by
      rw[List.length_append,List.map_append];exact HO.out
     exact⟨xs++ [⟨len,g,cg,zs⟩],len+m,by go_num,hrow2,HGO.out,hh2,HB2.out⟩
    case measure=>simp [intOf];omega
  ·have hF:=hid (refFirst_any (Option.map (fun x=>x.add k) a) (len - k) (cap - k) (bs.drop k) wr (by rw[List.length_drop,HZ.out]) (hd.drop k) (by omega) (by omega) (by omega))
   have HG:=hid hg;have HHERE:=hid hhere;have HROW:=hid hrow;have HB:=hid hb;have hkl:=hk.1;have hbs:=hb.size;obtain⟨D,hD⟩: ∃D,D=Frame.firstOf (bs.drop k):=⟨_,rfl⟩;have HD:=hid hD;clear hg hhere hrow hb hd hk hD;go_wp2_with fail
   with_reducible refine hF.out.mono ?_
   intro e W1 hfirst;rw[←HD.out] at hfirst;clear hF;cases D with
   | none=>
    obtain⟨rfl,hb1⟩:=hfirst;go_wp2
    go_ret2
    refine⟨xs,_,k,rfl,?_⟩;have hs:=HG.out.scans (.stop HD.out.symm);rw[List.append_nil,Nat.add_zero] at hs;exact⟨own_same HROW.out fun g cs fr _ hgc=>hb1.block g (lt_of_block hgc),fun x hx=>⟨((HHERE.out x hx).1.below hb1),(HHERE.out x hx).2⟩,hs,HB.out.trans (hb1.mono hbs)⟩
   | some zm=>
    obtain⟨zs,m⟩:=zm;obtain⟨g,cg,rfl,hg0,hh1,hcg,hb1⟩:=hfirst;have hgo:Goes bs (xs++ [⟨k,g,cg,zs⟩]) (k+m):= .next (x:=⟨k,g,cg,zs⟩) HG.out HD.out.symm rfl;have hgl:=hgo.le hR.out;have hgl0:=HG.out.le hR.out;rw[List.length_append,List.length_singleton] at hgl;have hm0:6≤m:=by
     obtain⟨_,h3,_,_⟩:=Frame.first_is (fun y hy=>hR.out y (List.mem_of_mem_drop hy)) HD.out.symm;rw[Frame.frame_len] at h3;have:=Num.put_len zs.length;omega
    have hrow1:=own_same (w':=W1) HROW.out fun g cs fr _ hgc=>hb1.block g (lt_of_block hgc);have hB1:=HB.out.trans (hb1.mono hbs);have hw1:=hB1.size;have HGO:=hid hgo;have hkm:k+m≤bs.length∧6*xs.length+6≤k+m:=by omega
    have hxl:xs.length≤1000000:=by omega
    have HH1:=hid (fun x hx=>(⟨(HHERE.out x hx).1.below hb1,(HHERE.out x hx).2⟩:Here W1 x.g x.zs∧w.heap.size≤x.g∧x.zs.length≤x.c));clear hgo hgl hgl0 hb1;go_wp2_with (at_builtin;refine wpList_append_own _ rfl _ _ 75 rfl w.heap.size 39 i0 (.slice none 0 0) 1 24 Tryz.underlying75 hi hz0 hz1 hz2 rfl (by decide) _ _ _ rfl (hrow1.alloc _) ⟨W1.heap.size,0,none⟩ 1 1 [.slice (some ⟨g,0,none⟩) zs.length cg] rfl rfl (cell_one_new _ _ _) (by simp [Value.oneCell']) (by unfold maxLen;omega) (by omega) (by simp;omega) ?_)
    intro v' w2 hown' hgrow _;have hkeep: ∀y zz,Here W1 y zz→Here w2 y zz:=fun y zz hy=>here_grown (here_alloc hy _) (hrow1.alloc _) hgrow;have hB2:=(hB1.alloc hw1 (.cells #[.slice (some ⟨g,0,none⟩) zs.length cg] 39)).grown hgrow (by simp;omega) (fun j e=>(hrow1.lt j e).1);have HO:=hid hown';have HB2:=hid hB2;have HK:=hid hkeep;clear hown' hgrow hrow1 hB1 hB2 hkeep HROW HB;go_wp2
    go_roundw
    case rel=>
     have hh2: ∀x∈xs++ [(⟨k,g,cg,zs⟩:Rec)],Here w2 x.g x.zs∧w.heap.size≤x.g∧x.zs.length≤x.c:=fun x hx=>by
      rcases List.mem_append.1 hx with hx | hx
      ·exact⟨HK.out _ _ (HH1.out x hx).1,(HH1.out x hx).2⟩
      ·simp only[List.mem_singleton] at hx
       subst hx;exact⟨HK.out _ _ hh1,by show w.heap.size≤g;omega,hcg⟩
     have hrow2:w2.ownsRow w.heap.size 39 1 v' (xs++ [(⟨k,g,cg,zs⟩:Rec)]).length ((xs++ [(⟨k,g,cg,zs⟩:Rec)]).map Rec.val):=by
      rw[List.length_append,List.map_append];exact HO.out
     exact⟨xs++ [⟨k,g,cg,zs⟩],k+m,by go_num,hrow2,HGO.out,hh2,HB2.out⟩
    case measure=>simp [intOf];omega
end Go.Proofs.YtalfbcbnljhldaaGreatDoor
