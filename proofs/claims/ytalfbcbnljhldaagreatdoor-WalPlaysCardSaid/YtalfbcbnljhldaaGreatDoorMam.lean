/-  -/
import Derived.Test.YtalfbcbnljhldaaGreatDoorMal
import Derived.Test.YtalfbcbnljhldaaGreatDoorMab
namespace Go.Proofs.YtalfbcbnljhldaaGreatDoor
open Go.Lib (hid)
open Go.RowKit Go.Maps Dsk Rd
namespace Rd
section
variable {w:World} {B g:Nat} {S:Nat→Prop} {F:List FC}
set_option maxRecDepth 100000 in
set_option maxHeartbeats 4000000 in
theorem append_full (h:RDisk w B S g F) (hs:Small F) (hF:F.length≤900000000) (nm:Name) (h0:nm.length≠0) (h1:nm.length≤64) (hsm: ∀c∈F,c.f.l.length≤900000000) (a:Option Addr) (c:Nat) (bs:List Int) (hrd:ReadsS w S a bs) (hnc:a=none→c=0) (hbl:bs.length≤1048576) (hroom:(rdRead F nm).1=false∧64≤(rdNames F).length):
  Calls Tryz.prog 41 #[.pointer (some ⟨g,0,none⟩),.string ⟨nm.toArray⟩,.slice a bs.length c] w fun e w'=>e= .returned (.int .i64 6)∧Below w.heap.size w w':=by
 have hrd0:(rdRead F nm).2= []:=by
  have:=hroom.1;unfold rdRead at this ⊢;split
  ·rename_i e;rw[e] at this;simp only at this ⊢;split at this<;>simp_all
  ·rfl
 have hsz:(⟨nm.toArray⟩:ByteArray).size=nm.length:=rfl;have HR:=hid (rdread_any h hs nm);have z1:((nm.length:Int) == 0)=false:=by simp;intro e;exact h0 (by rw[e];rfl)
 have z2:decide ((64:Int)<(nm.length:Int))=false:=by simp;omega
 obtain⟨bl,hbl2⟩: ∃x,x=bs.length:=⟨_,rfl⟩;have z3:decide ((1048576:Int)<(bl:Int))=false:=decide_eq_false (by omega);have z5:(bl:Int)≤1048576:=by omega
 have HD:=hid h;have HSM0:=hid hs;have HFL9:=hid hF;have HSM:=hid hsm;have HRD:=hid hrd;have HNC:=hid hnc;have HBL:=hid hbl;have HROOM:=hid hroom;rw[←hbl2];clear h hs hF hsm hrd hnc hbl hroom;rw[HROOM.out.1,hrd0] at HR;clear hrd0;go_enter Tryz.func41,Tryz.ntmps41
 go_wp2_with fail
 refine HR.out.mono ?_;rintro e w1 ⟨v,rfl,HROW1,hb⟩;obtain⟨oa,oc,hov,_⟩:=slice_shape HROW1;subst hov;have HNM:=hid (rdnames_any (HD.out.below hb) HSM0.out);have HB0:=hid hb;clear hb HR HROW1;go_wp2_with fail
 refine HNM.out.mono ?_;rintro e w1b ⟨vn,rfl,hnames,hb⟩;obtain⟨na,nc,hvn,_⟩:=slice_shape hnames;subst hvn;obtain⟨nl,hnl⟩: ∃x,x=(rdNames F).length:=⟨_,rfl⟩;rw[←hnl];have d64:decide ((64:Int)≤(nl:Int))=true:=decide_eq_true (by have:=HROOM.out.2;omega);have HB:=hid (HB0.out.trans (hb.mono HB0.out.size));clear hb HNM hnames hnl;go_wp2_with fail
 go_ret
 exact⟨rfl,HB.out⟩
set_option maxRecDepth 100000 in
set_option maxHeartbeats 4000000 in
theorem append_new (h:RDisk w B S g F) (hs:Small F) (hF:F.length≤900000000) (nm:Name) (h0:nm.length≠0) (h1:nm.length≤64) (hsm: ∀c∈F,c.f.l.length≤900000000) (a:Option Addr) (c:Nat) (bs:List Int) (hrd:ReadsS w S a bs) (hnc:a=none→c=0) (hbl:bs.length≤1048576) (hroom:(rdRead F nm).1=false∧(rdNames F).length<64):
  Calls Tryz.prog 41 #[.pointer (some ⟨g,0,none⟩),.string ⟨nm.toArray⟩,.slice a bs.length c] w fun e w'=>e= .returned (.int .i64 0)∧Apart S w w'∧ ∃F' F1 i,AtIs F nm F1 i∧RDisk w' B (More S w w') g F'∧absF F'=putF F1 i (.whole false bs):=by
 have hrd0:(rdRead F nm).2= []:=by
  have:=hroom.1;unfold rdRead at this ⊢;split
  ·rename_i e;rw[e] at this;simp only at this ⊢;split at this<;>simp_all
  ·rfl
 have hsz:(⟨nm.toArray⟩:ByteArray).size=nm.length:=rfl;have HR:=hid (rdread_any h hs nm);have z1:((nm.length:Int) == 0)=false:=by simp;intro e;exact h0 (by rw[e];rfl)
 have z2:decide ((64:Int)<(nm.length:Int))=false:=by simp;omega
 obtain⟨bl,hbl2⟩: ∃x,x=bs.length:=⟨_,rfl⟩;have z3:decide ((1048576:Int)<(bl:Int))=false:=decide_eq_false (by omega);have z5:(bl:Int)≤1048576:=by omega
 have HD:=hid h;have HSM0:=hid hs;have HFL9:=hid hF;have HSM:=hid hsm;have HRD:=hid hrd;have HNC:=hid hnc;have HBL:=hid hbl;have HROOM:=hid hroom;rw[←hbl2];clear h hs hF hsm hrd hnc hbl hroom;rw[HROOM.out.1,hrd0] at HR;clear hrd0;go_enter Tryz.func41,Tryz.ntmps41
 go_wp2_with fail
 refine HR.out.mono ?_;rintro e w1 ⟨v,rfl,HROW1,hb⟩;obtain⟨oa,oc,hov,_⟩:=slice_shape HROW1;subst hov;have HNM:=hid (rdnames_any (HD.out.below hb) HSM0.out);have HB0:=hid hb;clear hb HR HROW1;go_wp2_with fail
 refine HNM.out.mono ?_;rintro e w1b ⟨vn,rfl,hnames,hb⟩;obtain⟨na,nc,hvn,_⟩:=slice_shape hnames;subst hvn;obtain⟨nl,hnl⟩: ∃x,x=(rdNames F).length:=⟨_,rfl⟩;rw[←hnl];have d64:decide ((64:Int)≤(nl:Int))=false:=decide_eq_false (by have:=HROOM.out.2;omega);have HB:=hid (HB0.out.trans (hb.mono HB0.out.size));clear hb HNM hnames hnl;go_wp2_with fail
 refine(replace_put (HD.out.below HB.out) HSM0.out HFL9.out nm h0 h1 HSM.out a c bs (HRD.out.ex (Ex.of_below HB.out)) HNC.out HBL.out (.inr HROOM.out.2)).mono ?_;rintro e w2 ⟨rfl,hap,F',F1,i,hat,hd,he⟩;have hE:=(Ex.of_below (S:=S) HB.out).trans (Ex.of_more hap);go_wp2_with fail
 go_ret
 exact⟨rfl,hE.ap,F',F1,i,hat,HD.out.ex hd hE,he⟩
end
end Rd
end Go.Proofs.YtalfbcbnljhldaaGreatDoor

namespace Go.Proofs.YtalfbcbnljhldaaGreatDoor.Wl
open Dsk
structure Whole (M:Files) (L:List (Nat×List Ent)) (E:List Ent):Prop where
 segs:SegList M (L.map fun x=>(x.1,flatE x.2))
 ne: ∀x∈L,x.2≠ []
 ok: ∀x∈L,∀e∈x.2,e.ok
 ents:chain [] (L.map Prod.snd).flatten=some E
 gone: ∀k,1≤k→k≤99999999→(M.at (nameOf k)).now.there=false→M (nameOf k)=none
def sgOf (x:Nat×List Ent):Sg:=⟨x.1,flatE x.2,(flatE x.2).length,x.2⟩
theorem readGo_whole: ∀(L:List (Nat×List Ent)) (E0:List Ent) {E:List Ent},(∀x∈L,x.2≠ [])→(∀x∈L,∀e∈x.2,e.ok)→chain E0 (L.map Prod.snd).flatten=some E→
  readGo (L.map fun x=>(x.1,flatE x.2)) E0=(L.map sgOf,E)
 | [],E0,E,_,_,h=>by simp only[List.map_nil,List.flatten_nil,chain,Option.some.injEq] at h;subst h;rfl
 | x::L,E0,E,hne,hok,h=>by
  rw[List.map_cons,List.flatten_cons] at h;obtain⟨E1,h1,h2⟩:=chain_split _ _ _ h;have hw:=walk_whole (hok x (by simp)) h1;rw[List.map_cons,readGo_more (x:=(x.1,flatE x.2)) _ hw (hne x (by simp)),readGo_whole L E1 (fun y hy=>hne y (by simp [hy])) (fun y hy=>hok y (by simp [hy])) h2];rfl
theorem Whole.read {M:Files} {L:List (Nat×List Ent)} {E:List Ent} (h:Whole M L E) {ks:List Name} (hks:NamesOf M (fun f=>f.now.there) ks):readGo (segsOf M (numsOf ks)) []=(L.map sgOf,E):=by
 rw[(segs_of hks).one h.segs];exact readGo_whole L [] h.ne h.ok h.ents
theorem Whole.new:Whole (fun _=>none) [] [] where
 segs:=⟨.nil,fun k bs=>by simp [Files.at,Fil.zero,Fil.now,Ver.zero]⟩
 ne:=fun x hx=>by cases hx
 ok:=fun x hx=>by cases hx
 ents:=rfl
 gone:=fun _ _ _ _=>rfl
structure Cur where
 num:Nat
 n:Nat
def Cur.fresh (c:Cur):Bool:=decide (c.num=0)||decide (8≤c.n)
def Cur.next (c:Cur):Cur:=if c.fresh=true then⟨c.num+1,0⟩ else c
def curL (L:List (Nat×List Ent)):Cur:=match L.getLast? with
 | none=>⟨0,0⟩
 | some x=>⟨x.1,x.2.length⟩
theorem curL_snoc (L:List (Nat×List Ent)) (x:Nat×List Ent):curL (L++ [x])=⟨x.1,x.2.length⟩:=by simp [curL]
def syncM (M:Files) (c:Cur):Files:=if 8≤c.n then upd M (nameOf c.num) (settled (M.at (nameOf c.num)).now) else M
def appF (f:Fil) (zs:List Int):Fil:=if f.now.there=true then f.app zs else f.chg ⟨true,zs,zs.length⟩
def putM (M:Files) (c:Cur) (e:Ent):Files:=upd (syncM M c) (nameOf c.next.num) (some (appF ((syncM M c).at (nameOf c.next.num)) (frm e)))
theorem app_now (f:Fil) (zs:List Int):(f.app zs).now=f.now.app zs:=by
 by_cases h:f.later= []
 ·rw[Fil.app_nil h,Fil.now_nil h]
  rfl
 ·obtain⟨l,v,hl⟩: ∃l v,f.later=l++ [v]:=⟨f.later.dropLast,f.later.getLast h,(List.dropLast_concat_getLast h).symm⟩
  rw[Fil.app_some hl,Fil.now_some hl];exact Fil.now_some (l:=l) rfl
theorem chg_now' (f:Fil) (v:Ver):(f.chg v).now=v:=Fil.now_some (l:=f.later) rfl
theorem settled_now {M:Files} {n:Name} {v:Ver} (h:v.there=true):((upd M n (settled v)).at n).now=⟨true,v.bs,v.bs.length⟩:=by
 simp [Files.at,upd,settled,h,Fil.now]
theorem segList_new {M:Files} {l:List (Nat×List Int)} {k:Nat} {f:Fil} (h:SegList M l) (hk:1≤k∧k≤99999999) (hl: ∀x∈l,x.1<k) (hf:f.now.there=true):SegList (upd M (nameOf k) (some f)) (l++ [(k,f.now.bs)]):=by
 refine⟨List.pairwise_append.2 ⟨h.1,by simp,fun a ha b hb=>by simp at hb;subst hb;exact hl a ha⟩,fun j bs=>?_⟩;by_cases hj:j=k
 ·subst hj
  rw[List.mem_append];have hno: ¬(j,bs)∈l:=fun e=>absurd (hl _ e) (Nat.lt_irrefl _);simp [hno,upd_at,hf,hk]
 ·have h1:=h.2 j bs
  rw[List.mem_append];simp only[List.mem_singleton,Prod.mk.injEq,hj,false_and,or_false];rw[h1];constructor
  ·rintro⟨a1,a2,a3⟩
   have:nameOf j≠nameOf k:=fun e=>hj (name_inj a1 hk e);rw[upd_at_other _ _ this];exact⟨a1,a2,a3⟩
  ·rintro⟨a1,a2,a3⟩
   have:nameOf j≠nameOf k:=fun e=>hj (name_inj a1 hk e);rw[upd_at_other _ _ this] at a2 a3;exact⟨a1,a2,a3⟩
theorem segList_last {M:Files} {l:List (Nat×List Int)} {k:Nat} {bs:List Int} {f:Fil} (h:SegList M (l++ [(k,bs)])) (hf:f.now.there=true):SegList (upd M (nameOf k) (some f)) (l++ [(k,f.now.bs)]):=by
 have hp:=List.pairwise_append.1 h.1;have hk:1≤k∧k≤99999999:=((h.2 k bs).1 (by simp)).1;have hl: ∀x∈l,x.1<k:=fun x hx=>hp.2.2 x hx (k,bs) (by simp);refine⟨List.pairwise_append.2 ⟨hp.1,by simp,fun a ha b hb=>by simp at hb;subst hb;exact hl a ha⟩,fun j cs=>?_⟩;by_cases hj:j=k
 ·subst hj
  rw[List.mem_append];have hno: ¬(j,cs)∈l:=fun e=>absurd (hl _ e) (Nat.lt_irrefl _);simp [hno,upd_at,hf,hk]
 ·have h1:=h.2 j cs
  rw[List.mem_append] at h1 ⊢;simp only[List.mem_singleton,Prod.mk.injEq,hj,false_and,or_false] at h1 ⊢;rw[h1];constructor
  ·rintro⟨a1,a2,a3⟩
   have:nameOf j≠nameOf k:=fun e=>hj (name_inj a1 hk e);rw[upd_at_other _ _ this];exact⟨a1,a2,a3⟩
  ·rintro⟨a1,a2,a3⟩
   have:nameOf j≠nameOf k:=fun e=>hj (name_inj a1 hk e);rw[upd_at_other _ _ this] at a2 a3;exact⟨a1,a2,a3⟩
theorem segList_sync {M:Files} {l:List (Nat×List Int)} {k:Nat} (h:SegList M l) (hk:1≤k∧k≤99999999) (ht:(M.at (nameOf k)).now.there=true):SegList (upd M (nameOf k) (settled (M.at (nameOf k)).now)) l:=by
 refine⟨h.1,fun j bs=>?_⟩;rw[h.2 j bs];by_cases hj:j=k
 ·subst hj
  rw[settled_now ht,ht]
 ·constructor
  ·rintro⟨a1,a2,a3⟩
   rw[upd_at_other _ _ (fun e=>hj (name_inj a1 hk e))];exact⟨a1,a2,a3⟩
  ·rintro⟨a1,a2,a3⟩
   rw[upd_at_other _ _ (fun e=>hj (name_inj a1 hk e))] at a2 a3;exact⟨a1,a2,a3⟩
def putL (L:List (Nat×List Ent)) (e:Ent):List (Nat×List Ent):=match L.getLast? with
 | none=> [(1,[e])]
 | some x=>if 8≤x.2.length then L++ [(x.1+1,[e])] else L.dropLast++ [(x.1,x.2++ [e])]
theorem putL_nil (e:Ent):putL [] e= [(1,[e])]:=rfl
theorem putL_full {L:List (Nat×List Ent)} {x:Nat×List Ent} (e:Ent) (h:8≤x.2.length):putL (L++ [x]) e=L++ [x]++ [(x.1+1,[e])]:=by simp [putL,h]
theorem putL_more {L:List (Nat×List Ent)} {x:Nat×List Ent} (e:Ent) (h: ¬8≤x.2.length):putL (L++ [x]) e=L++ [(x.1,x.2++ [e])]:=by simp [putL,h]
theorem next_full {k n:Nat} (h:8≤n):(Cur.mk k n).next=⟨k+1,0⟩:=by simp [Cur.next,Cur.fresh,h]
theorem next_zero (n:Nat):(Cur.mk 0 n).next=⟨1,0⟩:=by simp [Cur.next,Cur.fresh]
theorem next_same {k n:Nat} (h0:k≠0) (h: ¬8≤n):(Cur.mk k n).next=⟨k,n⟩:=by simp [Cur.next,Cur.fresh,h,h0]
theorem Whole.last {M:Files} {L:List (Nat×List Ent)} {x:Nat×List Ent} {E:List Ent} (h:Whole M (L++ [x]) E):(1≤x.1∧x.1≤99999999)∧(M.at (nameOf x.1)).now.there=true∧flatE x.2=(M.at (nameOf x.1)).now.bs∧ ∀y∈L,y.1<x.1:=by
 obtain⟨a1,a2,a3⟩:=(h.segs.2 x.1 (flatE x.2)).1 (by simp);refine⟨a1,a2,a3,fun y hy=>?_⟩;have hp:=h.segs.1;rw[List.map_append] at hp;exact(List.pairwise_append.1 hp).2.2 (y.1,flatE y.2) (List.mem_map.2 ⟨y,hy,rfl⟩) (x.1,flatE x.2) (by simp)
theorem ents_snoc {L:List (Nat×List Ent)} {x:Nat×List Ent} {E E':List Ent} {e:Ent} (h:chain [] (((L++ [x]).map Prod.snd).flatten)=some E) (hf:follow E e=some E'):chain [] (((L++ [(x.1,x.2++ [e])]).map Prod.snd).flatten)=some E':=by
 have:(((L++ [(x.1,x.2++ [e])]).map Prod.snd).flatten)=((L++ [x]).map Prod.snd).flatten++ [e]:=by simp
 rw[this,chain_snoc e h,hf]
theorem ents_more {L:List (Nat×List Ent)} {k:Nat} {E E':List Ent} {e:Ent} (h:chain [] ((L.map Prod.snd).flatten)=some E) (hf:follow E e=some E'):chain [] (((L++ [(k,[e])]).map Prod.snd).flatten)=some E':=by
 have:(((L++ [(k,[e])]).map Prod.snd).flatten)=(L.map Prod.snd).flatten++ [e]:=by simp
 rw[this,chain_snoc e h,hf]
theorem Whole.put {M:Files} {L:List (Nat×List Ent)} {E E':List Ent} (h:Whole M L E) {e:Ent} (he:e.ok) (hf:follow E e=some E') (hk:(curL L).num<99999999):Whole (putM M (curL L) e) (putL L e) E':=by
 have hnow: ∀f:Fil,(appF f (frm e)).now.there=true:=fun f=>by
  unfold appF;split
  ·rw[app_now];assumption
  ·rw[chg_now']
 by_cases hL:L= []
 ·subst hL
  have hc:curL []=⟨0,0⟩:=rfl;have hs:syncM M ⟨0,0⟩=M:=rfl;have hth:(M.at (nameOf 1)).now.there=false:=by
   cases ht:(M.at (nameOf 1)).now.there with
   | false=>rfl
   | true=>have:=(h.segs.2 1 _).2 ⟨⟨by decide,by decide⟩,ht,rfl⟩;simp at this
  have hbs:(appF (M.at (nameOf 1)) (frm e)).now.bs=flatE [e]:=by
   unfold appF;rw[if_neg (by rw[hth];decide),chg_now'];simp [flatE]
  rw[hc,putM,next_zero,hs,putL_nil];have hseg:=segList_new h.segs (k:=1) ⟨by decide,by decide⟩ (fun x hx=>by simp at hx) (hnow (M.at (nameOf 1)));rw[hbs] at hseg;refine⟨hseg,fun x hx=>?_,fun x hx=>?_,ents_more (L:= []) h.ents hf,fun k h1 h2 hg=>?_⟩
  ·simp at hx;subst hx;simp
  ·simp at hx;subst hx;intro y hy;simp at hy;subst hy;exact he
  ·by_cases hk1:k=1
   ·subst hk1;rw[upd_at,hnow] at hg;cases hg
   ·have hne:nameOf k≠nameOf 1:=fun e0=>hk1 (name_inj ⟨h1,h2⟩ ⟨by decide,by decide⟩ e0)
    rw[upd_at_other _ _ hne] at hg;rw[upd_other _ _ hne];exact h.gone k h1 h2 hg
 ·obtain⟨L,x,rfl⟩: ∃L' x,L=L'++ [x]:=⟨L.dropLast,L.getLast hL,(List.dropLast_concat_getLast hL).symm⟩
  obtain⟨hx1,hx2,hx3,hx4⟩:=h.last;rw[curL_snoc] at hk ⊢;dsimp only at hk;by_cases h8:8≤x.2.length
  ·have hs:syncM M ⟨x.1,x.2.length⟩=upd M (nameOf x.1) (settled (M.at (nameOf x.1)).now):=if_pos h8
   have hne1:nameOf (x.1+1)≠nameOf x.1:=fun e0=>by
    have:=name_inj (j:=x.1+1) (k:=x.1) ⟨by omega,by omega⟩ hx1 e0;omega
   have hth:((syncM M ⟨x.1,x.2.length⟩).at (nameOf (x.1+1))).now.there=false:=by
    rw[hs,upd_at_other _ _ hne1];cases ht:(M.at (nameOf (x.1+1))).now.there with
    | false=>rfl
    | true=>
     have hm:=(h.segs.2 (x.1+1) _).2 ⟨⟨by omega,by omega⟩,ht,rfl⟩;obtain⟨y,hy,hye⟩:=List.mem_map.1 hm;simp only[Prod.mk.injEq] at hye;rcases List.mem_append.1 hy with hy | hy
     ·have:=hx4 y hy;omega
     ·simp at hy;subst hy;omega
   have hbs:(appF ((syncM M ⟨x.1,x.2.length⟩).at (nameOf (x.1+1))) (frm e)).now.bs=flatE [e]:=by
    unfold appF;rw[if_neg (by rw[hth];decide),chg_now'];simp [flatE]
   have hseg0:=segList_sync h.segs hx1 hx2;rw[←hs] at hseg0;have hseg:=segList_new hseg0 (k:=x.1+1) ⟨by omega,by omega⟩ (fun z hz=>by
    obtain⟨y,hy,rfl⟩:=List.mem_map.1 hz;rcases List.mem_append.1 hy with hy | hy
    ·have:=hx4 y hy;dsimp only;omega
    ·simp at hy;subst hy;dsimp only;omega) (hnow ((syncM M ⟨x.1,x.2.length⟩).at (nameOf (x.1+1))))
   rw[hbs] at hseg;rw[putM,next_full h8,putL_full e h8];refine⟨by simpa using hseg,fun z hz=>?_,fun z hz=>?_,ents_more h.ents hf,fun k h1 h2 hg=>?_⟩
   ·rcases List.mem_append.1 hz with hz | hz
    ·exact h.ne z hz
    ·simp at hz;subst hz;simp
   ·rcases List.mem_append.1 hz with hz | hz
    ·exact h.ok z hz
    ·simp at hz;subst hz;intro y hy;simp at hy;subst hy;exact he
   ·by_cases hk1:k=x.1+1
    ·subst hk1;rw[upd_at,hnow] at hg;cases hg
    ·have hne:nameOf k≠nameOf (x.1+1):=fun e0=>hk1 (name_inj ⟨h1,h2⟩ ⟨by omega,by omega⟩ e0)
     rw[upd_at_other _ _ hne,hs] at hg;rw[upd_other _ _ hne,hs];by_cases hk2:k=x.1
     ·subst hk2;rw[settled_now hx2] at hg;cases hg
     ·have hne2:nameOf k≠nameOf x.1:=fun e0=>hk2 (name_inj ⟨h1,h2⟩ hx1 e0)
      rw[upd_at_other _ _ hne2] at hg;rw[upd_other _ _ hne2];exact h.gone k h1 h2 hg
  ·have hs:syncM M ⟨x.1,x.2.length⟩=M:=if_neg h8
   have hbs:(appF (M.at (nameOf x.1)) (frm e)).now.bs=flatE (x.2++ [e]):=by
    unfold appF;rw[if_pos hx2,app_now,flatE_snoc,hx3];rfl
   have h0:=h.segs;rw[List.map_append] at h0;have hseg:=segList_last (l:=L.map fun x=>(x.1,flatE x.2)) (k:=x.1) (bs:=flatE x.2) h0 (hnow (M.at (nameOf x.1)));rw[hbs] at hseg;rw[putM,next_same (by omega) h8,putL_more e h8,hs];refine⟨by simpa using hseg,fun z hz=>?_,fun z hz=>?_,ents_snoc h.ents hf,fun k h1 h2 hg=>?_⟩
   ·rcases List.mem_append.1 hz with hz | hz
    ·exact h.ne z (by simp [hz])
    ·simp at hz;subst hz;simp
   ·rcases List.mem_append.1 hz with hz | hz
    ·exact h.ok z (by simp [hz])
    ·simp at hz;subst hz
     intro y hy;rcases List.mem_append.1 hy with hy | hy
     ·exact h.ok x (by simp) y hy
     ·simp at hy;subst hy;exact he
   ·by_cases hk1:k=x.1
    ·subst hk1;rw[upd_at,hnow] at hg;cases hg
    ·have hne:nameOf k≠nameOf x.1:=fun e0=>hk1 (name_inj ⟨h1,h2⟩ hx1 e0)
     rw[upd_at_other _ _ hne] at hg;rw[upd_other _ _ hne];exact h.gone k h1 h2 hg
end Go.Proofs.YtalfbcbnljhldaaGreatDoor.Wl

namespace Go.Proofs.YtalfbcbnljhldaaGreatDoor
open Go.RowKit Go.Maps Dsk Rd Wl
namespace Rd
def Slim (M:Files):Prop:= ∀n f,M n=some f→f.later.length≤800
theorem bytes_sum (zs:List Int):((zs.map RPart.byte).map fun p=>p.bytes.length).sum=zs.length:=by
 induction zs with
 | nil=>rfl
 | cons z zs ih=>
  rw[List.map_cons,List.map_cons,List.sum_cons,ih,List.length_cons];show 1+zs.length=_;omega
theorem ver_sum {v:Ver} (h:v.ok):(v.parts.map fun p=>p.bytes.length).sum≤1048576∧v.parts.length≤1048577:=by
 obtain⟨h1,h2,-⟩:=h;unfold Ver.parts Ver.bytes;rw[List.map_cons,List.sum_cons,bytes_sum];simp only[RPart.bytes,List.length_take,List.length_drop,List.length_cons,List.length_map];omega
theorem vers_sum: ∀(l:List Ver),(∀v∈l,v.ok)→((l.map Ver.parts).flatten.map fun p=>p.bytes.length).sum≤l.length*1048577∧(l.map Ver.parts).flatten.length≤l.length*1048577
 | [],_=>by simp
 | v::l,h=>by
  have h1:=ver_sum (h v (by simp));have h2:=vers_sum l fun x hx=>h x (by simp [hx]);simp only[List.map_cons,List.flatten_cons,List.map_append,List.sum_append,List.length_append,List.length_cons,Nat.add_mul,Nat.one_mul];omega
theorem ref_weigh {f:Fil} (h:f.ok) (hl:f.later.length≤800):weigh f.ref≤900000000∧f.ref.l.length≤900000000:=by
 have h1:=vers_sum f.later h.2;obtain⟨hw,hb,-⟩:=h.1;have h3:f.later.length*1048577≤800*1048577:=Nat.mul_le_mul_right _ hl;unfold weigh Fil.ref Ver.bytes;simp only[List.map_append,List.sum_append,List.length_append,bytes_sum,List.length_take,List.length_drop,List.length_map];rw[List.length_flatten] at h1;rw[List.length_flatten];omega
def RM (w:World) (B:Nat) (S:Nat→Prop) (g n:Nat) (M:Files):Prop:= ∃F,RDisk w B S g F∧Rel M (absF F)∧F.length≤n
section
variable {w w':World} {B g n:Nat} {S:Nat→Prop} {M:Files} {F:List FC}
theorem RM.below (h:RM w B S g n M) (hb:Below w.heap.size w w'):RM w' B S g n M:=by
 obtain⟨F,h1,h2⟩:=h;exact⟨F,h1.below hb,h2⟩
theorem rel_small (hr:Rel M (absF F)) (ho:AllOk M) (hs:Slim M) (hF:F.length≤800000):Small F∧(∀c∈F,c.f.l.length≤900000000):=by
 have key: ∀c∈F,weigh c.f≤900000000∧c.f.l.length≤900000000:=fun c hc=>by
  have hnd:((absF F).map (·.1)).Nodup:=sort_nodup hr.sort;have hl:=(look_mem hnd (nm:=c.n) (r:=c.f)).2 (by unfold absF;exact List.mem_map.2 ⟨c,hc,rfl⟩);rw[hr.look] at hl;obtain⟨f,hf,e⟩:=Option.map_eq_some_iff.1 hl;have:=ref_weigh (ho _ f hf) (hs _ f hf);rw[e] at this;exact this
 exact⟨⟨by omega,fun c hc=>by have:=key c hc;omega⟩,fun c hc=>(key c hc).2⟩
theorem abs_len (F:List FC):(absF F).length=F.length:=by simp [absF]
theorem keep_len (L:List (Name×RFil)) (i n:Nat):(rdKeep L i n).length≤L.length:=by
 unfold rdKeep;split
 ·exact Nat.le_refl _
 ·split
  ·simp
  ·exact List.length_eraseIdx_le L i
theorem AtIs.grows {F F1:List FC} {nm:Name} {i:Nat} (h:AtIs F nm F1 i):F1.length≤F.length+1:=by
 rcases h with⟨_,rfl⟩ | ⟨_,rfl,_⟩
 ·omega
 ·have:=posL_le (absF F) nm
  simp only[absF,List.length_map] at this;unfold insF;simp;omega
theorem putF_len (F:List FC) (i:Nat) (p:RPart):(putF F i p).length=F.length:=by
 unfold putF;split
 ·simp [absF]
 ·simp [absF]
theorem there_some {nm:Name} (h:(M.at nm).now.there=true): ∃f,M nm=some f∧M.at nm=f:=by
 unfold Files.at at h ⊢;cases hM:M nm with
 | none=>rw[hM] at h;simp [Fil.zero,Fil.now,Ver.zero] at h
 | some f=>exact⟨f,rfl,rfl⟩
theorem rm_names (h:RM w B S g n M) (ho:AllOk M) (hs:Slim M) (hn:n≤700000) {ks:List Name} (hk:NamesOf M (fun f=>f.now.there) ks):
  Calls Tryz.prog 27 #[.pointer (some ⟨g,0,none⟩)] w fun e w'=> ∃v,e= .returned v∧Names1 w' w.heap.size v ks∧Below w.heap.size w w':=by
 obtain⟨F,hd,hr,hF⟩:=h;have h1:=rdnames_any hd (rel_small hr ho hs (by omega)).1;rw[hr.names ho hk] at h1;exact h1
theorem rm_loose (h:RM w B S g n M) (ho:AllOk M) (hs:Slim M) (hn:n≤700000) {ks:List Name} (hk:NamesOf M (fun f=>f.loose) ks):
  Calls Tryz.prog 45 #[.pointer (some ⟨g,0,none⟩)] w fun e w'=> ∃v,e= .returned v∧Names1 w' w.heap.size v ks∧Below w.heap.size w w':=by
 obtain⟨F,hd,hr,hF⟩:=h;have h1:=rdloose_any hd (rel_small hr ho hs (by omega)).1;rw[hr.loose hk] at h1;exact h1
theorem rm_read (h:RM w B S g n M) (ho:AllOk M) (hs:Slim M) (hn:n≤700000) (nm:Name):
  Calls Tryz.prog 30 #[.pointer (some ⟨g,0,none⟩),.string ⟨nm.toArray⟩] w fun e w'=> ∃v,e= .returned (.tuple #[v,.bool (M.at nm).now.there])∧Row w' w.heap.size (if (M.at nm).now.there=true then(M.at nm).now.bs else []) v∧Below w.heap.size w w':=by
 obtain⟨F,hd,hr,hF⟩:=h;have h1:=rdread_any hd (rel_small hr ho hs (by omega)).1 nm;rw[hr.read ho nm] at h1;by_cases ht:(M.at nm).now.there=true
 ·rw[if_pos ht] at h1 ⊢
  rw[ht];exact h1
 ·rw[if_neg ht] at h1 ⊢
  rw[show(M.at nm).now.there=false by simpa using ht];exact h1
theorem rm_sync (h:RM w B S g n M) (ho:AllOk M) (hs:Slim M) (hn:n≤700000) (nm:Name) (h0:nm.length≠0) (h1:nm.length≤64) (hm:(M nm).isSome=true):
  Calls Tryz.prog 20 #[.pointer (some ⟨g,0,none⟩),.string ⟨nm.toArray⟩] w fun e w'=>e= .returned (.int .i64 0)∧Apart S w w'∧RM w' B (More S w w') g n (upd M nm (settled (M.at nm).now)):=by
 obtain⟨F,hd,hr,hF⟩:=h;obtain⟨hsm,hsl⟩:=rel_small hr ho hs (by omega);rcases hr.place nm with⟨_,hno⟩ | ⟨i,hi,hp,hin,f,hf,he⟩
 ·rw[hno] at hm;cases hm
 ·subst hin
  refine(sync_some hd hsm hi hp h0 h1).mono ?_;rintro e w' ⟨rfl,hap,F',hd',hf'⟩;have hi':i<(absF F).length:=by rw[abs_len];exact hi
  have e1:(absF F)[i]=(F[i].n,F[i].f):=by simp [absF]
  have hrel:=hr.sync hi' ho (n:=1073741824) (by rw[e1];have:=hsl F[i] (List.getElem_mem hi);show F[i].f.l.length≤_;omega);rw[e1] at hrel;refine⟨rfl,hap,F',hd',by rw[hf'];exact hrel,?_⟩;have:=keep_len (absF F) i 1073741824;rw[←hf',abs_len,abs_len] at this;omega
theorem rm_sync_none (h:RM w B S g n M) (hn:n≤700000) (nm:Name) (h0:nm.length≠0) (h1:nm.length≤64) (hm:M nm=none):
  Calls Tryz.prog 20 #[.pointer (some ⟨g,0,none⟩),.string ⟨nm.toArray⟩] w fun e w'=>e= .returned (.int .i64 5)∧w'=w:=by
 obtain⟨F,hd,hr,hF⟩:=h;rcases hr.place nm with⟨hp,_⟩ | ⟨i,hi,hp,hin,f,hf,he⟩
 ·exact sync_none hd (by omega) nm h0 h1 hp
 ·rw[hm] at hf;cases hf
theorem rm_remove (h:RM w B S g n M) (ho:AllOk M) (hs:Slim M) (hn:n≤700000) (nm:Name) (h0:nm.length≠0) (h1:nm.length≤64) (hm:(M.at nm).now.there=true):
  Calls Tryz.prog 29 #[.pointer (some ⟨g,0,none⟩),.string ⟨nm.toArray⟩] w fun e w'=>e= .returned (.int .i64 0)∧Apart S w w'∧RM w' B (More S w w') g n (upd M nm (some ((M.at nm).chg ⟨false,[],0⟩))):=by
 obtain⟨F,hd,hr,hF⟩:=h;obtain⟨hsm,hsl⟩:=rel_small hr ho hs (by omega);have hrd:(rdRead F nm).1=true:=by rw[hr.read ho nm,if_pos hm]
 refine(remove_some hd hsm (by omega) nm h0 h1 hrd hsl).mono ?_;rintro e w' ⟨rfl,hap,F',F1,i,hat,hd',hf'⟩;refine⟨rfl,hap,F',hd',?_,?_⟩
 ·rw[hf']
  exact hr.put hat (by rw[ref_chg];rfl)
 ·have h3:=putF_len F1 i (.whole true [])
  have h4:F1.length=F.length:=by
   rcases hat with⟨_,rfl⟩ | ⟨hp,_⟩
   ·rfl
   ·exfalso
    obtain⟨f,hf,_⟩:=there_some hm;rcases hr.place nm with⟨_,h5⟩ | ⟨j,hj,h5,_⟩
    ·rw[h5] at hf;cases hf
    ·rw[hp] at h5;omega
  rw[←hf',abs_len] at h3;omega
theorem rm_replace (h:RM w B S g n M) (ho:AllOk M) (hs:Slim M) (hn:n≤700000) (nm:Name) (h0:nm.length≠0) (h1:nm.length≤64) (a:Option Addr) (c:Nat) (bs:List Int) (hrd:ReadsS w S a bs) (hnc:a=none→c=0) (hbl:bs.length≤1048576)
  {ks:List Name} (hk:NamesOf M (fun f=>f.now.there) ks) (hroom:(M.at nm).now.there=true∨ks.length<64):
  Calls Tryz.prog 18 #[.pointer (some ⟨g,0,none⟩),.string ⟨nm.toArray⟩,.slice a bs.length c] w fun e w'=>e= .returned (.int .i64 0)∧Apart S w w'∧RM w' B (More S w w') g (n+1) (upd M nm (some ((M.at nm).chg ⟨true,bs,bs.length⟩))):=by
 obtain⟨F,hd,hr,hF⟩:=h;obtain⟨hsm,hsl⟩:=rel_small hr ho hs (by omega);have hroom':(rdRead F nm).1=true∨(rdNames F).length<64:=by
  rcases hroom with h | h
  ·exact .inl (by rw[hr.read ho nm,if_pos h])
  ·exact .inr (by rw[hr.names ho hk];exact h)
 refine(replace_put hd hsm (by omega) nm h0 h1 hsl a c bs hrd hnc hbl hroom').mono ?_;rintro e w' ⟨rfl,hap,F',F1,i,hat,hd',hf'⟩;refine⟨rfl,hap,F',hd',?_,?_⟩
 ·rw[hf']
  exact hr.put hat (by rw[ref_chg];simp [Ver.parts,Ver.bytes])
 ·have h3:=putF_len F1 i (.whole false bs)
  have h4:=hat.grows;rw[←hf',abs_len] at h3;omega
theorem rm_replace_full (h:RM w B S g n M) (ho:AllOk M) (hs:Slim M) (hn:n≤700000) (nm:Name) (h0:nm.length≠0) (h1:nm.length≤64) (a:Option Addr) (c:Nat) (bs:List Int) (hrd:ReadsS w S a bs) (hnc:a=none→c=0) (hbl:bs.length≤1048576)
  {ks:List Name} (hk:NamesOf M (fun f=>f.now.there) ks) (hno:(M.at nm).now.there=false) (hfull:64≤ks.length):
  Calls Tryz.prog 18 #[.pointer (some ⟨g,0,none⟩),.string ⟨nm.toArray⟩,.slice a bs.length c] w fun e w'=>e= .returned (.int .i64 6)∧Below w.heap.size w w':=by
 obtain⟨F,hd,hr,hF⟩:=h;obtain⟨hsm,hsl⟩:=rel_small hr ho hs (by omega);exact replace_full hd hsm (by omega) nm h0 h1 hsl a c bs hrd hnc hbl ⟨by rw[hr.read ho nm,if_neg (by rw[hno];decide)],by rw[hr.names ho hk];exact hfull⟩
theorem Rel.putB (h:Rel M (absF F)) {F1:List FC} {nm:Name} {i:Nat} (ha:AtIs F nm F1 i) {f:Fil} {bs:List Int} (hf:f.ref=⟨(M.at nm).ref.is,(M.at nm).ref.bs,(M.at nm).ref.l++bs.map RPart.byte,true⟩) (hm:(M nm).isSome=true):Rel (upd M nm (some f)) (putB F1 i bs):=by
 obtain⟨hi,hn⟩:=ha.at_;rw[putB_at hi,hn];rcases ha with⟨h1,rfl⟩ | ⟨h1,rfl,rfl⟩
 ·rcases h.place nm with⟨h2,_⟩ | ⟨j,hj,h2,h3,q,hq,he⟩
  ·rw[h1] at h2;omega
  ·rw[h1] at h2
   obtain rfl:i=j:=by omega
   have hs:=h.set (i:=i) (by simpa [absF] using hi) hf;have e1:(absF F1)[i]'(by simpa [absF] using hi)=(F1[i].n,F1[i].f):=by simp [absF]
   rw[e1] at hs;simp only[hn] at hs;have hat:M.at nm=q:=by simp [Files.at,hq]
   rw[hat,←he] at hs;exact hs
 ·rcases h.place nm with⟨_,h3⟩ | ⟨j,hj,h2,_⟩
  ·rw[h3] at hm;cases hm
  ·rw[h1] at h2;omega
theorem rm_append (h:RM w B S g n M) (ho:AllOk M) (hs:Slim M) (hn:n≤700000) (nm:Name) (h0:nm.length≠0) (h1:nm.length≤64) (a:Option Addr) (c:Nat) (bs:List Int) (hrd:ReadsS w S a bs) (hnc:a=none→c=0)
  {ks:List Name} (hk:NamesOf M (fun f=>f.now.there) ks) (hfit:(if (M.at nm).now.there=true then(M.at nm).now.bs.length else 0)+bs.length≤1048576) (hroom:(M.at nm).now.there=true∨ks.length<64):
  Calls Tryz.prog 41 #[.pointer (some ⟨g,0,none⟩),.string ⟨nm.toArray⟩,.slice a bs.length c] w fun e w'=>e= .returned (.int .i64 0)∧Apart S w w'∧RM w' B (More S w w') g (n+1) (upd M nm (some (appF (M.at nm) bs))):=by
 obtain⟨F,hd,hr,hF⟩:=h;obtain⟨hsm,hsl⟩:=rel_small hr ho hs (by omega);by_cases ht:(M.at nm).now.there=true
 ·rw[if_pos ht] at hfit
  have e1:=hr.read ho nm;rw[if_pos ht] at e1;obtain⟨f,hf,hat0⟩:=there_some ht;have hok:=ok_whole (ho nm f hf);refine(append_there hd hsm (by omega) nm h0 h1 hsl a c bs hrd hnc (by rw[e1]) (by rw[e1];exact hfit)).mono ?_;rintro e w' ⟨rfl,hap,F',F1,i,hat,hd',hf'⟩;refine⟨rfl,hap,F',hd',?_,?_⟩
  ·rw[hf']
   unfold appF;rw[if_pos ht];exact hr.putB hat (by rw[hat0,ref_app f hok.1 hok.2]) (by rw[hf];rfl)
  ·have h3:=putB_len F1 i bs
   have h4:=hat.grows;rw[←hf',abs_len] at h3;omega
 ·rw[if_neg ht] at hfit
  have e1:=hr.read ho nm;rw[if_neg ht] at e1;have hro:ks.length<64:=hroom.resolve_left ht;refine(append_new hd hsm (by omega) nm h0 h1 hsl a c bs hrd hnc (by omega) ⟨by rw[e1],by rw[hr.names ho hk];exact hro⟩).mono ?_;rintro e w' ⟨rfl,hap,F',F1,i,hat,hd',hf'⟩;refine⟨rfl,hap,F',hd',?_,?_⟩
  ·rw[hf']
   unfold appF;rw[if_neg ht];exact hr.put hat (by rw[ref_chg];simp [Ver.parts,Ver.bytes])
  ·have h3:=putF_len F1 i (.whole false bs)
   have h4:=hat.grows;rw[←hf',abs_len] at h3;omega
theorem rm_append_full (h:RM w B S g n M) (ho:AllOk M) (hs:Slim M) (hn:n≤700000) (nm:Name) (h0:nm.length≠0) (h1:nm.length≤64) (a:Option Addr) (c:Nat) (bs:List Int) (hrd:ReadsS w S a bs) (hnc:a=none→c=0) (hbl:bs.length≤1048576)
  {ks:List Name} (hk:NamesOf M (fun f=>f.now.there) ks) (hno:(M.at nm).now.there=false) (hfull:64≤ks.length):
  Calls Tryz.prog 41 #[.pointer (some ⟨g,0,none⟩),.string ⟨nm.toArray⟩,.slice a bs.length c] w fun e w'=>e= .returned (.int .i64 6)∧Below w.heap.size w w':=by
 obtain⟨F,hd,hr,hF⟩:=h;obtain⟨hsm,hsl⟩:=rel_small hr ho hs (by omega);exact append_full hd hsm (by omega) nm h0 h1 hsl a c bs hrd hnc hbl ⟨by rw[hr.read ho nm,if_neg (by rw[hno];decide)],by rw[hr.names ho hk];exact hfull⟩
end
end Rd
end Go.Proofs.YtalfbcbnljhldaaGreatDoor
