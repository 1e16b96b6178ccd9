/-  -/
import Derived.Test.YtalfbcbnljhldaaGreatDoorMay
namespace Go.Proofs.YtalfbcbnljhldaaGreatDoor.Wl
open Dsk
theorem Whole.sync {M:Files} {L:List (Nat×List Ent)} {E:List Ent} (h:Whole M L E):Whole (syncM M (curL L)) L E:=by
 by_cases hL:L= []
 ·subst hL;exact h
 ·obtain⟨L,x,rfl⟩: ∃L' x,L=L'++ [x]:=⟨L.dropLast,L.getLast hL,(List.dropLast_concat_getLast hL).symm⟩
  obtain⟨hx1,hx2,hx3,hx4⟩:=h.last;rw[curL_snoc];by_cases h8:8≤x.2.length
  ·have hs:syncM M ⟨x.1,x.2.length⟩=upd M (nameOf x.1) (settled (M.at (nameOf x.1)).now):=if_pos h8
   rw[hs];refine⟨segList_sync h.segs hx1 hx2,h.ne,h.ok,h.ents,fun k h1 h2 hg=>?_⟩;by_cases hk2:k=x.1
   ·subst hk2;rw[settled_now hx2] at hg;cases hg
   ·have hne2:nameOf k≠nameOf x.1:=fun e0=>hk2 (name_inj ⟨h1,h2⟩ hx1 e0)
    rw[upd_at_other _ _ hne2] at hg;rw[upd_other _ _ hne2];exact h.gone k h1 h2 hg
  ·have hs:syncM M ⟨x.1,x.2.length⟩=M:=if_neg h8
   rw[hs];exact h
theorem Whole.put_in {M:Files} {L:List (Nat×List Ent)} {x:Nat×List Ent} {E E':List Ent} (h:Whole M (L++ [x]) E) {e:Ent} (he:e.ok) (hf:follow E e=some E') (h8: ¬8≤x.2.length):Whole (putM M (curL (L++ [x])) e) (putL (L++ [x]) e) E':=by
 have hnow: ∀f:Fil,(appF f (frm e)).now.there=true:=fun f=>by
  unfold appF;split
  ·rw[app_now];assumption
  ·rw[chg_now']
 obtain⟨hx1,hx2,hx3,hx4⟩:=h.last;rw[curL_snoc];have hs:syncM M ⟨x.1,x.2.length⟩=M:=if_neg h8;have hbs:(appF (M.at (nameOf x.1)) (frm e)).now.bs=flatE (x.2++ [e]):=by
  unfold appF;rw[if_pos hx2,app_now,flatE_snoc,hx3];rfl
 have h0:=h.segs;rw[List.map_append] at h0;have hseg:=segList_last (l:=L.map fun x=>(x.1,flatE x.2)) (k:=x.1) (bs:=flatE x.2) h0 (hnow (M.at (nameOf x.1)));rw[hbs] at hseg;rw[putM,next_same (by omega) h8,putL_more e h8,hs];refine⟨by simpa using hseg,fun z hz=>?_,fun z hz=>?_,ents_snoc h.ents hf,fun k h1 h2 hg=>?_⟩
 ·rcases List.mem_append.1 hz with hz | hz
  ·exact h.ne z (by simp [hz])
  ·simp at hz;subst hz;simp
 ·rcases List.mem_append.1 hz with hz | hz
  ·exact h.ok z (by simp [hz])
  ·simp at hz;subst hz
   intro y hy;rcases List.mem_append.1 hy with hy | hy
   ·exact h.ok x (by simp) y hy
   ·simp at hy;subst hy;exact he
 ·by_cases hk1:k=x.1
  ·subst hk1;rw[upd_at,hnow] at hg;cases hg
  ·have hne:nameOf k≠nameOf x.1:=fun e0=>hk1 (name_inj ⟨h1,h2⟩ hx1 e0)
   rw[upd_at_other _ _ hne] at hg;rw[upd_other _ _ hne];exact h.gone k h1 h2 hg
theorem curL_cases {L:List (Nat×List Ent)} (h:(curL L).num=99999999): ∃L' x,L=L'++ [x]:=by
 by_cases hL:L= []
 ·subst hL;simp [curL] at h
 ·exact⟨L.dropLast,L.getLast hL,(List.dropLast_concat_getLast hL).symm⟩
theorem Whole.put' {M:Files} {L:List (Nat×List Ent)} {E E':List Ent} (h:Whole M L E) {e:Ent} (he:e.ok) (hf:follow E e=some E') (hk:(curL L).num<99999999∨(curL L).n<8):Whole (putM M (curL L) e) (putL L e) E':=by
 by_cases hk1:(curL L).num<99999999
 ·exact h.put he hf hk1
 ·have h8:(curL L).n<8:=hk.resolve_left hk1
  by_cases hL:L= []
  ·subst hL;exact absurd (by decide) hk1
  ·obtain⟨L,x,rfl⟩: ∃L' x,L=L'++ [x]:=⟨L.dropLast,L.getLast hL,(List.dropLast_concat_getLast hL).symm⟩
   rw[curL_snoc] at h8;exact h.put_in he hf (Nat.not_le_of_lt h8)
theorem Whole.next' {M:Files} {L:List (Nat×List Ent)} {E:List Ent} (h:Whole M L E) (hk:(curL L).num<99999999∨(curL L).n<8):
  (1≤(curL L).next.num∧(curL L).next.num≤99999999)∧
  (((syncM M (curL L)).at (nameOf (curL L).next.num)).now.there=true→((syncM M (curL L)).at (nameOf (curL L).next.num)).now.bs.length≤17000∧(curL L).fresh=false)∧
  ((curL L).fresh=false→((syncM M (curL L)).at (nameOf (curL L).next.num)).now.there=true):=by
 by_cases hL:L= []
 ·subst hL
  have hs:syncM M (curL [])=M:=rfl;have hn:(curL []).next=⟨1,0⟩:=next_zero 0;rw[hs,hn];have hth:(M.at (nameOf 1)).now.there=false:=by
   cases ht:(M.at (nameOf 1)).now.there with
   | false=>rfl
   | true=>have:=(h.segs.2 1 _).2 ⟨⟨by decide,by decide⟩,ht,rfl⟩;simp at this
  exact⟨by decide,(fun e=>by rw[hth] at e;cases e),fun e=>by cases e⟩
 ·obtain⟨L,x,rfl⟩: ∃L' x,L=L'++ [x]:=⟨L.dropLast,L.getLast hL,(List.dropLast_concat_getLast hL).symm⟩
  obtain⟨hx1,hx2,hx3,hx4⟩:=h.last;rw[curL_snoc] at hk ⊢;dsimp only at hk;by_cases h8:8≤x.2.length
  ·have hk1:x.1<99999999:=hk.resolve_right (by omega)
   have hs:syncM M ⟨x.1,x.2.length⟩=upd M (nameOf x.1) (settled (M.at (nameOf x.1)).now):=if_pos h8;have hne1:nameOf (x.1+1)≠nameOf x.1:=fun e0=>by
    have:=name_inj (j:=x.1+1) (k:=x.1) ⟨by omega,by omega⟩ hx1 e0;omega
   have hth:(M.at (nameOf (x.1+1))).now.there=false:=by
    cases ht:(M.at (nameOf (x.1+1))).now.there with
    | false=>rfl
    | true=>
     have hm:=(h.segs.2 (x.1+1) _).2 ⟨⟨by omega,by omega⟩,ht,rfl⟩;obtain⟨y,hy,hye⟩:=List.mem_map.1 hm;simp only[Prod.mk.injEq] at hye;rcases List.mem_append.1 hy with hy | hy
     ·have:=hx4 y hy;omega
     ·simp at hy;subst hy;omega
   rw[next_full h8,hs];dsimp only;rw[upd_at_other _ _ hne1,hth];exact⟨⟨by omega,by omega⟩,(fun e=>by cases e),fun e=>by simp [Cur.fresh,h8] at e⟩
  ·have hs:syncM M ⟨x.1,x.2.length⟩=M:=if_neg h8
   have hf0:(Cur.mk x.1 x.2.length).fresh=false:=by
    have:x.1≠0:=by omega
    simp [Cur.fresh,h8,this]
   rw[next_same (by omega) h8,hs];dsimp only;rw[hx2,←hx3];exact⟨hx1,fun _=>⟨by have:=(flatE_len (h.ok x (by simp))).2;omega,hf0⟩,fun _=>rfl⟩
theorem Inv.put {M:Files} {L:List (Nat×List Ent)} {E:List Ent} (hi:Inv M) (h:Whole M L E) {e:Ent} (he:e.ok) (hk:(curL L).num<99999999∨(curL L).n<8) (hr:Room (syncM M (curL L)) (nameOf (curL L).next.num)):Inv (putM M (curL L) e):=by
 obtain⟨h1,h2,h3⟩:=h.next' hk;refine(hi.sync (curL L)).upd (fun f hf=>?_) fun _=>hr;cases hf;exact appF_ok (hi.sync (curL L)) (by rw[name_len];decide) (frm_len he).2 (frm_range he) fun ht=>(h2 ht).1
theorem puts_exist: ∀(es:List Ent) {M:Files} {L:List (Nat×List Ent)} {E E':List Ent},Inv M→Whole M L E→(∀e∈es,e.ok)→chain E es=some E'→
  ∃er M2 L2 E2,PutsL M L es er M2 L2∧Inv M2∧Whole M2 L2 E2
 | [],M,L,E,E',hi,h,_,_=>⟨0,M,L,E,.nil M L,hi,h⟩
 | e::es,M,L,E,E',hi,h,hok,hc=>by
  cases hf:follow E e with
  | none=>simp [chain,hf] at hc
  | some E1=>
   rw[chain_cons es hf] at hc;by_cases hk:(curL L).num<99999999∨(curL L).n<8
   ·rcases(hi.sync (curL L)).room (nameOf (curL L).next.num) with hr | hr
    ·obtain⟨er,M2,L2,E2,h1,h2,h3⟩:=puts_exist es (hi.put h (hok e (by simp)) hk hr) (h.put' (hok e (by simp)) hf hk) (fun x hx=>hok x (by simp [hx])) hc
     exact⟨er,M2,L2,E2,.put hk hr h1,h2,h3⟩
    ·exact⟨6,_,L,E,.full hk hr,hi.sync _,h.sync⟩
   ·have hb:(curL L).num≤99999999:=by
     by_cases hL:L= []
     ·subst hL;simp [curL]
     ·obtain⟨L,x,rfl⟩: ∃L' x,L=L'++ [x]:=⟨L.dropLast,L.getLast hL,(List.dropLast_concat_getLast hL).symm⟩
      rw[curL_snoc];exact h.last.1.2
    exact⟨6,_,L,E,.top (by omega) (by omega),hi.sync _,h.sync⟩
theorem Whole.small {M:Files} {L:List (Nat×List Ent)} {E:List Ent} (h:Whole M L E) (hi:Inv M):L.length≤64∧ ∀x∈L,x.2.length≤2222:=by
 obtain⟨ks,hk,hl⟩:=hi.fin;constructor
 ·have h1:=congrArg List.length ((segs_of hk).one h.segs)
  have h2:(numsOf ks).length≤ks.length:=List.length_filterMap_le _ _;simp only[segsOf,List.length_map] at h1;omega
 ·intro x hx
  obtain⟨a1,a2,a3⟩:=(h.segs.2 x.1 (flatE x.2)).1 (List.mem_map.2 ⟨x,hx,rfl⟩);have h1:=(hi.at_size (nameOf x.1)).1;rw[←a3] at h1;have:=(flatE_len (h.ok x hx)).1;omega
theorem follow_some (E:List Ent) (e:Ent):(follow E e).isSome=follows (lastIx E) e.ix:=by
 unfold follow;cases h:follows (lastIx E) e.ix<;>simp
theorem chain_zero: ∀(es:List Ent) {E E':List Ent} (a:List Ent) {A:List Ent},chain E es=some E'→chain [] a=some A→(a= []∨lastIx A=lastIx E)→ ∃A',chain A es=some A'∧(es= []∨lastIx A'=lastIx E')
 | [],E,E',a,A,h,ha,hl=>⟨A,rfl,.inl rfl⟩
 | e::es,E,E',a,A,h,ha,hl=>by
  cases hf:follow E e with
  | none=>simp [chain,hf] at h
  | some E1=>
   rw[chain_cons es hf] at h;have h1:=follow_last hf;have h2:follows (lastIx A) e.ix=true:=by
    rcases hl with rfl | hl
    ·cases ha
     have:=h1.2.2;unfold follows at this ⊢;simp only[Bool.and_eq_true,decide_eq_true_eq] at this ⊢;exact⟨this.1,by simp [lastIx_nil]⟩
    ·rw[hl];exact h1.2.2
   cases hg:follow A e with
   | none=>have:=follow_some A e;rw[hg,h2] at this;cases this
   | some A1=>
    have h3:=follow_last hg;have h4:chain [] (a++ [e])=some A1:=by rw[chain_snoc e ha,hg]
    obtain⟨A',h5,h6⟩:=chain_zero es (a++ [e]) h h4 (.inr (by rw[h3.1,h1.1]));refine⟨A',by rw[chain_cons es hg];exact h5,.inr ?_⟩;rcases h6 with rfl | h6
    ·cases h;cases h5
     rw[h3.1,h1.1]
    ·exact h6
theorem Whole.drop {M:Files} {x:Nat×List Ent} {L:List (Nat×List Ent)} {E:List Ent} (h:Whole M (x::L) E): ∃E',Whole (upd M (nameOf x.1) none) L E':=by
 have hx:=(h.segs.2 x.1 (flatE x.2)).1 (by simp);obtain⟨hp1,hp2⟩:=List.pairwise_cons.1 h.segs.1;have hch: ∃E',chain [] (L.map Prod.snd).flatten=some E':=by
  have hc:=h.ents;rw[List.map_cons,List.flatten_cons] at hc;obtain⟨E1,h1,h2⟩:=chain_split _ _ _ hc;obtain⟨A',h3,_⟩:=chain_zero _ [] h2 rfl (.inl rfl);exact⟨A',h3⟩
 obtain⟨E',hE⟩:=hch;refine⟨E',⟨⟨hp2,fun k bs=>?_⟩,fun y hy=>h.ne y (by simp [hy]),fun y hy=>h.ok y (by simp [hy]),hE,fun k h1 h2 hg=>?_⟩⟩
 ·have h0:=h.segs.2 k bs
  rw[List.map_cons,List.mem_cons] at h0;by_cases hk:k=x.1
  ·subst hk
   constructor
   ·intro hm
    have:=hp1 _ hm;exact absurd this (Nat.lt_irrefl _)
   ·rintro⟨_,ht,_⟩
    simp [Files.at,upd,Fil.zero,Fil.now,Ver.zero] at ht
  ·constructor
   ·intro hm
    obtain⟨a1,a2,a3⟩:=h0.1 (.inr hm);have hne:nameOf k≠nameOf x.1:=fun e=>hk (name_inj a1 hx.1 e);rw[upd_at_other _ _ hne];exact⟨a1,a2,a3⟩
   ·rintro⟨a1,a2,a3⟩
    have hne:nameOf k≠nameOf x.1:=fun e=>hk (name_inj a1 hx.1 e);rw[upd_at_other _ _ hne] at a2 a3;rcases h0.2 ⟨a1,a2,a3⟩ with e | e
    ·simp only[Prod.mk.injEq] at e
     exact absurd e.1 hk
    ·exact e
 ·by_cases hk:k=x.1
  ·subst hk;rw[upd_same]
  ·have hne:nameOf k≠nameOf x.1:=fun e=>hk (name_inj ⟨h1,h2⟩ hx.1 e)
   rw[upd_at_other _ _ hne] at hg;rw[upd_other _ _ hne];exact h.gone k h1 h2 hg
end Go.Proofs.YtalfbcbnljhldaaGreatDoor.Wl

namespace Go.Proofs.YtalfbcbnljhldaaGreatDoor
open Go.RowKit Go.Maps Dsk Rd Wl
namespace Rl
def logOf (L:List SV):List (Nat×List Ent):=L.map fun s=>(s.n,s.l.map Prod.fst)
theorem logOf_append (a b:List SV):logOf (a++b)=logOf a++logOf b:=by simp [logOf]
theorem logOf_flat (L:List SV):((logOf L).map Prod.snd).flatten=(recsOf L).map Prod.fst:=by
 unfold logOf recsOf;rw[List.map_map,List.map_flatten,List.map_map];rfl
theorem logOf_len (L:List SV):(logOf L).length=L.length:=by simp [logOf]
structure RS (w:World) (B n h g:Nat) (S T K:Nat→Prop) (M:Files) (L:List SV):Prop where
 log:LogT w T K h g L
 disk:RM w B S g n M
 sS: ∀k,S k→k<w.heap.size
 sT: ∀k,T k→k<w.heap.size∧ ¬S k
 sK: ∀k,K k→k<w.heap.size∧ ¬S k∧ ¬T k
structure Mv (S T K:Nat→Prop) (w w':World) (S' T' K':Nat→Prop):Prop where
 ap:Rd.Apart (fun k=>S k∨T k) w w'
 s: ∀k,S' k→Rd.More S w w' k
 t: ∀k,T' k→Rd.More T w w' k
 k: ∀k,K k→K' k
 k2: ∀k,K' k→Rd.More K w w' k
section
variable {w w' w'':World} {B n n' h g:Nat} {S T K S' T' K' S'' T'' K'':Nat→Prop} {M M':Files} {L:List SV}
theorem more_trans {S S':Nat→Prop} {a b c:World} {k:Nat} (h1: ∀k,S' k→Rd.More S a b k) (hab:a.heap.size≤b.heap.size) (hbc:b.heap.size≤c.heap.size) (hk:Rd.More S' b c k):Rd.More S a c k:=by
 rcases hk with hk | ⟨k1,k2⟩
 ·rcases h1 k hk with h2 | ⟨h2,h3⟩
  ·exact .inl h2
  ·exact .inr ⟨h2,Nat.lt_of_lt_of_le h3 hbc⟩
 ·exact .inr ⟨Nat.le_trans hab k1,k2⟩
theorem Mv.refl (S T K:Nat→Prop) (w:World):Mv S T K w w S T K:=⟨Rd.Apart.refl _ _,fun _ h=> .inl h,fun _ h=> .inl h,fun _ h=>h,fun _ h=> .inl h⟩
theorem Mv.of_below (hb:Below w.heap.size w w'):Mv S T K w w' S T K:=⟨Rd.Apart.of_below hb,fun _ h=> .inl h,fun _ h=> .inl h,fun _ h=>h,fun _ h=> .inl h⟩
theorem Mv.trans (a:Mv S T K w w' S' T' K') (b:Mv S' T' K' w' w'' S'' T'' K''):Mv S T K w w'' S'' T'' K'' where
 ap:=a.ap.trans b.ap fun k hk hx=>by
  rcases hx with hx | hx
  ·rcases a.s k hx with h1 | ⟨h1,_⟩
   ·exact .inl h1
   ·omega
  ·rcases a.t k hx with h1 | ⟨h1,_⟩
   ·exact .inr h1
   ·omega
 s:=fun k hk=>more_trans a.s a.ap.size b.ap.size (b.s k hk)
 t:=fun k hk=>more_trans a.t a.ap.size b.ap.size (b.t k hk)
 k:=fun k hk=>b.k k (a.k k hk)
 k2:=fun k hk=>more_trans a.k2 a.ap.size b.ap.size (b.k2 k hk)
theorem RS.below (r:RS w B n h g S T K M L) (hb:Below w.heap.size w w'):RS w' B n h g S T K M L where
 log:=r.log.keep hb.size (fun k hk=>hb.block k (r.sT k hk).1) fun k hk=>hb.block k (r.sK k hk).1
 disk:=r.disk.below hb
 sS:=fun k hk=>Nat.lt_of_lt_of_le (r.sS k hk) hb.size
 sT:=fun k hk=>⟨Nat.lt_of_lt_of_le (r.sT k hk).1 hb.size,(r.sT k hk).2⟩
 sK:=fun k hk=>⟨Nat.lt_of_lt_of_le (r.sK k hk).1 hb.size,(r.sK k hk).2⟩
theorem RS.disked (r:RS w B n h g S T K M L) (ha:Rd.Apart S w w') (hd:RM w' B S' g n' M') (hs: ∀k,S' k→Rd.More S w w' k) (hs2: ∀k,S' k→k<w'.heap.size):RS w' B n' h g S' T K M' L∧Mv S T K w w' S' T K:=by
 have hno: ∀k,k<w.heap.size→ ¬S k→ ¬S' k:=fun k hk hn hx=>by
  rcases hs k hx with h1 | ⟨h1,_⟩
  ·exact hn h1
  ·omega
 refine⟨⟨r.log.keep ha.size (fun k hk=>ha.block k (r.sT k hk).1 (r.sT k hk).2) fun k hk=>ha.block k (r.sK k hk).1 (r.sK k hk).2.1,hd,hs2,fun k hk=>?_,fun k hk=>?_⟩,⟨⟨ha.os,ha.tape,ha.output,ha.size,fun k hk hn=>ha.block k hk fun e=>hn (.inl e)⟩,hs,fun _ h=> .inl h,fun _ h=>h,fun _ h=> .inl h⟩⟩
 ·exact⟨Nat.lt_of_lt_of_le (r.sT k hk).1 ha.size,hno k (r.sT k hk).1 (r.sT k hk).2⟩
 ·exact⟨Nat.lt_of_lt_of_le (r.sK k hk).1 ha.size,hno k (r.sK k hk).1 (r.sK k hk).2.1,(r.sK k hk).2.2⟩
theorem RS.logged {L':List SV} (r:RS w B n h g S T K M L) (ha:Rd.Apart T w w') (hl:LogT w' T' K' h g L') (ht: ∀k,T' k→Rd.More T w w' k) (hk: ∀k,K k→K' k) (hk2: ∀k,K' k→Rd.More K w w' k) (ht2: ∀k,T' k→k<w'.heap.size) (hk3: ∀k,K' k→k<w'.heap.size∧ ¬T' k):RS w' B n h g S T' K' M L'∧Mv S T K w w' S T' K':=by
 refine⟨⟨hl,RM.kept r.disk ha.size fun k hs=>ha.block k (r.sS k hs) fun e=>(r.sT k e).2 hs,fun k hs=>Nat.lt_of_lt_of_le (r.sS k hs) ha.size,fun k hx=>⟨ht2 k hx,fun hs=>?_⟩,fun k hx=>⟨(hk3 k hx).1,fun hs=>?_,(hk3 k hx).2⟩⟩,⟨⟨ha.os,ha.tape,ha.output,ha.size,fun k hk hn=>ha.block k hk fun e=>hn (.inr e)⟩,fun _ h=> .inl h,ht,hk,hk2⟩⟩
 ·rcases ht k hx with h1 | ⟨h1,_⟩
  ·exact(r.sT k h1).2 hs
  ·have:=r.sS k hs;omega
 ·rcases hk2 k hx with h1 | ⟨h1,_⟩
  ·exact(r.sK k h1).2.1 hs
  ·have:=r.sS k hs;omega
theorem RM.lt (d:RM w B S g n M): ∀k,S k→k<w.heap.size:=fun k hk=>by
 obtain⟨F,h1,_⟩:=d;exact(h1.hS k hk).2
theorem RM.le (d:RM w B S g n M) (hn:n≤n'):RM w B S g n' M:=by
 obtain⟨F,h1,h2,h3⟩:=d;exact⟨F,h1,h2,Nat.le_trans h3 hn⟩
theorem RS.le (r:RS w B n h g S T K M L) (hn:n≤n'):RS w B n' h g S T K M L:=⟨r.log,RM.le r.disk hn,r.sS,r.sT,r.sK⟩
theorem inv_ok (hi:Inv M):AllOk M:=fun n f hf=>(hi.file n f hf).ok
theorem inv_slim (hi:Inv M):Slim M:=fun n f hf=>by have:=(hi.file n f hf).few;omega
theorem RowT.last {sv:Value} {s:SV} (t:RowT w T h sv (L++ [s])): ∃q o c cur,sv= .slice (some ⟨q,o,none⟩) (L++ [s]).length c∧T q∧q≠h∧w.heap[q]?=some (.cells cur 79 (0,0))∧w.cell? ⟨q,o+L.length*2,none⟩=some (.int .i64 (s.n:Int))∧w.cell? ⟨q,o+L.length*2+1,none⟩=some s.v:=by
 rcases t with⟨_,e⟩ | ⟨q,o,c,cur,h1,h2,h3,h4,h5,h6,h7,h8⟩
 ·simp at e
 ·obtain⟨k1,k2⟩:=segCells_at (L++ [s]) L.length (by simp)
  have e:(L++ [s])[L.length]'(by simp)=s:=by simp
  rw[e] at k1 k2;refine⟨q,o,c,cur,h1,h2,h3,h4,?_,?_⟩
  ·rw[cell_of_row _ _ _ _ _ _ h4]
   exact h8 _ _ k1
  ·rw[Nat.add_assoc,cell_of_row _ _ _ _ _ _ h4]
   exact h8 _ _ k2
end
end Rl
end Go.Proofs.YtalfbcbnljhldaaGreatDoor

namespace Go.Proofs.YtalfbcbnljhldaaGreatDoor
open Go.RowKit Go.Maps Dsk Rd Wl
namespace Rl
theorem recs_small {L:List SV} {m:Nat} (h: ∀s∈L,s.l.length≤m):(recsOf L).length≤L.length*m:=by
 induction L with
 | nil=>simp [recsOf]
 | cons s L ih=>
  have h1:=h s (by simp);have h2:=ih fun x hx=>h x (by simp [hx]);have h3:recsOf (s::L)=s.l++recsOf L:=by simp [recsOf]
  rw[h3,List.length_append,List.length_cons,Nat.succ_mul];omega
theorem whole_small {M:Files} {L:List SV} {E:List Ent} (h:Whole M (logOf L) E) (hi:Inv M):L.length≤64∧(∀s∈L,s.l.length≤2222)∧(recsOf L).length≤142208:=by
 obtain⟨h1,h2⟩:=h.small hi;rw[logOf_len] at h1;have h3: ∀s∈L,s.l.length≤2222:=fun s hs=>by
  have:=h2 (s.n,s.l.map Prod.fst) (List.mem_map.2 ⟨s,hs,rfl⟩);simpa using this
 refine⟨h1,h3,?_⟩;have:=recs_small h3;have:=Nat.mul_le_mul_right 2222 h1;omega
theorem segk_mv {w w':World} {S T K S' T' K':Nat→Prop} {s:SV} (h:SegK w K s) (hm:Mv S T K w w' S' T' K') (hk: ∀k,K k→k<w.heap.size∧ ¬S k∧ ¬T k):SegK w' K' s:=
 (h.keep hm.ap.size fun k e=>hm.ap.block k (hk k e).1 fun x=>x.elim (hk k e).2.1 (hk k e).2.2).mono hm.k
set_option maxRecDepth 1000000 in
set_option maxHeartbeats 16000000 in
theorem tail_rs (v2 v3 v4 v5 v6 v7 v9 v10 v11 v12 v14 v15 v16 v17 v18 v19 v20 v21 v22 v23 v24 v25 v26 v27 v28 v29 v30 v31 v32 v33 v34 v35 v36 v37 v38 v39 v40 v41 v42 v43 v44 v45 v46 v47 v48 v49 v50 v51 v52 v53 v54 v55 v56 v57 v58 v59 v60 v61 v62 v63 v64 v65 v66 v67 v68 v69 v70 v71 v72 v73 v74 v75 v76 v77 v78 v79 v80 v81 v82 v83 v84 v85 v86 v87 v88 v89 v90 v91 v92 v93 v94 v95 v96 v97 v98 v99 v100 v101 v102 v103 v104 v105 v106 v107 v108 v109 v110 v111 v112 v113 v114 v115 v116 v117 v118 v119 v120 v121 v122 v123 v124 v125 v126 v127 v128 v129 v130 v131 v132 v133 v134 v135 v136 v137 v138 v139 v140 v141 v142 v143 v144 v145 v146 v147 v148 v149 v150 v151 v152 v153 v154:Value) {Q:Exit→Act→World→Prop} {wx:World} {B n h g eg eo ec i k:Nat} {S T K:Nat→Prop} {M:Files} {Lp:List SV} {s:SV} {es:List EV} {en:Nat}
  (r:RS wx B n h g S T K M (Lp++ [s])) (hes:SegK wx K ⟨0,.slice (some ⟨eg,eo,none⟩) en ec,es⟩) (hin:i<es.length) (hen:es.length≤1000) (hk:k=Lp.length) (hLp:Lp.length≤1000) (hsl:s.l.length≤100000)
  (hpn: ∀c0 t0 t1 d w0,Q (.panic c0) ⟨t0,d⟩ w0→Q (.panic c0) ⟨t1,d⟩ w0)
  (hq: ∀(y132 y133 y134 y135 y136 y137 y138 y139 y140 y141 y142 y143 y144 y145 y146 y147 y148 y149 y150 y151 y152 y153 y154:Value) (wz:World) (v':Value) (K':Nat→Prop),RS wz B n h g S T K' M (Lp++ [⟨s.n,v',s.l++ [es[i]]⟩])→Mv S T K wx wz S T K'→Q .normal ⟨#[.pointer (some ⟨h,0,none⟩),.slice (some ⟨eg,eo,none⟩) en ec,v2,v3,v4,v5,v6,v7,.int .i64 (i:Int),v9,v10,v11,v12,.int .i64 (k:Int),v14,v15,v16,v17,v18,v19,v20,v21,v22,v23,v24,v25,v26,v27,v28,v29,v30,v31,v32,v33,v34,v35,v36,v37,v38,v39,v40,v41,v42,v43,v44,v45,v46,v47,v48,v49,v50,v51,v52,v53,v54,v55,v56,v57,v58,v59,v60,v61,v62,v63,v64,v65,v66,v67,v68,v69,v70,v71,v72,v73,v74,v75,v76,v77,v78,v79,v80,v81,v82,v83,v84,v85,v86,v87,v88,v89,v90,v91,v92,v93,v94,v95,v96,v97,v98,v99,v100,v101,v102,v103,v104,v105,v106,v107,v108,v109,v110,v111,v112,v113,v114,v115,v116,v117,v118,v119,v120,v121,v122,v123,v124,v125,v126,v127,v128,v129,v130,v131,y132,y133,y134,y135,y136,y137,y138,y139,y140,y141,y142,y143,y144,y145,y146,y147,y148,y149,y150,y151,y152,y153,y154],[]⟩ wz):
  Code.wp Tryz.prog (rgnA 31) Q ⟨#[.pointer (some ⟨h,0,none⟩),.slice (some ⟨eg,eo,none⟩) en ec,v2,v3,v4,v5,v6,v7,.int .i64 (i:Int),v9,v10,v11,v12,.int .i64 (k:Int),v14,v15,v16,v17,v18,v19,v20,v21,v22,v23,v24,v25,v26,v27,v28,v29,v30,v31,v32,v33,v34,v35,v36,v37,v38,v39,v40,v41,v42,v43,v44,v45,v46,v47,v48,v49,v50,v51,v52,v53,v54,v55,v56,v57,v58,v59,v60,v61,v62,v63,v64,v65,v66,v67,v68,v69,v70,v71,v72,v73,v74,v75,v76,v77,v78,v79,v80,v81,v82,v83,v84,v85,v86,v87,v88,v89,v90,v91,v92,v93,v94,v95,v96,v97,v98,v99,v100,v101,v102,v103,v104,v105,v106,v107,v108,v109,v110,v111,v112,v113,v114,v115,v116,v117,v118,v119,v120,v121,v122,v123,v124,v125,v126,v127,v128,v129,v130,v131,v132,v133,v134,v135,v136,v137,v138,v139,v140,v141,v142,v143,v144,v145,v146,v147,v148,v149,v150,v151,v152,v153,v154],[]⟩ wx:=by
 obtain⟨a,c,hv,⟨eg',eo',ha,hcell⟩,-,hfi,hbo⟩:=hes;dsimp only at hv ha hcell hfi hbo;have hne:es≠ []:=fun e=>by rw[e] at hin;simp at hin
 have ha':=ha hne;subst ha';cases hv;obtain⟨sv,hwal,hrow⟩:=r.log.wal;obtain⟨q,o,c1,cur,hsv,hTq,hqh,hcur,hs0,hs1⟩:=hrow.last;subst hsv;obtain⟨sa,sc,hsv2,⟨g2,o2,hsa,hscell⟩,hsn,hsfi,-⟩:=r.log.segs s (by simp);rw[hsv2] at hs1;obtain⟨e0,e1,e2⟩:=pcells_at es i hin;have k0:=hcell _ _ e0;have k1:=hcell _ _ e1;have k2:=hcell _ _ e2;have hp0:=hfi es[i] (List.getElem_mem hin);obtain⟨pa,pc,hpv,hpna,hprd,hpk⟩:=hbo es[i] (List.getElem_mem hin);obtain⟨P,hP⟩: ∃P,P=es[i]:=⟨_,rfl⟩;rw[←hP] at k0 k1 k2 hp0 hpv hprd hpk hq;obtain⟨⟨px,pt,pb⟩,pv⟩:=P;dsimp only at k0 k1 k2 hp0 hpv hprd hpk;subst hpv;have hfp:Fine [((⟨px,pt,pb⟩,.slice pa pb.length pc):EV)]:=fun x hx=>by
  have e:x=((⟨px,pt,pb⟩,.slice pa pb.length pc):EV):=by simpa using hx
  rw[e];exact hp0
 have hll:(Lp++ [s]).length=Lp.length+1:=by simp
 subst hk;have hh:wx.cell? ⟨h,1,none⟩=some (.slice (some ⟨q,o,none⟩) (Lp++ [s]).length c1):=by rw[cell_of_row _ _ _ _ _ _ hwal];rfl
 refine tail_wp _ _ _ _ _ _ _ _ _ _ _ _ _ _ _ _ _ _ _ _ _ _ _ _ _ _ _ _ _ _ _ _ _ _ _ _ _ _ _ _ _ _ _ _ _ _ _ _ _ _ _ _ _ _ _ _ _ _ _ _ _ _ _ _ _ _ _ _ _ _ _ _ _ _ _ _ _ _ _ _ _ _ _ _ _ _ _ _ _ _ _ _ _ _ _ _ _ _ _ _ _ _ _ _ _ _ _ _ _ _ _ _ _ _ _ _ _ _ _ _ _ _ _ _ _ _ _ _ _ _ _ _ _ _ _ _ _ _ _ _ _ _ _ _ _ _ _ _ _ _ _ (q:=q) (o:=o) (n:=(Lp++ [s]).length) (c:=c1) (sa:=sa) (sl:=s.l.length) (sc:=sc) (px:=px) (pt:=pt) (pb:=pb) (pa:=pa) (pn:=pb.length) (pc:=pc) (l:=s.l) (cur:=cur) ⟨hh,hs1,k0.2.2,by rw[Nat.add_assoc];exact k1.2.2,by rw[Nat.add_assoc];exact k2.2.2⟩ ⟨⟨g2,o2,hsa,fun j u hu=>(hscell j u hu).2⟩,rfl,hsn,hsfi,by omega⟩ hfp hcur (by omega) (by omega) hin (by omega) hpn ?_;intro y132 y133 y134 y135 y136 y137 y138 y139 y140 y141 y142 y143 y144 y145 y146 y147 y148 y149 y150 y151 y152 y153 y154 wz v' hb hrp;have hb0:BodyK wx K ((⟨px,pt,pb⟩,.slice pa pb.length pc):EV):=⟨pa,pc,rfl,hpna,hprd,hpk⟩;obtain⟨hl2,hap2⟩:=r.log.push (fun k hk=>(r.sK k hk).2.2) (fun k hk=>(r.sK k hk).1) (fun k hk=>(r.sT k hk).1) hwal hb hrp hb0 hfp;have hz:(wz.setCell ⟨q,o+Lp.length*2+1,none⟩ v').heap.size=wz.heap.size:=by simp [World.setCell]
 have hbz:=hb.size;obtain⟨hr2,hm2⟩:=r.logged hap2 hl2 (fun k hk=> .inl hk) (fun k hk=> .inl hk) (fun k hk=>hk.elim .inl fun e=> .inr ⟨e.1,by rw[hz];exact e.2⟩) (fun k hk=>by have:=(r.sT k hk).1;omega) (fun k hk=>by
  rcases hk with hk | ⟨h1,h2⟩
  ·exact⟨by have:=(r.sK k hk).1;omega,(r.sK k hk).2.2⟩
  ·exact⟨by omega,fun ht=>by have:=(r.sT k ht).1;omega⟩)
 exact hq y132 y133 y134 y135 y136 y137 y138 y139 y140 y141 y142 y143 y144 y145 y146 y147 y148 y149 y150 y151 y152 y153 y154 _ v' _ hr2 hm2
end Rl
end Go.Proofs.YtalfbcbnljhldaaGreatDoor

namespace Go.Proofs.YtalfbcbnljhldaaGreatDoor
open Go.RowKit Go.Maps Go.Sort Dsk Rd Wl
namespace Rl
theorem RS.cell0 {w:World} {B n h g:Nat} {S T K:Nat→Prop} {M:Files} {L:List SV} (r:RS w B n h g S T K M L):w.cell? ⟨h,0,none⟩=some (.pointer (some ⟨g,0,none⟩)):=by
 obtain⟨sv,h1,_⟩:=r.log.wal;rw[cell_of_row _ _ _ _ _ _ h1];rfl
set_option maxRecDepth 1000000 in
set_option maxHeartbeats 16000000 in
theorem sync_rs (v1 v2 v3 v4 v5 v6 v7 v8 v9 v10 v11 v12 v13 v15 v16 v17 v18 v19 v20 v21 v22 v23 v24 v25 v26 v27 v28 v29 v30 v31 v32 v33 v34 v35 v36 v37 v38 v39 v40 v41 v42 v43 v44 v45 v46 v47 v48 v49 v50 v51 v52 v53 v54 v55 v56 v57 v58 v59 v60 v61 v62 v63 v64 v65 v66 v67 v68 v69 v70 v71 v72 v73 v74 v75 v76 v77 v78 v79 v80 v81 v82 v83 v84 v85 v86 v87 v88 v89 v90 v91 v92 v93 v94 v95 v96 v97 v98 v99 v100 v101 v102 v103 v104 v105 v106 v107 v108 v109 v110 v111 v112 v113 v114 v115 v116 v117 v118 v119 v120 v121 v122 v123 v124 v125 v126 v127 v128 v129 v130 v131 v132 v133 v134 v135 v136 v137 v138 v139 v140 v141 v142 v143 v144 v145 v146 v147 v148 v149 v150 v151 v152 v153 v154:Value) {Q:Exit→Act→World→Prop} {wx:World} {B n h g sn:Nat} {S T K:Nat→Prop} {M:Files} {L:List SV}
  (r:RS wx B n h g S T K M L) (hi:Inv M) (hn:n≤600000) (hnum:sn≤99999999) (hm:(M (nameOf sn)).isSome=true) (hpn: ∀c0 t0 t1 d w0,Q (.panic c0) ⟨t0,d⟩ w0→Q (.panic c0) ⟨t1,d⟩ w0)
  (hq: ∀(y96 y97 y98 y99 y100 y101 y102:Value) (wz:World) (S':Nat→Prop),RS wz B n h g S' T K (upd M (nameOf sn) (settled (M.at (nameOf sn)).now)) L→Mv S T K wx wz S' T K→(∀a zs,ReadsS wx S a zs→ReadsS wz S' a zs)→Q .normal ⟨#[.pointer (some ⟨h,0,none⟩),v1,v2,v3,v4,v5,v6,v7,v8,v9,v10,v11,v12,v13,.int .i64 (sn:Int),v15,v16,v17,v18,v19,v20,v21,v22,v23,v24,v25,v26,v27,v28,v29,v30,v31,v32,v33,v34,v35,v36,v37,v38,v39,v40,v41,v42,v43,v44,v45,v46,v47,v48,v49,v50,v51,v52,v53,v54,v55,v56,v57,v58,v59,v60,v61,v62,v63,v64,v65,v66,v67,v68,v69,v70,v71,v72,v73,v74,v75,v76,v77,v78,v79,v80,v81,v82,v83,v84,v85,v86,v87,v88,v89,v90,v91,v92,v93,v94,v95,y96,y97,y98,y99,y100,y101,y102,v103,v104,v105,v106,v107,v108,v109,v110,v111,v112,v113,v114,v115,v116,v117,v118,v119,v120,v121,v122,v123,v124,v125,v126,v127,v128,v129,v130,v131,v132,v133,v134,v135,v136,v137,v138,v139,v140,v141,v142,v143,v144,v145,v146,v147,v148,v149,v150,v151,v152,v153,v154],[]⟩ wz):
  Code.wp Tryz.prog (rgnA 21) Q ⟨#[.pointer (some ⟨h,0,none⟩),v1,v2,v3,v4,v5,v6,v7,v8,v9,v10,v11,v12,v13,.int .i64 (sn:Int),v15,v16,v17,v18,v19,v20,v21,v22,v23,v24,v25,v26,v27,v28,v29,v30,v31,v32,v33,v34,v35,v36,v37,v38,v39,v40,v41,v42,v43,v44,v45,v46,v47,v48,v49,v50,v51,v52,v53,v54,v55,v56,v57,v58,v59,v60,v61,v62,v63,v64,v65,v66,v67,v68,v69,v70,v71,v72,v73,v74,v75,v76,v77,v78,v79,v80,v81,v82,v83,v84,v85,v86,v87,v88,v89,v90,v91,v92,v93,v94,v95,v96,v97,v98,v99,v100,v101,v102,v103,v104,v105,v106,v107,v108,v109,v110,v111,v112,v113,v114,v115,v116,v117,v118,v119,v120,v121,v122,v123,v124,v125,v126,v127,v128,v129,v130,v131,v132,v133,v134,v135,v136,v137,v138,v139,v140,v141,v142,v143,v144,v145,v146,v147,v148,v149,v150,v151,v152,v153,v154],[]⟩ wx:=by
 refine sync_wp _ _ _ _ _ _ _ _ _ _ _ _ _ _ _ _ _ _ _ _ _ _ _ _ _ _ _ _ _ _ _ _ _ _ _ _ _ _ _ _ _ _ _ _ _ _ _ _ _ _ _ _ _ _ _ _ _ _ _ _ _ _ _ _ _ _ _ _ _ _ _ _ _ _ _ _ _ _ _ _ _ _ _ _ _ _ _ _ _ _ _ _ _ _ _ _ _ _ _ _ _ _ _ _ _ _ _ _ _ _ _ _ _ _ _ _ _ _ _ _ _ _ _ _ _ _ _ _ _ _ _ _ _ _ _ _ _ _ _ _ _ _ _ _ _ _ _ _ _ _ _ _ _ r.disk (inv_ok hi) (inv_slim hi) (by omega) r.cell0 (fun e=>(r.sT h r.log.th).2 e) hnum hm hpn ?_;intro y96 y97 y98 y99 y100 y101 y102 wz S' hap hrm hs;obtain⟨r2,m2⟩:=r.disked hap hrm hs (RM.lt hrm);exact hq y96 y97 y98 y99 y100 y101 y102 wz S' r2 m2 fun a zs hrd=>hrd.ex ⟨hap,hs⟩
set_option maxRecDepth 1000000 in
set_option maxHeartbeats 16000000 in
theorem app_rs (v1 v2 v3 v4 v5 v6 v7 v8 v9 v10 v12 v13 v15 v16 v17 v18 v19 v20 v21 v22 v23 v24 v25 v26 v27 v28 v29 v30 v31 v32 v33 v34 v35 v36 v37 v38 v39 v40 v41 v42 v43 v44 v45 v46 v47 v48 v49 v50 v51 v52 v53 v54 v55 v56 v57 v58 v59 v60 v61 v62 v63 v64 v65 v66 v67 v68 v69 v70 v71 v72 v73 v74 v75 v76 v77 v78 v79 v80 v81 v82 v83 v84 v85 v86 v87 v88 v89 v90 v91 v92 v93 v94 v95 v96 v97 v98 v99 v100 v101 v102 v103 v104 v105 v106 v107 v108 v109 v110 v111 v112 v113 v114 v115 v116 v117 v118 v119 v120 v121 v122 v123 v124 v125 v126 v127 v128 v129 v130 v131 v132 v133 v134 v135 v136 v137 v138 v139 v140 v141 v142 v143 v144 v145 v146 v147 v148 v149 v150 v151 v152 v153 v154:Value) {Q:Exit→Act→World→Prop} {wx:World} {B n h g sn:Nat} {S T K:Nat→Prop} {M:Files} {L:List SV} {ba:Option Addr} {bc:Nat} {bs:List Int}
  (r:RS wx B n h g S T K M L) (hi:Inv M) (hn:n≤600000) (hnum:sn≤99999999) (hrd:ReadsS wx S ba bs) (hnc:ba=none→bc=0) (hbl:bs.length≤2050) (hsz:(M.at (nameOf sn)).now.there=true→(M.at (nameOf sn)).now.bs.length≤17000) (hroom:Room M (nameOf sn)) (hpn: ∀c0 t0 t1 d w0,Q (.panic c0) ⟨t0,d⟩ w0→Q (.panic c0) ⟨t1,d⟩ w0)
  (hq: ∀(y107 y108 y109 y110 y111 y112 y113:Value) (wz:World) (S':Nat→Prop),RS wz B (n+1) h g S' T K (upd M (nameOf sn) (some (appF (M.at (nameOf sn)) bs))) L→Mv S T K wx wz S' T K→Q .normal ⟨#[.pointer (some ⟨h,0,none⟩),v1,v2,v3,v4,v5,v6,v7,v8,v9,v10,.slice ba bs.length bc,v12,v13,.int .i64 (sn:Int),v15,.int .i64 0,v17,v18,v19,v20,v21,v22,v23,v24,v25,v26,v27,v28,v29,v30,v31,v32,v33,v34,v35,v36,v37,v38,v39,v40,v41,v42,v43,v44,v45,v46,v47,v48,v49,v50,v51,v52,v53,v54,v55,v56,v57,v58,v59,v60,v61,v62,v63,v64,v65,v66,v67,v68,v69,v70,v71,v72,v73,v74,v75,v76,v77,v78,v79,v80,v81,v82,v83,v84,v85,v86,v87,v88,v89,v90,v91,v92,v93,v94,v95,v96,v97,v98,v99,v100,v101,v102,v103,v104,v105,v106,y107,y108,y109,y110,y111,y112,y113,.int .i64 0,v115,v116,v117,v118,v119,v120,v121,v122,v123,v124,v125,v126,v127,v128,v129,v130,v131,v132,v133,v134,v135,v136,v137,v138,v139,v140,v141,v142,v143,v144,v145,v146,v147,v148,v149,v150,v151,v152,v153,v154],[]⟩ wz):
  Code.wp Tryz.prog (rgnA 25) Q ⟨#[.pointer (some ⟨h,0,none⟩),v1,v2,v3,v4,v5,v6,v7,v8,v9,v10,.slice ba bs.length bc,v12,v13,.int .i64 (sn:Int),v15,v16,v17,v18,v19,v20,v21,v22,v23,v24,v25,v26,v27,v28,v29,v30,v31,v32,v33,v34,v35,v36,v37,v38,v39,v40,v41,v42,v43,v44,v45,v46,v47,v48,v49,v50,v51,v52,v53,v54,v55,v56,v57,v58,v59,v60,v61,v62,v63,v64,v65,v66,v67,v68,v69,v70,v71,v72,v73,v74,v75,v76,v77,v78,v79,v80,v81,v82,v83,v84,v85,v86,v87,v88,v89,v90,v91,v92,v93,v94,v95,v96,v97,v98,v99,v100,v101,v102,v103,v104,v105,v106,v107,v108,v109,v110,v111,v112,v113,v114,v115,v116,v117,v118,v119,v120,v121,v122,v123,v124,v125,v126,v127,v128,v129,v130,v131,v132,v133,v134,v135,v136,v137,v138,v139,v140,v141,v142,v143,v144,v145,v146,v147,v148,v149,v150,v151,v152,v153,v154],[]⟩ wx:=by
 obtain⟨ks0,hk0,_⟩:=hi.fin;refine app_wp _ _ _ _ _ _ _ _ _ _ _ _ _ _ _ _ _ _ _ _ _ _ _ _ _ _ _ _ _ _ _ _ _ _ _ _ _ _ _ _ _ _ _ _ _ _ _ _ _ _ _ _ _ _ _ _ _ _ _ _ _ _ _ _ _ _ _ _ _ _ _ _ _ _ _ _ _ _ _ _ _ _ _ _ _ _ _ _ _ _ _ _ _ _ _ _ _ _ _ _ _ _ _ _ _ _ _ _ _ _ _ _ _ _ _ _ _ _ _ _ _ _ _ _ _ _ _ _ _ _ _ _ _ _ _ _ _ _ _ _ _ _ _ _ _ _ _ _ _ _ _ _ r.disk (inv_ok hi) (inv_slim hi) (by omega) r.cell0 (fun e=>(r.sT h r.log.th).2 e) hnum hrd hnc hk0 ?_ ?_ hpn ?_
 ·split
  ·have:=hsz (by assumption);omega
  ·omega
 ·rcases hroom with h1 | ⟨ks,h1,h2⟩
  ·exact .inl h1
  ·have:=NamesOf.one hk0 h1
   subst this;exact .inr h2
 ·intro y107 y108 y109 y110 y111 y112 y113 wz S' hap hrm hs
  obtain⟨r2,m2⟩:=r.disked hap hrm hs (RM.lt hrm);exact hq y107 y108 y109 y110 y111 y112 y113 wz S' r2 m2
set_option maxRecDepth 1000000 in
set_option maxHeartbeats 16000000 in
theorem app_full_rs (v1 v2 v3 v4 v5 v6 v7 v8 v9 v10 v12 v13 v15 v16 v17 v18 v19 v20 v21 v22 v23 v24 v25 v26 v27 v28 v29 v30 v31 v32 v33 v34 v35 v36 v37 v38 v39 v40 v41 v42 v43 v44 v45 v46 v47 v48 v49 v50 v51 v52 v53 v54 v55 v56 v57 v58 v59 v60 v61 v62 v63 v64 v65 v66 v67 v68 v69 v70 v71 v72 v73 v74 v75 v76 v77 v78 v79 v80 v81 v82 v83 v84 v85 v86 v87 v88 v89 v90 v91 v92 v93 v94 v95 v96 v97 v98 v99 v100 v101 v102 v103 v104 v105 v106 v107 v108 v109 v110 v111 v112 v113 v114 v115 v116 v117 v118 v119 v120 v121 v122 v123 v124 v125 v126 v127 v128 v129 v130 v131 v132 v133 v134 v135 v136 v137 v138 v139 v140 v141 v142 v143 v144 v145 v146 v147 v148 v149 v150 v151 v152 v153 v154:Value) {Q:Exit→Act→World→Prop} {wx:World} {B n h g sn:Nat} {S T K:Nat→Prop} {M:Files} {L:List SV} {ba:Option Addr} {bc:Nat} {bs:List Int}
  (r:RS wx B n h g S T K M L) (hi:Inv M) (hn:n≤600000) (hnum:sn≤99999999) (hrd:ReadsS wx S ba bs) (hnc:ba=none→bc=0) (hbl:bs.length≤2050) (hfull:Full M (nameOf sn)) (hpn: ∀c0 t0 t1 d w0,Q (.panic c0) ⟨t0,d⟩ w0→Q (.panic c0) ⟨t1,d⟩ w0)
  (hq: ∀(y107 y108 y109 y110 y111 y112 y113:Value) (wz:World),Below wx.heap.size wx wz→Q .normal ⟨#[.pointer (some ⟨h,0,none⟩),v1,v2,v3,v4,v5,v6,v7,v8,v9,v10,.slice ba bs.length bc,v12,v13,.int .i64 (sn:Int),v15,.int .i64 6,v17,v18,v19,v20,v21,v22,v23,v24,v25,v26,v27,v28,v29,v30,v31,v32,v33,v34,v35,v36,v37,v38,v39,v40,v41,v42,v43,v44,v45,v46,v47,v48,v49,v50,v51,v52,v53,v54,v55,v56,v57,v58,v59,v60,v61,v62,v63,v64,v65,v66,v67,v68,v69,v70,v71,v72,v73,v74,v75,v76,v77,v78,v79,v80,v81,v82,v83,v84,v85,v86,v87,v88,v89,v90,v91,v92,v93,v94,v95,v96,v97,v98,v99,v100,v101,v102,v103,v104,v105,v106,y107,y108,y109,y110,y111,y112,y113,.int .i64 6,v115,v116,v117,v118,v119,v120,v121,v122,v123,v124,v125,v126,v127,v128,v129,v130,v131,v132,v133,v134,v135,v136,v137,v138,v139,v140,v141,v142,v143,v144,v145,v146,v147,v148,v149,v150,v151,v152,v153,v154],[]⟩ wz):
  Code.wp Tryz.prog (rgnA 25) Q ⟨#[.pointer (some ⟨h,0,none⟩),v1,v2,v3,v4,v5,v6,v7,v8,v9,v10,.slice ba bs.length bc,v12,v13,.int .i64 (sn:Int),v15,v16,v17,v18,v19,v20,v21,v22,v23,v24,v25,v26,v27,v28,v29,v30,v31,v32,v33,v34,v35,v36,v37,v38,v39,v40,v41,v42,v43,v44,v45,v46,v47,v48,v49,v50,v51,v52,v53,v54,v55,v56,v57,v58,v59,v60,v61,v62,v63,v64,v65,v66,v67,v68,v69,v70,v71,v72,v73,v74,v75,v76,v77,v78,v79,v80,v81,v82,v83,v84,v85,v86,v87,v88,v89,v90,v91,v92,v93,v94,v95,v96,v97,v98,v99,v100,v101,v102,v103,v104,v105,v106,v107,v108,v109,v110,v111,v112,v113,v114,v115,v116,v117,v118,v119,v120,v121,v122,v123,v124,v125,v126,v127,v128,v129,v130,v131,v132,v133,v134,v135,v136,v137,v138,v139,v140,v141,v142,v143,v144,v145,v146,v147,v148,v149,v150,v151,v152,v153,v154],[]⟩ wx:=by
 obtain⟨hno,ks,hk,h64⟩:=hfull;exact app_full_wp _ _ _ _ _ _ _ _ _ _ _ _ _ _ _ _ _ _ _ _ _ _ _ _ _ _ _ _ _ _ _ _ _ _ _ _ _ _ _ _ _ _ _ _ _ _ _ _ _ _ _ _ _ _ _ _ _ _ _ _ _ _ _ _ _ _ _ _ _ _ _ _ _ _ _ _ _ _ _ _ _ _ _ _ _ _ _ _ _ _ _ _ _ _ _ _ _ _ _ _ _ _ _ _ _ _ _ _ _ _ _ _ _ _ _ _ _ _ _ _ _ _ _ _ _ _ _ _ _ _ _ _ _ _ _ _ _ _ _ _ _ _ _ _ _ _ _ _ _ _ _ _ r.disk (inv_ok hi) (inv_slim hi) (by omega) r.cell0 (fun e=>(r.sT h r.log.th).2 e) hnum hrd hnc hk (by omega) hno h64 hpn hq
set_option maxRecDepth 1000000 in
set_option maxHeartbeats 16000000 in
theorem seg_rs (v1 v2 v3 v4 v5 v6 v7 v8 v9 v10 v11 v12 v13 v15 v16 v17 v18 v19 v20 v21 v22 v23 v24 v25 v26 v27 v28 v29 v30 v31 v32 v33 v34 v35 v36 v37 v38 v39 v40 v41 v42 v43 v44 v45 v46 v47 v48 v49 v50 v51 v52 v53 v54 v55 v56 v57 v58 v59 v60 v61 v62 v63 v64 v65 v66 v67 v68 v69 v70 v71 v72 v73 v74 v75 v76 v77 v78 v79 v80 v81 v82 v83 v84 v85 v86 v87 v88 v89 v90 v91 v92 v93 v94 v95 v96 v97 v98 v99 v100 v101 v102 v103 v104 v105 v106 v107 v108 v109 v110 v111 v112 v113 v114 v115 v116 v117 v118 v119 v120 v121 v122 v123 v124 v125 v126 v127 v128 v129 v130 v131 v132 v133 v134 v135 v136 v137 v138 v139 v140 v141 v142 v143 v144 v145 v146 v147 v148 v149 v150 v151 v152 v153 v154:Value) {Q:Exit→Act→World→Prop} {wx:World} {B n h g sn:Nat} {S T K:Nat→Prop} {M:Files} {L:List SV}
  (r:RS wx B n h g S T K M L) (hL:L.length≤1000)
  (hq: ∀(y119 y120 y121 y122 y123 y124 y125 y126 y127 y128 y129:Value) (wz:World) (T':Nat→Prop),RS wz B n h g S T' K M (L++ [⟨sn,.slice none 0 0,[]⟩])→Mv S T K wx wz S T' K→Q .normal ⟨#[.pointer (some ⟨h,0,none⟩),v1,v2,v3,v4,v5,v6,v7,v8,v9,v10,v11,v12,v13,.int .i64 (sn:Int),v15,v16,v17,v18,v19,v20,v21,v22,v23,v24,v25,v26,v27,v28,v29,v30,v31,v32,v33,v34,v35,v36,v37,v38,v39,v40,v41,v42,v43,v44,v45,v46,v47,v48,v49,v50,v51,v52,v53,v54,v55,v56,v57,v58,v59,v60,v61,v62,v63,v64,v65,v66,v67,v68,v69,v70,v71,v72,v73,v74,v75,v76,v77,v78,v79,v80,v81,v82,v83,v84,v85,v86,v87,v88,v89,v90,v91,v92,v93,v94,v95,v96,v97,v98,v99,v100,v101,v102,v103,v104,v105,v106,v107,v108,v109,v110,v111,v112,v113,v114,v115,v116,v117,v118,y119,y120,y121,y122,y123,y124,y125,y126,y127,y128,y129,v130,v131,v132,v133,v134,v135,v136,v137,v138,v139,v140,v141,v142,v143,v144,v145,v146,v147,v148,v149,v150,v151,v152,v153,v154],[]⟩ wz):
  Code.wp Tryz.prog (rgnA 29) Q ⟨#[.pointer (some ⟨h,0,none⟩),v1,v2,v3,v4,v5,v6,v7,v8,v9,v10,v11,v12,v13,.int .i64 (sn:Int),v15,v16,v17,v18,v19,v20,v21,v22,v23,v24,v25,v26,v27,v28,v29,v30,v31,v32,v33,v34,v35,v36,v37,v38,v39,v40,v41,v42,v43,v44,v45,v46,v47,v48,v49,v50,v51,v52,v53,v54,v55,v56,v57,v58,v59,v60,v61,v62,v63,v64,v65,v66,v67,v68,v69,v70,v71,v72,v73,v74,v75,v76,v77,v78,v79,v80,v81,v82,v83,v84,v85,v86,v87,v88,v89,v90,v91,v92,v93,v94,v95,v96,v97,v98,v99,v100,v101,v102,v103,v104,v105,v106,v107,v108,v109,v110,v111,v112,v113,v114,v115,v116,v117,v118,v119,v120,v121,v122,v123,v124,v125,v126,v127,v128,v129,v130,v131,v132,v133,v134,v135,v136,v137,v138,v139,v140,v141,v142,v143,v144,v145,v146,v147,v148,v149,v150,v151,v152,v153,v154],[]⟩ wx:=by
 refine seg_wp _ _ _ _ _ _ _ _ _ _ _ _ _ _ _ _ _ _ _ _ _ _ _ _ _ _ _ _ _ _ _ _ _ _ _ _ _ _ _ _ _ _ _ _ _ _ _ _ _ _ _ _ _ _ _ _ _ _ _ _ _ _ _ _ _ _ _ _ _ _ _ _ _ _ _ _ _ _ _ _ _ _ _ _ _ _ _ _ _ _ _ _ _ _ _ _ _ _ _ _ _ _ _ _ _ _ _ _ _ _ _ _ _ _ _ _ _ _ _ _ _ _ _ _ _ _ _ _ _ _ _ _ _ _ _ _ _ _ _ _ _ _ _ _ _ _ _ _ _ _ _ _ _ r.log (by omega) (fun k hk=>(r.sK k hk).2.2) (fun k hk=>(r.sK k hk).1) (fun k hk=>(r.sT k hk).1) ?_;intro y119 y120 y121 y122 y123 y124 y125 y126 y127 y128 y129 wz T' hl hap ht;have hlt: ∀k,T' k→k<wz.heap.size:=fun k hk=>by
  rcases ht k hk with h1 | ⟨_,h1⟩
  ·exact Nat.lt_of_lt_of_le (r.sT k h1).1 hap.size
  ·exact h1
 obtain⟨r2,m2⟩:=r.logged hap hl ht (fun k hk=>hk) (fun k hk=> .inl hk) hlt (fun k hk=>⟨Nat.lt_of_lt_of_le (r.sK k hk).1 hap.size,fun h1=>by
  rcases ht k h1 with h2 | ⟨h2,_⟩
  ·exact(r.sK k hk).2.2 h2
  ·have:=(r.sK k hk).1;omega⟩)
 exact hq y119 y120 y121 y122 y123 y124 y125 y126 y127 y128 y129 wz T' r2 m2
end Rl
end Go.Proofs.YtalfbcbnljhldaaGreatDoor
