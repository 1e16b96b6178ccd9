/-  -/
import Derived.Test.YtalfbcbnljhldaaGreatDoorMaq
import Derived.Test.YtalfbcbnljhldaaGreatDoorMaa
import Derived.Test.YtalfbcbnljhldaaGreatDoorMad
import Derived.OneCell
import Derived.Shelf.Bytes.SlSmallAll
import Derived.RegionTactic
import Derived.BigRegion
namespace Go.Proofs.YtalfbcbnljhldaaGreatDoor
open Go.RowKit Go.Maps Go.Sort Dsk Wl
def Wl.Sg.raw (s:Sg):Sx:=⟨s.num,s.bs,s.good,s.recs.length,top s.recs⟩
structure ReadTold (w w':World) (l:List (Nat×List Int)) (v1 v2:Value):Prop where
 segs:SegRow w' w.heap.size ((readGo l []).1.map Sg.raw) v1
 ents:EntRow w' w.heap.size (readGo l []).2 v2
 below:Below w.heap.size w w'
theorem nums_len (ks:List Name):(numsOf ks).length≤ks.length:=List.length_filterMap_le _ _
structure AtSeg (w:World) (M:Files) (ns:List Nat) (sv:Value) (k:Nat) (done:List Sg) (ents:List Ent) (wr:World):Prop where
 len:done.length=k
 segs:SegRow wr w.heap.size (done.map Sg.raw++(ns.drop k).map Sx.mk0) sv
 box:Boxed wr w.heap.size w.heap.size ents
 ok: ∀e∈ents,e.ok
 many:ents.length≤k*116600
 same:readGo (segsOf M ns) []=(done++(readGo (segsOf M (ns.drop k)) ents).1,(readGo (segsOf M (ns.drop k)) ents).2)
 below:Below w.heap.size w wr
structure AtRec (w:World) (ns:List Nat) (sv:Value) (k:Nat) (done:List Sg) (ents:List Ent) (num:Nat) (bs:List Int) (f good:Nat) (recs ents':List Ent) (wr:World):Prop where
 segs:SegRow wr w.heap.size (done.map Sg.raw++⟨num,bs,good,recs.length,top recs⟩::(ns.drop (k+1)).map Sx.mk0) sv
 box:Boxed wr w.heap.size w.heap.size ents'
 ok: ∀e∈ents',e.ok
 many:ents'.length≤ents.length+recs.length
 few:9*recs.length≤good
 le:good≤bs.length
 fuel:bs.length - good<f
 same:walk f bs good recs ents'=walk (bs.length+1) bs 0 [] ents
 below:Below w.heap.size w wr
section
variable {w wr wr':World} {M:Files} {ns:List Nat} {sv:Value} {k:Nat} {done:List Sg} {ents ents' recs:List Ent} {num f good:Nat} {bs:List Int}
theorem AtRec.down (h:AtRec w ns sv k done ents num bs f good recs ents' wr) (hb:Below wr.heap.size wr wr'):AtRec w ns sv k done ents num bs f good recs ents' wr':=
 ⟨h.segs.below hb,h.box.below hb,h.ok,h.many,h.few,h.le,h.fuel,h.same,h.below.trans (hb.mono h.below.size)⟩
theorem AtRec.over (h:AtRec w ns sv k done ents num bs f good recs ents' wr) (he:bs.length≤good):walk (bs.length+1) bs 0 [] ents=(good,recs,ents',true):=by
 rw[←h.same];have hf:=h.fuel;obtain⟨f',rfl⟩: ∃f',f=f'+1:=⟨f - 1,by omega⟩;exact walk_end _ _ he
theorem AtRec.bad (h:AtRec w ns sv k done ents num bs f good recs ents' wr) (he: ¬bs.length≤good) (hs:step1 (bs.drop good)=none):walk (bs.length+1) bs 0 [] ents=(good,recs,ents',false):=by
 rw[←h.same];have hf:=h.fuel;obtain⟨f',rfl⟩: ∃f',f=f'+1:=⟨f - 1,by omega⟩;exact walk_none _ _ he hs
theorem AtRec.stop {e:Ent} {n:Nat} (h:AtRec w ns sv k done ents num bs f good recs ents' wr) (he: ¬bs.length≤good) (hs:step1 (bs.drop good)=some (e,n)) (hf:Wl.follow ents' e=none):walk (bs.length+1) bs 0 [] ents=(good,recs,ents',false):=by
 rw[←h.same];have hfu:=h.fuel;obtain⟨f',rfl⟩: ∃f',f=f'+1:=⟨f - 1,by omega⟩;exact walk_stop _ he hs hf
theorem AtRec.more {e:Ent} {n:Nat} {E:List Ent} (hsm:walk f bs good recs ents'=walk (bs.length+1) bs 0 [] ents) (hfu:bs.length - good<f) (hr: ∀x∈bs,0≤x∧x≤255) (he: ¬bs.length≤good) (hs:step1 (bs.drop good)=some (e,n)) (hf:Wl.follow ents' e=some E):
  ∃f',walk f' bs (good+n) (recs++ [e]) E=walk (bs.length+1) bs 0 [] ents∧bs.length - (good+n)<f'∧good+n≤bs.length∧e.ok∧9≤n:=by
 obtain⟨h1,h2,h3,h4⟩:=step1_is (fun x hx=>hr x (List.mem_of_mem_drop hx)) hs;have hn:=frm_len h1;rw[List.length_drop] at h4;obtain⟨f',rfl⟩: ∃f',f=f'+1:=⟨f - 1,by omega⟩;refine⟨f',?_,by omega,by omega,h1,by omega⟩;rw[←hsm,walk_more _ he hs hf]
theorem drop_head (hk:k<ns.length):ns.drop k=ns[k]::ns.drop (k+1):=List.drop_eq_getElem_cons hk
theorem segs_head (hk:k<ns.length):segsOf M (ns.drop k)=(ns[k],(M.at (nameOf ns[k])).now.bs)::segsOf M (ns.drop (k+1)):=by rw[drop_head hk];rfl
theorem AtSeg.next (h:AtSeg w M ns sv k done ents wr) (hk:k<ns.length) (hbs:bs=(M.at (nameOf ns[k])).now.bs) (hR:walk (bs.length+1) bs 0 [] ents=(good,recs,ents',true)) (hne:recs≠ []) (hsm:bs.length≤1048576)
  (hr:AtRec w ns sv k done ents ns[k] bs f good recs ents' wr'):AtSeg w M ns sv (k+1) (done++ [⟨ns[k],bs,good,recs⟩]) ents' wr' where
 len:=by simp [h.len]
 segs:=by
  rw[List.map_append,List.append_assoc];exact hr.segs
 box:=hr.box
 ok:=hr.ok
 many:=by
  have h1:=hr.many;have h2:=h.many;have h3:=hr.few;have h4:=hr.le;omega
 same:=by
  rw[h.same,segs_head hk];have hg:=readGo_more (x:=(ns[k],(M.at (nameOf ns[k])).now.bs)) (segsOf M (ns.drop (k+1))) (by rw[←hbs];exact hR) hne;rw[hg,←hbs];simp
 below:=hr.below
theorem AtSeg.stops {b:Bool} (h:AtSeg w M ns sv k done ents wr) (hk:k<ns.length) (hbs:bs=(M.at (nameOf ns[k])).now.bs) (hR:walk (bs.length+1) bs 0 [] ents=(good,recs,ents',b)) (hb:b=false∨recs= []):
  readGo (segsOf M ns) []=(done++⟨ns[k],bs,good,recs⟩::(ns.drop (k+1)).map (fun j=>⟨j,[],0,[]⟩),ents'):=by
 rw[h.same,segs_head hk];have hg:=readGo_stop (x:=(ns[k],(M.at (nameOf ns[k])).now.bs)) (segsOf M (ns.drop (k+1))) (by rw[←hbs];exact hR) hb;rw[hg,←hbs];unfold segsOf;rw[List.map_map];rfl
theorem raw_stops (done:List Sg) (num:Nat) (bs:List Int) (good:Nat) (recs:List Ent) (l:List Nat):(done++(⟨num,bs,good,recs⟩:Sg)::l.map (fun j=>⟨j,[],0,[]⟩)).map Sg.raw=done.map Sg.raw++⟨num,bs,good,recs.length,top recs⟩::l.map Sx.mk0:=by
 simp only[List.map_append,List.map_cons,List.map_map];rfl
theorem told_end {l:List (Nat×List Int)} {segs:List Sg} {ea:Option Addr} {ec:Nat} (heq:readGo l []=(segs,ents)) (hsg:SegRow wr w.heap.size (segs.map Sg.raw) sv) (hbx:Boxed wr w.heap.size w.heap.size ents) (her:EntRow wr w.heap.size ents (.slice ea ents.length ec)) (hb:Below w.heap.size w wr):
  ReadTold w ((wr.setCell ⟨w.heap.size,0,none⟩ (.slice ea ents.length ec)).drew) l sv (.slice ea ents.length ec):=by
 obtain⟨cs,hbox⟩:=hbx.box;have hoff: ∀ {k:Nat} {cs':Array Value} {t:TypeId} {fr:Nat×Nat},t≠36→wr.heap[k]?=some (.cells cs' t fr)→(wr.setCell ⟨w.heap.size,0,none⟩ (.slice ea ents.length ec)).drew.heap[k]?=wr.heap[k]?:=fun ht hk=>
  Below.heap_setCell _ _ _ _ fun e0=>by
   subst e0;rw[hbox] at hk;injection hk with h1
   injection h1 with _ h2
   exact ht h2.symm
 refine⟨?_,?_,?_⟩
 ·rw[heq]
  exact hsg.keep (fun k cs' _ hk _=>hoff (by decide) hk) (fun k cs' _ hk=>hoff (by decide) hk)
 ·rw[heq]
  exact her.keep (fun k cs' _ hk _=>hoff (by decide) hk) (fun k cs' fr _ hk=>hoff (by decide) hk)
 ·exact(hb.setCell (p:=⟨w.heap.size,0,none⟩) (Nat.le_refl _) _).drew
end
theorem segCells_set1: ∀(l:List Sx) (vs:List Value) (i:Nat) (hi:i<l.length) (zs:List Int) (v:Value),vs.length=l.length→
  (segCells l vs).set (i*5+1) v=segCells (l.set i {l[i] with bs:=zs}) (vs.set i v)
 | [],_,i,hi,_,_,_=>by simp at hi
 | e::es,[],i,hi,_,_,h=>by simp at h
 | e::es,v::vs,0,hi,zs,u,h=>by simp [segCells]
 | e::es,v::vs,i+1,hi,zs,u,h=>by
  have:=segCells_set1 es vs i (by simpa using hi) zs u (by simpa using h);simp only[segCells];rw[show(i+1)*5=i*5+1+1+1+1+1 by omega];simpa [segCells] using this
theorem segCells_set3: ∀(l:List Sx) (vs:List Value) (i:Nat) (hi:i<l.length) (g n t:Nat),vs.length=l.length→
  (((segCells l vs).set (i*5+2) (.int .i64 (g:Int))).set (i*5+3) (.int .i64 (n:Int))).set (i*5+4) (.int .u64 (t:Int))=segCells (l.set i ⟨l[i].num,l[i].bs,g,n,t⟩) vs
 | [],_,i,hi,_,_,_,_=>by simp at hi
 | e::es,[],i,hi,_,_,_,h=>by simp at h
 | e::es,v::vs,0,hi,g,n,t,h=>by simp [segCells]
 | e::es,v::vs,i+1,hi,g,n,t,h=>by
  have:=segCells_set3 es vs i (by simpa using hi) g n t (by simpa using h);simp only[segCells];rw[show(i+1)*5=i*5+1+1+1+1+1 by omega];simpa [segCells] using this
section
variable {w w':World} {B g cap:Nat} {l:List Sx}
theorem seg_row_keep {zs:List Int} {u x:Value} {xs:List Value} {n j:Nat} (h:w.ownsRow B 63 5 (.slice (some ⟨g,0,none⟩) n cap) n xs) (hr:Row w B zs u):Row (w.setCell ⟨g,j,none⟩ x) B zs u:=
 hr.keep fun k e=>Below.heap_setCell _ _ _ _ fun e0=>by
  subst e0;have h1:=ownsRow_apart hr h (by decide);rcases h1 with h1 | h1
  ·rw[h1] at e;cases e
  ·exact h1 e
theorem SegRow.bytes (h:SegRow w B l (.slice (some ⟨g,0,none⟩) l.length cap)) {i:Nat} (hi:i<l.length) {zs:List Int} {a:Option Addr} {c:Nat} (hr:Row w B zs (.slice a zs.length c)):
  SegRow (w.setCell ⟨g,i*5+1,none⟩ (.slice a zs.length c)) B (l.set i {l[i] with bs:=zs}) (.slice (some ⟨g,0,none⟩) l.length cap):=by
 obtain⟨vs,h1,h2,h3⟩:=h.row;refine⟨vs.set i (.slice a zs.length c),by simp [h1],?_,fun j hj=>?_⟩
 ·rw[←segCells_set1 l vs i hi zs _ h1,List.length_set]
  exact(h2.stored _ _).1
 ·rw[List.length_set] at hj
  by_cases hji:j=i
  ·subst hji
   rw[List.getElem_set_self];rw[show(vs.set j (Value.slice a zs.length c)).getD j undef= .slice a zs.length c by simp [List.getD,show j<vs.length by omega]];exact seg_row_keep h2 hr
  ·rw[List.getElem_set_ne (fun e=>hji e.symm)]
   rw[show(vs.set i (Value.slice a zs.length c)).getD j undef=vs.getD j undef by rw[List.getD,List.getElem?_set_ne (fun e=>hji e.symm),List.getD]];exact seg_row_keep h2 (h3 j hj)
theorem SegRow.three (h:SegRow w B l (.slice (some ⟨g,0,none⟩) l.length cap)) {i:Nat} (hi:i<l.length) (gd n t:Nat):
  SegRow (((w.setCell ⟨g,i*5+2,none⟩ (.int .i64 (gd:Int))).setCell ⟨g,i*5+3,none⟩ (.int .i64 (n:Int))).setCell ⟨g,i*5+4,none⟩ (.int .u64 (t:Int))) B (l.set i ⟨l[i].num,l[i].bs,gd,n,t⟩) (.slice (some ⟨g,0,none⟩) l.length cap):=by
 obtain⟨vs,h1,h2,h3⟩:=h.row;have s1:=(h2.stored (i*5+2) (.int .i64 (gd:Int))).1;have s2:=(s1.stored (i*5+3) (.int .i64 (n:Int))).1;have s3:=(s2.stored (i*5+4) (.int .u64 (t:Int))).1;refine⟨vs,by simp [h1],?_,fun j hj=>?_⟩
 ·rw[←segCells_set3 l vs i hi gd n t h1,List.length_set]
  exact s3
 ·rw[List.length_set] at hj
  have hb:(l.set i ⟨l[i].num,l[i].bs,gd,n,t⟩)[j]'(by simpa using hj)=(if j=i then⟨l[i].num,l[i].bs,gd,n,t⟩ else l[j]):=by
   by_cases hji:j=i
   ·subst hji;simp
   ·rw[List.getElem_set_ne (fun e=>hji e.symm),if_neg hji]
  have hbs:((l.set i ⟨l[i].num,l[i].bs,gd,n,t⟩)[j]'(by simpa using hj)).bs=l[j].bs:=by
   rw[hb];split
   ·subst_vars;rfl
   ·rfl
  rw[hbs];exact seg_row_keep s2 (seg_row_keep s1 (seg_row_keep h2 (h3 j hj)))
end
theorem SegRow.block {w:World} {B g cap n:Nat} {l:List Sx} (h:SegRow w B l (.slice (some ⟨g,0,none⟩) n cap)): ∃cs,w.heap[g]?=some (.cells cs 63 (0,0)):=by
 obtain⟨vs,h1,h2,h3⟩:=h.row;rcases h2.2 with⟨hv,_⟩ | ⟨g',cap',cur,hv,hB,hg,_⟩
 ·simp at hv
 ·simp only[Value.slice.injEq,Option.some.injEq,Addr.mk.injEq,and_true] at hv
  obtain⟨rfl,_,rfl⟩:=hv;exact⟨cur,hg⟩
theorem set_seg {w:World} {g j k:Nat} {cs cs':Array Value} {t:TypeId} {fr fr':Nat×Nat} {x:Value} (hg:w.heap[g]?=some (.cells cs 63 fr)) (hk:w.heap[k]?=some (.cells cs' t fr')) (ht:t≠63):(w.setCell ⟨g,j,none⟩ x).heap[k]?=w.heap[k]?:=
 Below.heap_setCell _ _ _ _ fun e0=>by
  subst e0;rw[hg] at hk;injection hk with h1
  injection h1 with _ h2
  exact ht h2.symm
theorem Boxed.seg {w:World} {B eb g j:Nat} {es:List Ent} {cs:Array Value} {fr:Nat×Nat} {x:Value} (h:Boxed w B eb es) (hg:w.heap[g]?=some (.cells cs 63 fr)):Boxed (w.setCell ⟨g,j,none⟩ x) B eb es:=by
 obtain⟨v,h1,h2⟩:=h.at_;exact⟨v,(set_seg hg h1 (by decide)).trans h1,h2.keep (fun k cs' _ hk _=>set_seg hg hk (by decide)) (fun k cs' fr' _ hk=>set_seg hg hk (by decide))⟩
theorem set_mid {done:List Sg} {k:Nat} {r:List Sx} {x y:Sx} (h:done.length=k):(done.map Sg.raw++y::r).set k x=done.map Sg.raw++x::r:=by
 rw[List.set_append,if_neg (by simp [h])];simp [h]
theorem get_mid {done:List Sg} {k:Nat} {r:List Sx} {y:Sx} (h:done.length=k) (hk:k<(done.map Sg.raw++y::r).length):(done.map Sg.raw++y::r)[k]=y:=by
 rw[List.getElem_append_right (by simp [h])];simp [h]
theorem AtSeg.read {w wr w5:World} {M:Files} {ns:List Nat} {k:Nat} {done:List Sg} {ents:List Ent} {sg sc:Nat} {bs:List Int} {ra:Option Addr} {rc:Nat} (h:AtSeg w M ns (.slice (some ⟨sg,0,none⟩) ns.length sc) k done ents wr) (hk:k<ns.length) (hb:Below wr.heap.size wr w5)
  (hr:Row w5 wr.heap.size bs (.slice ra bs.length rc)):AtRec w ns (.slice (some ⟨sg,0,none⟩) ns.length sc) k done ents ns[k] bs (bs.length+1) 0 [] ents (w5.setCell ⟨sg,k*5+1,none⟩ (.slice ra bs.length rc)):=by
 have hs5:=h.segs.below hb;rw[drop_head hk,List.map_cons] at hs5;have hll:(done.map Sg.raw++Sx.mk0 ns[k]::(ns.drop (k+1)).map Sx.mk0).length=ns.length:=by simp [h.len];omega
 have hkl:k<(done.map Sg.raw++Sx.mk0 ns[k]::(ns.drop (k+1)).map Sx.mk0).length:=by omega
 obtain⟨cs,hblk⟩:=hs5.block;have hs6:=SegRow.bytes (l:=done.map Sg.raw++Sx.mk0 ns[k]::(ns.drop (k+1)).map Sx.mk0) (by rw[hll];exact hs5) hkl (hr.less h.below.size);rw[hll,get_mid h.len hkl,set_mid h.len] at hs6;have hsz:w.heap.size≤sg:=by
  obtain⟨vs,h1,h2,h3⟩:=hs5.row;exact(World.ownsRow.lt h2 sg rfl).1
 exact⟨hs6,(h.box.below hb).seg hblk,h.ok,by simp,by simp,Nat.zero_le _,by omega,rfl,(h.below.trans (hb.mono h.below.size)).setCell (p:=⟨sg,k*5+1,none⟩) hsz _⟩
theorem AtRec.took {w wr w5:World} {ns:List Nat} {k:Nat} {done:List Sg} {ents ents' recs E:List Ent} {sg sc num f f' good n:Nat} {bs:List Int} {e:Ent} (h:AtRec w ns (.slice (some ⟨sg,0,none⟩) ns.length sc) k done ents num bs f good recs ents' wr) (hl:done.length=k) (hk:k<ns.length)
  (hT:Turns w.heap.size w.heap.size wr w5) (hx:Boxed w5 w.heap.size w.heap.size E) (hf:Wl.follow ents' e=some E) (h1:walk f' bs (good+n) (recs++ [e]) E=walk (bs.length+1) bs 0 [] ents) (h2:bs.length - (good+n)<f') (h3:good+n≤bs.length) (h4:e.ok) (h5:9≤n):
  AtRec w ns (.slice (some ⟨sg,0,none⟩) ns.length sc) k done ents num bs f' (good+n) (recs++ [e]) E
   (((w5.setCell ⟨sg,k*5+2,none⟩ (.int .i64 ((good+n:Nat):Int))).setCell ⟨sg,k*5+3,none⟩ (.int .i64 ((recs.length+1:Nat):Int))).setCell ⟨sg,k*5+4,none⟩ (.int .u64 ((max (top recs) e.ix:Nat):Int))):=by
 obtain⟨cs,hblk⟩:=h.segs.block;obtain⟨ecs,hbox⟩:=h.box.box;have hne:sg≠w.heap.size:=fun e0=>by
  rw[e0,hbox] at hblk;injection hblk with h1
  injection h1 with _ h2
  exact absurd h2 (by decide)
 have hblk5:w5.heap[sg]?=some (.cells cs 63 (0,0)):=(hT.typed hblk (by decide) hne).trans hblk;have heb: ∀ {k:Nat} {cs':Array Value} {t:TypeId} {fr:Nat×Nat},t≠36→wr.heap[k]?=some (.cells cs' t fr)→k≠w.heap.size:=fun ht hk e0=>by
  subst e0;rw[hbox] at hk;injection hk with h1
  injection h1 with _ h2
  exact ht h2.symm
 have hs5:SegRow w5 w.heap.size (done.map Sg.raw++⟨num,bs,good,recs.length,top recs⟩::(ns.drop (k+1)).map Sx.mk0) (.slice (some ⟨sg,0,none⟩) ns.length sc):=
  h.segs.keep (fun q cs' _ hq _=>hT.typed hq (by decide) (heb (by decide) hq)) (fun q cs' _ hq=>hT.typed hq (by decide) (heb (by decide) hq))
 have hll:(done.map Sg.raw++(⟨num,bs,good,recs.length,top recs⟩:Sx)::(ns.drop (k+1)).map Sx.mk0).length=ns.length:=by simp [hl];omega
 have hkl:k<(done.map Sg.raw++(⟨num,bs,good,recs.length,top recs⟩:Sx)::(ns.drop (k+1)).map Sx.mk0).length:=by omega
 have hs6:=SegRow.three (l:=done.map Sg.raw++(⟨num,bs,good,recs.length,top recs⟩:Sx)::(ns.drop (k+1)).map Sx.mk0) (by rw[hll];exact hs5) hkl (good+n) (recs.length+1) (max (top recs) e.ix);rw[hll,get_mid hl hkl,set_mid hl] at hs6;have hsz:w.heap.size≤sg:=by
  obtain⟨vs,h1,h2,h3⟩:=hs5.row;exact(World.ownsRow.lt h2 sg rfl).1
 have hb6:(w5.setCell ⟨sg,k*5+2,none⟩ (.int .i64 ((good+n:Nat):Int))).heap[sg]?=some (.cells (cs.setIfInBounds (k*5+2) (.int .i64 ((good+n:Nat):Int))) 63 (0,0)):=cells_set hblk5 _ _;refine⟨?_,((hx.seg hblk5).seg hb6).seg (cells_set hb6 _ _),follow_ok h.ok h4 hf,?_,?_,h3,h2,h1,?_⟩
 ·rw[top_snoc,List.length_append]
  exact hs6
 ·have h6:=h.many
  have h7:=follow_len hf;simp;omega
 ·have h6:=h.few
  simp;omega
 ·exact((((h.below.trans (hT.below h.below.size (Nat.le_refl _))).setCell (p:=⟨sg,k*5+2,none⟩) hsz _).setCell (p:=⟨sg,k*5+3,none⟩) hsz _).setCell (p:=⟨sg,k*5+4,none⟩) hsz _)
theorem AtRec.turned {w wr w5:World} {ns:List Nat} {k:Nat} {done:List Sg} {ents ents' recs:List Ent} {sv:Value} {num f good:Nat} {bs:List Int} (h:AtRec w ns sv k done ents num bs f good recs ents' wr) (hT:Turns w.heap.size w.heap.size wr w5) (hx:Boxed w5 w.heap.size w.heap.size ents'):
  AtRec w ns sv k done ents num bs f good recs ents' w5:=by
 obtain⟨ecs,hbox⟩:=h.box.box;have heb: ∀ {k:Nat} {cs':Array Value} {t:TypeId} {fr:Nat×Nat},t≠36→wr.heap[k]?=some (.cells cs' t fr)→k≠w.heap.size:=fun ht hk e0=>by
  subst e0;rw[hbox] at hk;injection hk with h1
  injection h1 with _ h2
  exact ht h2.symm
 exact⟨h.segs.keep (fun q cs' _ hq _=>hT.typed hq (by decide) (heb (by decide) hq)) (fun q cs' _ hq=>hT.typed hq (by decide) (heb (by decide) hq)),hx,h.ok,h.many,h.few,h.le,h.fuel,h.same,h.below.trans (hT.below h.below.size (Nat.le_refl _))⟩
theorem addr_add (b i:Nat):(⟨b,0,none⟩:Addr).add i=⟨b,i,none⟩:=by unfold Addr.add;split<;>simp_all
theorem box_end {w wr:World} {ents:List Ent} (h:Boxed wr w.heap.size w.heap.size ents) (v:Value):((wr.setCell ⟨w.heap.size,0,none⟩ v).drew).cell? ⟨w.heap.size,0,none⟩=some v:=by
 obtain⟨v0,hv0,_⟩:=h.at_;rw[cell_of_row _ _ 0 _ _ _ (show((wr.setCell ⟨w.heap.size,0,none⟩ v).drew).heap[w.heap.size]?=_ from cells_set hv0 0 v)];simp
end Go.Proofs.YtalfbcbnljhldaaGreatDoor

namespace Go.Proofs.YtalfbcbnljhldaaGreatDoor
open Go.RowKit
structure Src (w:World) (N S:Nat) (a:Option Addr) (len cap:Nat) (zs:List Int):Prop where
 sl:w.cell? ⟨S,0,none⟩=some (.slice a len cap)
 cell: ∀i,i<len→ ∃x,a=some x∧x.block<N∧w.cell? (x.add i)=some (.int .u8 (zs.getD i 0))
 SN:S<N
 hz:len=zs.length
 hl:len≤9223372036854775806
theorem Src.below {w w':World} {N S:Nat} {a:Option Addr} {len cap:Nat} {zs:List Int} (h:Src w N S a len cap zs) (hb:Below N w w'):Src w' N S a len cap zs:=
 ⟨(hb.cell (p:=⟨S,0,none⟩) h.SN).trans h.sl,fun i hi=>by
  obtain⟨x,hx,hN,hc⟩:=h.cell i hi;exact⟨x,hx,hN,(hb.cell (p:=x.add i) (by rw[add_block];exact hN)).trans hc⟩,h.SN,h.hz,h.hl⟩
theorem take1_end (N S:Nat) (a:Option Addr) (len cap:Nat) (zs:List Int) (w:World) (hs:Src w N S a len cap zs) (hn:w.heap[N]?=some (.cells #[.int .i64 (len:Int)] 3 (0,0))):
  Calls Tryz.prog 106 #[.pointer (some ⟨N,0,none⟩),.pointer (some ⟨S,0,none⟩)] w fun e w'=>e= .returned (.tuple #[.int .u8 0,.bool false])∧w=w':=by
 have c1:=cell_of_one hn;have c2:=hs.sl;clear hs hn;go_enter Tryz.func106,Tryz.ntmps106
 go_wp2
 go_ret2
 exact⟨rfl,rfl⟩
theorem take1_more (N S:Nat) (a:Option Addr) (len cap p:Nat) (zs:List Int) (w:World) (hs:Src w N S a len cap zs) (hn:w.heap[N]?=some (.cells #[.int .i64 (p:Int)] 3 (0,0))) (hp:p<len):
  Calls Tryz.prog 106 #[.pointer (some ⟨N,0,none⟩),.pointer (some ⟨S,0,none⟩)] w fun e w'=>e= .returned (.tuple #[.int .u8 (zs.getD p 0),.bool true])∧w'=w.setCell ⟨N,0,none⟩ (.int .i64 ((p+1:Nat):Int)):=by
 have c1:=cell_of_one hn;have c2:=hs.sl;have c3:=free_of_one hn;obtain⟨x,rfl,c6,c4⟩:=hs.cell p hp;have c5:=hs.SN;have c7:=hs.hl;have d1:(w.setCell ⟨N,0,none⟩ (.int .i64 ((p:Int)+1))).cell? ⟨N,0,none⟩=some (.int .i64 ((p:Int)+1)):=cell_of_one (one_setCell hn);have d2:(w.setCell ⟨N,0,none⟩ (.int .i64 ((p:Int)+1))).cell? (x.add p)=some (.int .u8 (zs.getD p 0)):=(((Below.refl N w).setCell (p:=⟨N,0,none⟩) (Nat.le_refl _) _).cell (p:=x.add p) (by rw[add_block];exact c6)).trans c4;clear hs hn;go_enter Tryz.func106,Tryz.ntmps106
 go_wp2
 go_ret2
 exact⟨by simp [List.getD],by simp⟩
theorem take1_any (N S:Nat) (a:Option Addr) (len cap p:Nat) (zs:List Int) (w:World) (hs:Src w N S a len cap zs) (hn:w.heap[N]?=some (.cells #[.int .i64 (p:Int)] 3 (0,0))) (hp:p≤len):
  Calls Tryz.prog 106 #[.pointer (some ⟨N,0,none⟩),.pointer (some ⟨S,0,none⟩)] w fun e w'=>
   if p<len then e= .returned (.tuple #[.int .u8 (zs.getD p 0),.bool true])∧Below N w w'∧w'.heap[N]?=some (.cells #[.int .i64 ((p+1:Nat):Int)] 3 (0,0))
   else e= .returned (.tuple #[.int .u8 0,.bool false])∧w=w':=by
 by_cases h:p<len
 ·refine(take1_more N S a len cap p zs w hs hn h).mono ?_
  rintro e w' ⟨he,rfl⟩;rw[if_pos h];exact⟨he,(Below.refl N w).setCell (p:=⟨N,0,none⟩) (Nat.le_refl _) _,one_setCell hn⟩
 ·obtain rfl:p=len:=by omega
  refine(take1_end N S a p cap zs w hs hn).mono ?_;rintro e w' ⟨he,hw⟩;rw[if_neg h];exact⟨he,hw⟩
def Told (w w':World) (N at0:Nat) (e:Ending):Option (Nat×Nat)→Prop
 | none=>e= .returned (.tuple #[.int .u64 0,.bool false])∧Below N w w'∧ ∃q:Nat,w'.heap[N]?=some (.cells #[.int .i64 (q:Int)] 3 (0,0))
 | some (n,k)=>e= .returned (.tuple #[.int .u64 (n:Int),.bool true])∧Below N w w'∧w'.heap[N]?=some (.cells #[.int .i64 ((at0+k:Nat):Int)] 3 (0,0))
theorem told_some {w w1:World} {N p v k q:Nat} {X:Int} (hX:X=(v:Int)) (hq:q=p+k) (hb:Below N w w1) (hn:w1.heap[N]?=some (.cells #[.int .i64 (q:Int)] 3 (0,0))):
  Told w w1 N p (.returned (.tuple #[.int .u64 X,.bool true])) (some (v,k)):=by
 subst hX hq;exact⟨rfl,hb,hn⟩
theorem and0:IntKind.u64.wrap (bits .and .u8 0 127)=0 % 128:=by rw[u8_and127 0 (by decide) (by decide)];decide
set_option maxRecDepth 100000 in
set_option maxHeartbeats 1000000 in
theorem number_any (N S:Nat) (a:Option Addr) (len cap p:Nat) (zs:List Int) (w:World) (hs:Src w N S a len cap zs) (hn:w.heap[N]?=some (.cells #[.int .i64 (p:Int)] 3 (0,0))) (hp:p≤len)
  (hr: ∀x∈zs,0≤x∧x≤255):
  Calls Tryz.prog 105 #[.func (.func 106) #[] #[.pointer (some ⟨N,0,none⟩),.pointer (some ⟨S,0,none⟩)]] w fun e w'=>Told w w' N p e (Num.dec 10 0 0 (zs.drop p)):=by
 have HS:=Lib.hid hs;have HN:=Lib.hid hn;have HR:=Lib.hid hr;have hlen:=hs.hl;have hzl:=hs.hz;have HL:=Lib.hid hzl;clear hs hn hr hzl;go_enter Tryz.func105,Tryz.ntmps105
 go_wp2
 go_loopw [4,5] (fun x sh wr=> ∃(k acc q:Nat),k≤10∧q=p+k∧q≤len∧sh= .int .i64 ((7*k:Nat):Int)∧x= .int .u64 (acc:Int)∧acc<128 ^ k∧
   Num.dec 10 0 0 (zs.drop p)=Num.dec (10 - k) k acc (zs.drop q)∧Below N w wr∧wr.heap[N]?=some (.cells #[.int .i64 (q:Int)] 3 (0,0)))
  (fun _ sh _=>70 - (intOf sh).toNat)
 case atStart=>exact⟨0,0,p,by omega,by omega,hp,rfl,rfl,by simp,rfl,Below.refl _ _,HN.out⟩
 case round=>
  obtain⟨k,acc,q,hk,hq,hql,rfl,rfl,hacc,hdec,hbel,hcell⟩:=hrel;have HQ:=Lib.hid hq;have HD:=Lib.hid hdec;have HC:=Lib.hid hcell;have HA:=Lib.hid hacc;clear hq hdec hcell hacc;by_cases h10:k=10
  ·subst h10
   go_wp2_with fail
   go_ret2
   rw[HD.out];exact⟨rfl,hbel,_,HC.out⟩
  ·have hk9:k≤9:=by omega
   clear hk h10;go_wp2_with fail
   refine(take1_any N S a len cap q zs wr (HS.out.below hbel) HC.out hql).mono ?_;intro e w1 h;by_cases hlt:q<len
   ·rw[if_pos hlt] at h
    obtain⟨rfl,hb1,hn1⟩:=h;have hz:q<zs.length:=by have:=HL.out;omega
    have hdrop:zs.drop q=zs.getD q 0::zs.drop (q+1):=by rw[List.drop_eq_getElem_cons hz];simp [List.getD,List.getElem?_eq_getElem hz]
    have hrange:=HR.out (zs.getD q 0) (by simp [List.getD,List.getElem?_eq_getElem hz]);obtain⟨c,hc⟩: ∃c,c=zs.getD q 0:=⟨_,rfl⟩;rw[←hc] at hdrop hrange;rw[←hc];have HD1:=Lib.hid hdrop;clear hc hdrop hz;have hand:bits .and .u8 c 127=c % 128:=u8_and127 c hrange.1 (by omega);go_wp2_with fail
    ·go_ret2
     have hc0:c=0:=by assumption
     rw[HD.out,HD1.out,show 10 - k=(9 - k)+1 by omega,Num.dec_zero hc0 (by omega)];exact⟨rfl,hbel.trans hb1,_,hn1⟩
    ·go_ret2
     have hc0:c=0:=by assumption
     have hj:=(Num.join_acc acc k 0 HA.out hk9 (by omega) (by omega) (by omega)).1;rw[HD.out,HD1.out,show 10 - k=(9 - k)+1 by omega,Num.dec_last (by omega) (by omega) (by omega)];exact told_some (by rw[and0,hj,hc0];simp) (by have:=HQ.out;omega) (hbel.trans hb1) hn1
    ·go_ret2
     have hc1:1<c:=by assumption
     rw[HD.out,HD1.out,show 10 - k=(9 - k)+1 by omega,Num.dec_tenth hc1 (by omega)];exact⟨rfl,hbel.trans hb1,_,hn1⟩
    ·go_ret2
     have hj:=(Num.join_acc acc k c HA.out hk9 (by omega) (by omega) (by omega)).1;rw[HD.out,HD1.out,show 10 - k=(9 - k)+1 by omega,Num.dec_last (by omega) (by omega) (by omega)];exact told_some (by rw[hj,Nat.mod_eq_of_lt (by omega)]) (by have:=HQ.out;omega) (hbel.trans hb1) hn1
    ·go_ret2
     have hj:=(Num.join_acc acc k c HA.out hk9 (by omega) (by omega) (by omega)).1;rw[HD.out,HD1.out,show 10 - k=(9 - k)+1 by omega,Num.dec_last (by omega) (by omega) (by omega)];exact told_some (by rw[hj,Nat.mod_eq_of_lt (by omega)]) (by have:=HQ.out;omega) (hbel.trans hb1) hn1
    ·have hj:=Num.join_acc acc k c HA.out hk9 (by omega) (by omega) (by omega)
     go_roundw
     case rel=>
      refine⟨k+1,acc+c.toNat % 128*128 ^ k,q+1,by omega,by have:=HQ.out;omega,by omega,by go_num,by rw[hj.1],hj.2,?_,hbel.trans hb1,hn1⟩;rw[HD.out,HD1.out,show 10 - k=(9 - k)+1 by omega,Num.dec_more (by omega) (by omega) (by omega),show 10 - (k+1)=9 - k by omega]
     case measure=>simp [intOf];omega
   ·rw[if_neg hlt] at h
    obtain⟨rfl,rfl⟩:=h;have hv:Num.dec (10 - k) k acc (zs.drop q)=none:=by
     rw[List.drop_eq_nil_of_le (by have:=HL.out;omega),Num.dec_nil]
    go_wp2_with fail
    go_ret2
    rw[HD.out,hv];exact⟨rfl,hbel,_,HC.out⟩
end Go.Proofs.YtalfbcbnljhldaaGreatDoor

namespace Go.Proofs.YtalfbcbnljhldaaGreatDoor
open Go.RowKit
def Took (w w':World) (p:Nat) (e:Ending):Option (Nat×Nat)→Prop
 | none=>e= .returned (.tuple #[.int .u64 0,.int .i64 0,.int .i64 4])∧Below w.heap.size w w'
 | some (n,k)=>e= .returned (.tuple #[.int .u64 (n:Int),.int .i64 ((p:Int)+(k:Int)),.int .i64 0])∧Below w.heap.size w w'
set_option maxRecDepth 100000 in
set_option maxHeartbeats 1000000 in
theorem take_any (a:Option Addr) (len cap p:Nat) (zs:List Int) (w:World) (hlies:Reads w a zs) (hz:len=zs.length) (hl:len≤9223372036854775806) (hp:p≤len):
  Calls Tryz.prog 85 #[.slice a len cap,.int .i64 (p:Int)] w fun e w'=>Took w w' p e (Num.dec 10 0 0 (zs.drop p)):=by
 have HC:=Lib.hid hlies;have HZ:=Lib.hid hz;clear hlies hz;go_enter Tryz.func85,Tryz.ntmps85
 go_wp2_with fail
 have e1:((w.alloc (.cells #[.slice a len cap] 39)).alloc (.cells #[.int .i64 (p:Int)] 3)).heap.size=w.heap.size+2:=by simp
 have hbel:Below w.heap.size w ((w.alloc (.cells #[.slice a len cap] 39)).alloc (.cells #[.int .i64 (p:Int)] 3)):=
  ((Below.refl _ _).alloc (Nat.le_refl _) _).alloc (by simp) _
 have hN:((w.alloc (.cells #[.slice a len cap] 39)).alloc (.cells #[.int .i64 (p:Int)] 3)).heap[w.heap.size+1]?=some (.cells #[.int .i64 (p:Int)] 3 (0,0)):=by
  have:=heap_alloc_new (w.alloc (.cells #[.slice a len cap] 39)) (.cells #[.int .i64 (p:Int)] 3);simpa using this
 have hS:((w.alloc (.cells #[.slice a len cap] 39)).alloc (.cells #[.int .i64 (p:Int)] 3)).heap[w.heap.size]?=some (.cells #[.slice a len cap] 39 (0,0)):=
  (Below.heap_alloc _ _ _ (by simp)).trans (heap_alloc_new w _)
 have hsrc:Src ((w.alloc (.cells #[.slice a len cap] 39)).alloc (.cells #[.int .i64 (p:Int)] 3)) (w.heap.size+1) w.heap.size a len cap zs:=
  ⟨cell_of_one hS,fun i hi=>by
   obtain⟨x,hx,hb,hc⟩:=HC.out.cell i (by rw[←HZ.out];exact hi);exact⟨x,hx,by omega,(hbel.cell (p:=x.add i) (by rw[add_block];exact hb)).trans hc⟩,by omega,HZ.out,hl⟩
 refine(number_any (w.heap.size+1) w.heap.size a len cap p zs _ hsrc hN hp HC.out.hr).mono ?_;intro e w1 ht;clear hsrc hS hN HC;obtain⟨D,hD⟩: ∃D,D=Num.dec 10 0 0 (zs.drop p):=⟨_,rfl⟩;rw[←hD] at ht;have HD:=Lib.hid hD;clear hD;cases D with
 | none=>
  obtain⟨rfl,hb1,q,hn1⟩:=ht;have c1:=cell_of_one hn1;have c2:=free_of_one hn1;have d1:=cell_of_one (one_setCell (u:= .int .i64 0) hn1);go_wp2_with fail
  refine bodyPost_ret (v:= .tuple #[.int .u64 0,.int .i64 0,.int .i64 4]) (by simp [results,Tryz.results85,go_sem,d1]) rfl ?_;rw[←HD.out];exact⟨rfl,((hbel.trans (hb1.mono (by omega)))).setCell (p:=⟨w.heap.size+1,0,none⟩) (by show _≤w.heap.size+1;omega) _⟩
 | some nk=>
  obtain⟨n,k⟩:=nk;obtain⟨rfl,hb1,hn1⟩:=ht;obtain⟨q,hq⟩: ∃q:Int,q=((p+k:Nat):Int):=⟨_,rfl⟩;rw[←hq] at hn1;have HQ:=Lib.hid hq;clear hq;have c1:=cell_of_one hn1;have c2:=free_of_one hn1;go_wp2_with fail
  go_region
  go_wp2_with fail
  have d1:=cell_of_one (one_setCell (u:= .int .i64 q) hn1);refine bodyPost_ret (v:= .tuple #[.int .u64 n,.int .i64 q,.int .i64 0]) (by simp [results,Tryz.results85,go_sem,d1]) rfl ?_;rw[←HD.out];exact⟨by rw[HQ.out,Int.natCast_add],(((hbel.trans (hb1.mono (by omega)))).setCell (p:=⟨w.heap.size+1,0,none⟩) (by show _≤w.heap.size+1;omega) _).drew⟩
set_option maxRecDepth 100000 in
set_option maxHeartbeats 1000000 in
theorem take_out (a:Option Addr) (len cap:Nat) (p:Int) (w:World) (hp:p<0∨(len:Int)<p):
  Calls Tryz.prog 85 #[.slice a len cap,.int .i64 p] w fun e w'=>e= .returned (.tuple #[.int .u64 0,.int .i64 0,.int .i64 2])∧Below w.heap.size w w':=by
 have HO:=Lib.hid hp;clear hp;by_cases h1:p<0
 ·go_enter Tryz.func85,Tryz.ntmps85
  go_wp2_with fail
  have d1:((w.alloc (.cells #[.slice a len cap] 39)).alloc (.cells #[.int .i64 0] 3)).cell? ⟨w.heap.size+1,0,none⟩=some (.int .i64 0):=by simp
  exact bodyPost_ret (v:= .tuple #[.int .u64 0,.int .i64 0,.int .i64 2]) (by simp [results,Tryz.results85,go_sem,d1]) rfl ⟨rfl,((Below.refl _ _).alloc (Nat.le_refl _) _).alloc (by simp) _⟩
 ·have h2:(len:Int)<p:=by have:=HO.out;omega
  go_enter Tryz.func85,Tryz.ntmps85
  go_wp2_with fail
  have d1:((w.alloc (.cells #[.slice a len cap] 39)).alloc (.cells #[.int .i64 0] 3)).cell? ⟨w.heap.size+1,0,none⟩=some (.int .i64 0):=by simp
  exact bodyPost_ret (v:= .tuple #[.int .u64 0,.int .i64 0,.int .i64 2]) (by simp [results,Tryz.results85,go_sem,d1]) rfl ⟨rfl,((Below.refl _ _).alloc (Nat.le_refl _) _).alloc (by simp) _⟩
def TookText (w w':World) (len p:Nat) (zs:List Int) (e:Ending):Option (Nat×Nat)→Prop
 | none=>e= .returned (.tuple #[.string ByteArray.empty,.int .i64 0,.int .i64 4])∧Below w.heap.size w w'
 | some (n,k)=>Below w.heap.size w w'∧
   if n≤4096∧p+k+n≤len then e= .returned (.tuple #[.string (strOfNums ((zs.drop (p+k)).take n)),.int .i64 ((p:Int)+(k:Int)+(n:Int)),.int .i64 0])
   else e= .returned (.tuple #[.string ByteArray.empty,.int .i64 0,.int .i64 4])
set_option maxRecDepth 100000 in
set_option maxHeartbeats 1000000 in
theorem takeText_any (a:Option Addr) (len cap p:Nat) (zs:List Int) (w:World) (hlies:Reads w a zs) (hz:len=zs.length) (hl:len≤9223372036854775806) (hp:p≤len) (hcap:len≤cap) (hcm:cap≤9223372036854775807):
  Calls Tryz.prog 83 #[.slice a len cap,.int .i64 (p:Int)] w fun e w'=>TookText w w' len p zs e (Num.dec 10 0 0 (zs.drop p)):=by
 have hlt:=fun n j h=>Num.dec_lt 10 0 0 (zs.drop p) n j (by omega) (by simp) (fun x hx=>hlies.hr x (List.mem_of_mem_drop hx)) h;have HT:=Lib.hid (take_any a len cap p zs w hlies hz hl hp);have HLT:=Lib.hid hlt;have HL:=Lib.hid hlies;have hzz:=hz;clear hlt hlies hz;have hdl:(zs.drop p).length=len - p:=by rw[List.length_drop];omega
 rw[hdl] at HLT;have HZ:=Lib.hid hzz;clear hzz hdl;obtain⟨D,hD⟩: ∃D,D=Num.dec 10 0 0 (zs.drop p):=⟨_,rfl⟩;rw[←hD] at HT HLT ⊢;clear hD;go_enter Tryz.func83,Tryz.ntmps83
 go_wp2_with fail
 refine HT.out.mono ?_;intro e w1 ht;clear HT;cases D with
 | none=>
  obtain⟨rfl,hb⟩:=ht;go_wp2_with fail
  go_ret3
  exact⟨rfl,hb⟩
 | some nk=>
  obtain⟨n,k⟩:=nk;obtain⟨rfl,hb⟩:=ht;obtain⟨hn,hk0,hk⟩:=HLT.out n k rfl;by_cases hbig:4096<n
  ·go_wp2_with fail
   go_ret3
   exact⟨hb,by rw[if_neg (by omega)];rfl⟩
  ·by_cases hfit:p+k+n≤len
   ·have HP:Hid (n≤4096∧p+k+n≤len):=⟨by omega,hfit⟩
    by_cases hc:cap=p+k
    ·obtain rfl:n=0:=by omega
     have hcv: ∀c:Nat,(convert 39 9 (.slice a 0 c)).run Tryz.prog w1= .ok (.string ByteArray.empty) w1:=fun c=>
      run_convert_bytes_zero w1 _ _ Tryz.underlying39 Tryz.underlying5 a c _ Tryz.underlying9
     go_wp2_with fail
     go_ret3
     exact⟨hb,by rw[if_pos HP.out];rfl⟩
    ·have hcv:(convert 39 9 (.slice (Option.map (fun x=>x.add (p+k)) a) n (cap - (p+k)))).run Tryz.prog w1= .ok (.string (strOfNums ((zs.drop (p+k)).take n))) w1:=
      (((HL.out.below hb).drop (p+k)).take n).text n _ (by have:=HZ.out;rw[List.length_take,List.length_drop];omega)
     go_wp2_with fail
     go_ret3
     exact⟨hb,by rw[if_pos HP.out];rfl⟩
   ·go_wp2_with fail
    go_ret3
    exact⟨hb,by rw[if_neg (by omega)];rfl⟩
end Go.Proofs.YtalfbcbnljhldaaGreatDoor
