/-  -/
import Derived.Test.YtalfbcbnljhldaaGreatDoorMaf
import Derived.Test.YtalfbcbnljhldaaGreatDoorMac
import Derived.WalkSmall
import Derived.Test.YtalfbcbnljhldaaGreatDoorMap
import Derived.Deep.LoopGhost
import Derived.BigFrame
import Derived.Test.YtalfbcbnljhldaaGreatDoorMab
import Derived.Lib.Hide
import Derived.Test.YtalfbcbnljhldaaGreatDoorMag
import Derived.Lib.SlBytesConst
namespace Go.Proofs.YtalfbcbnljhldaaGreatDoor
open Go.RowKit Go.Maps Dsk Wl
def Body (w:World) (B:Nat) (zs:List Int) (v:Value):Prop:= ∃g c,v= .slice (some ⟨g,0,none⟩) zs.length c∧B≤g∧Here w g zs∧zs.length≤c∧c≤9223372036854775807
section
variable {w w':World} {B B':Nat} {zs:List Int} {v:Value}
theorem Body.keep (h:Body w B zs v) (hk: ∀k cs fr,B≤k→w.heap[k]?=some (.cells cs 5 fr)→v.ownBlock=some k→w'.heap[k]?=w.heap[k]?):Body w' B zs v:=by
 obtain⟨g,c,rfl,h1,h2,h3⟩:=h;obtain⟨cs,fr,hb,_⟩:=h2.blk;exact⟨g,c,rfl,h1,h2.other (hk g cs fr h1 hb rfl),h3⟩
theorem Body.below (h:Body w B zs v) (hb:Below w.heap.size w w'):Body w' B zs v:=h.keep fun k _ _ _ hk _=>hb.block k (lt_of_block hk)
theorem Body.less (h:Body w B zs v) (hB:B'≤B):Body w B' zs v:=by
 obtain⟨g,c,rfl,h1,h2⟩:=h;exact⟨g,c,rfl,Nat.le_trans hB h1,h2⟩
theorem Body.shape (h:Body w B zs v): ∃a c,v= .slice a zs.length c:=by
 obtain⟨g,c,rfl,_⟩:=h;exact⟨_,_,rfl⟩
theorem Body.reads {a:Option Addr} {c:Nat} (h:Body w B zs (.slice a zs.length c)):Reads w a zs∧zs.length≤c∧c≤9223372036854775807∧a≠none:=by
 obtain⟨g,c',e,_,h2,h3⟩:=h;simp only[Value.slice.injEq] at e;obtain⟨rfl,_,rfl⟩:=e;exact⟨h2.reads,h3.1,h3.2,by simp⟩
theorem Body.off {b:Nat} {cs:Array Value} {t:TypeId} {fr:Nat×Nat} (h:Body w B zs v) (hb:w.heap[b]?=some (.cells cs t fr)) (hne:5≠t):v.ownBlock≠some b:=by
 obtain⟨g,c,rfl,h1,h2,h3⟩:=h;obtain⟨cs',fr',hg,_⟩:=h2.blk;intro e0;have e1:g=b:=by simpa [Value.ownBlock] using e0
 subst e1;rw[hg] at hb;injection hb with h1
 injection h1 with _ h2
 exact hne h2
theorem Body.conv (w:World) (zs:List Int) (hr: ∀x∈zs,0≤x∧x≤255) (hl:zs.length≤1048576):Body (Lib.bytesWorld w 5 (strOfNums zs)) w.heap.size zs (.slice (some ⟨w.heap.size,0,none⟩) zs.length (grownCap w zs.length 0 5)):=
 ⟨_,_,rfl,Nat.le_refl _,bytes_here w zs hr (by omega),grownCap_ge _ _ _ _,by have:=grownCap_le_maxLen w zs.length 0 5 (by unfold maxLen;omega);unfold maxLen at this;omega⟩
end
def entCells:List Ent→List Value→List Value
 | e::es,v::vs=> .int .u64 e.ix:: .int .u64 e.term::v::entCells es vs
 | _,_=> []
theorem entCells_len: ∀(es:List Ent) (vs:List Value),vs.length=es.length→(entCells es vs).length=es.length*3
 | [],_,_=>by simp [entCells]
 | e::es,[],h=>by simp at h
 | e::es,v::vs,h=>by
  simp only[entCells,List.length_cons];rw[entCells_len es vs (by simpa using h)];omega
theorem entCells_snoc: ∀(es:List Ent) (vs:List Value) (e:Ent) (v:Value),vs.length=es.length→entCells (es++ [e]) (vs++ [v])=entCells es vs++ [.int .u64 e.ix,.int .u64 e.term,v]
 | [],[],e,v,_=>rfl
 | [],v'::vs,e,v,h=>by simp at h
 | e'::es,[],e,v,h=>by simp at h
 | e'::es,v'::vs,e,v,h=>by
  simp only[entCells,List.cons_append];rw[entCells_snoc es vs e v (by simpa using h)]
theorem entCells_at: ∀(es:List Ent) (vs:List Value) (i:Nat) (hi:i<es.length),vs.length=es.length→
  (entCells es vs)[i*3]?=some (.int .u64 es[i].ix)∧(entCells es vs)[i*3+1]?=some (.int .u64 es[i].term)∧(entCells es vs)[i*3+2]?=some (vs.getD i undef)
 | [],_,i,hi,_=>by simp at hi
 | e::es,[],i,hi,h=>by simp at h
 | e::es,v::vs,0,hi,h=>by simp [entCells]
 | e::es,v::vs,i+1,hi,h=>by
  have:=entCells_at es vs i (by simpa using hi) (by simpa using h);simp only[entCells];rw[show(i+1)*3=i*3+1+1+1 by omega];simpa using this
structure EntRow (w:World) (B:Nat) (es:List Ent) (v:Value):Prop where
 row: ∃vs:List Value,vs.length=es.length∧w.ownsRow B 55 3 v es.length (entCells es vs)∧ ∀i (h:i<es.length),Body w B es[i].body (vs.getD i undef)
theorem ownsRow_apart {w:World} {B B':Nat} {e e':TypeId} {size size' n m:Nat} {v u:Value} {xs ys:List Value} (h:w.ownsRow B e size v n xs) (h':w.ownsRow B' e' size' u m ys) (hne:e≠e'):v.ownBlock=none∨v.ownBlock≠u.ownBlock:=by
 rcases h.2 with⟨rfl,_⟩ | ⟨g,cap,cur,rfl,_,hg,_⟩
 ·exact .inl rfl
 ·refine .inr fun e0=>?_
  rcases h'.2 with⟨rfl,_⟩ | ⟨g',cap',cur',rfl,_,hg',_⟩
  ·cases e0
  ·have e1:g=g':=by simpa [Value.ownBlock] using e0
   subst e1;rw[hg] at hg';injection hg' with h1
   injection h1 with _ h2
   exact hne h2
theorem ownsRow_less {w:World} {B B':Nat} {e:TypeId} {size n:Nat} {v:Value} {xs:List Value} (h:w.ownsRow B e size v n xs) (hB:B'≤B):w.ownsRow B' e size v n xs:=by
 refine⟨h.1,?_⟩;rcases h.2 with hn | ⟨g,cap,cur,rfl,hb,rest⟩
 ·exact .inl hn
 ·exact .inr ⟨g,cap,cur,rfl,Nat.le_trans hB hb,rest⟩
theorem ownsRow_off {w:World} {B:Nat} {e t:TypeId} {size n:Nat} {v:Value} {xs:List Value} {b:Nat} {cs:Array Value} {fr:Nat×Nat} (h:w.ownsRow B e size v n xs) (hb:w.heap[b]?=some (.cells cs t fr)) (hne:e≠t):v.ownBlock≠some b:=by
 rcases h.2 with⟨rfl,_⟩ | ⟨g,cap,cur,rfl,_,hg,_⟩
 ·intro e0;cases e0
 ·intro e0
  have e1:g=b:=by simpa [Value.ownBlock] using e0
  subst e1;rw[hg] at hb;injection hb with h1
  injection h1 with _ h2
  exact hne h2
section
variable {w w':World} {B B':Nat} {es:List Ent} {v:Value}
theorem EntRow.keep (h:EntRow w B es v) (hk: ∀k cs,B≤k→w.heap[k]?=some (.cells cs 55 (0,0))→v.ownBlock=some k→w'.heap[k]?=w.heap[k]?) (hu: ∀k cs fr,B≤k→w.heap[k]?=some (.cells cs 5 fr)→w'.heap[k]?=w.heap[k]?):EntRow w' B es v:=by
 obtain⟨vs,h1,h2,h3⟩:=h.row;refine⟨vs,h1,ownsRow_keep h2 fun k e=>?_,fun i hi=>(h3 i hi).keep fun k cs fr hB hb _=>hu k cs fr hB hb⟩;rcases h2.2 with⟨rfl,_⟩ | ⟨g,cap,cur,rfl,hB,hg,_⟩
 ·cases e
 ·have e1:g=k:=by simpa [Value.ownBlock] using e
  subst e1;exact hk g cur hB hg rfl
theorem EntRow.below (h:EntRow w B es v) (hb:Below w.heap.size w w'):EntRow w' B es v:=
 h.keep (fun _ _ _ hk _=>hb.block _ (Array.getElem?_eq_some_iff.1 hk).1) (fun _ _ _ _ hk=>hb.block _ (Array.getElem?_eq_some_iff.1 hk).1)
theorem EntRow.nil (w:World) (B:Nat):EntRow w B [] (.slice none 0 0):=⟨[],rfl,World.ownsRow_nil _ _ _ _,fun i hi=>by simp at hi⟩
theorem EntRow.shape (h:EntRow w B es v): ∃a c,v= .slice a es.length c∧(a=none→es.length=0∧c=0):=by
 obtain⟨vs,h1,h2,h3⟩:=h.row;exact slice_shape h2
theorem EntRow.at_ (h:EntRow w B es v) {i:Nat} (hi:i<es.length): ∃g cap a c,v= .slice (some ⟨g,0,none⟩) es.length cap∧B≤g∧g<w.heap.size∧w.cell? ⟨g,i*3,none⟩=some (.int .u64 es[i].ix)∧w.cell? ⟨g,i*3+1,none⟩=some (.int .u64 es[i].term)∧
  w.cell? ⟨g,i*3+2,none⟩=some (.slice a es[i].body.length c)∧Body w B es[i].body (.slice a es[i].body.length c)∧es.length≤cap∧cap≤maxLen:=by
 obtain⟨vs,h1,h2,h3⟩:=h.row;obtain⟨c1,c2,c3⟩:=entCells_at es vs i hi h1;have hr:=h3 i hi;obtain⟨a,c,hs⟩:=hr.shape;rcases h2.2 with⟨_,hn⟩ | ⟨g,cap,cur,rfl,hB,hg,hle,hcm,_⟩
 ·omega
 ·refine⟨g,cap,a,c,rfl,hB,lt_of_block hg,?_,?_,?_,hs ▸ hr,hle,hcm⟩
  ·rw[h2.cellAt _ (by omega),c1]
  ·rw[h2.cellAt _ (by omega),c2]
  ·rw[h2.cellAt _ (by omega),c3,hs]
theorem EntRow.pop {e:Ent} {a:Option Addr} {c:Nat} (h:EntRow w B (es++ [e]) (.slice a (es.length+1) c)):EntRow w B es (.slice a es.length c):=by
 obtain⟨vs,h1,h2,h3⟩:=h.row;have hne:vs≠ []:=fun e=>by rw[e] at h1;simp at h1
 obtain⟨us,u,rfl⟩: ∃us u,vs=us++ [u]:=⟨vs.dropLast,vs.getLast hne,(List.dropLast_concat_getLast hne).symm⟩;have hl:us.length=es.length:=by simpa using h1
 rw[entCells_snoc _ _ _ _ hl,List.length_append] at h2;refine⟨us,hl,?_,fun i hi=>?_⟩
 ·rcases h2.2 with⟨hv,_⟩ | ⟨g,cap,cur,hv,_⟩
  ·injection hv with _ hv;omega
  ·simp only[Value.slice.injEq] at hv
   obtain⟨rfl,_,rfl⟩:=hv;exact ownsRow_pop (entCells_len _ _ hl) h2
 ·have:=h3 i (by simp;omega)
  have e1:(es++ [e])[i]'(by simp;omega)=es[i]:=by simp [hi]
  have e2:(us++ [u]).getD i undef=us.getD i undef:=by simp [List.getD,List.getElem?_append,show i<us.length by omega]
  rw[e1,e2] at this;exact this
theorem EntRow.more {e:Ent} {s v':Value} {vs:List Value} (h1:vs.length=es.length) (h2:w.ownsRow B 55 3 v es.length (entCells es vs)) (h3: ∀i (h:i<es.length),Body w B es[i].body (vs.getD i undef)) (hs:Body w B e.body s) (hg:w.grownBy w' v.ownBlock)
  (hrow:w'.ownsRow B 55 3 v' (es.length+1) (entCells es vs++ [.int .u64 e.ix,.int .u64 e.term,s])):EntRow w' B (es++ [e]) v':=by
 have hk: ∀ {zs:List Int} {u:Value},Body w B zs u→Body w' B zs u:=fun hr=>hr.keep fun k cs fr _ hb _=>hg.block k (lt_of_block hb) fun e0=>ownsRow_off h2 hb (by decide) e0.symm;refine⟨vs++ [s],by simp [h1],?_,fun i hi=>?_⟩
 ·rw[entCells_snoc _ _ _ _ h1,List.length_append]
  exact hrow
 ·by_cases hin:i<es.length
  ·have e1:(es++ [e])[i]'hi=es[i]:=by simp [hin]
   have e2:(vs++ [s]).getD i undef=vs.getD i undef:=by simp [List.getD,List.getElem?_append,show i<vs.length by omega]
   rw[e1,e2];exact hk (h3 i hin)
  ·obtain rfl:i=es.length:=by simp at hi;omega
   have e1:(es++ [e])[es.length]'hi=e:=by simp
   have e2:(vs++ [s]).getD es.length undef=s:=by simp [List.getD,←h1]
   rw[e1,e2];exact hk hs
end
theorem last_none (a:Option Addr) (c:Nat) (w:World):Calls Tryz.prog 37 #[.slice a 0 c] w fun e w'=>e= .returned (.int .u64 0)∧w=w':=by
 go_enter Tryz.func37,Tryz.ntmps37
 go_wp2
 go_ret
 exact⟨rfl,rfl⟩
theorem last_some (g n c:Nat) (x:Int) (w:World) (hn:n+1≤1000000000) (hc:w.cell? ⟨g,n*3,none⟩=some (.int .u64 x)):Calls Tryz.prog 37 #[.slice (some ⟨g,0,none⟩) (n+1) c] w fun e w'=>e= .returned (.int .u64 x)∧w=w':=by
 go_enter Tryz.func37,Tryz.ntmps37
 go_wp2
 go_ret
 exact⟨rfl,rfl⟩
theorem last_any {w:World} {B:Nat} {es:List Ent} {v:Value} (h:EntRow w B es v) (hn:es.length≤1000000000):Calls Tryz.prog 37 #[v] w fun e w'=>e= .returned (.int .u64 (lastIx es))∧w=w':=by
 by_cases he:es= []
 ·subst he
  obtain⟨a,c,rfl,_⟩:=h.shape;exact last_none a c w
 ·obtain⟨r,e,rfl⟩:=snoc_of he
  obtain⟨g,cap,a,c,rfl,_,_,hc,_⟩:=h.at_ (i:=r.length) (by simp);have e1:(r++ [e])[r.length]'(by simp)=e:=by simp
  rw[e1] at hc;rw[lastIx_snoc,List.length_append];exact last_some g r.length cap e.ix w (by simpa using hn) hc
theorem follows_any (l i:Nat) (w:World):Calls Tryz.prog 60 #[.int .u64 (l:Int),.int .u64 (i:Int)] w fun e w'=>e= .returned (.bool (follows l i))∧w=w':=by
 have hwr:IntKind.u64.wrap ((l:Int)+1)=(((l+1) % 18446744073709551616:Nat):Int):=by
  rw[IntKind.wrap_u64];omega
 have e1:decide ((0:Int)<(i:Int))=decide (0<i):=by simp
 have e2:((l:Int) == 0)=decide (l=0):=by
  rw[Bool.eq_iff_iff];simp
 have e3:decide ((i:Int)≤(((l+1) % 18446744073709551616:Nat):Int))=decide (i≤(l+1) % 18446744073709551616):=by
  rw[decide_eq_decide];omega
 unfold follows;generalize decide (0<i)=b1 at*;generalize decide (l=0)=b2 at*;generalize decide (i≤(l+1) % 18446744073709551616)=b3 at*;generalize (((l+1) % 18446744073709551616:Nat):Int)=M at*;go_enter Tryz.func60,Tryz.ntmps60
 cases b1<;>cases b2<;>cases b3;all_goals go_wp2
 all_goals first
  | (go_ret;exact⟨rfl,rfl⟩)
  | (exfalso;simp at e1;omega)
end Go.Proofs.YtalfbcbnljhldaaGreatDoor

namespace Go.Proofs.YtalfbcbnljhldaaGreatDoor
open Go.Lib (hid)
open Go.RowKit Go.Maps Go.Sort Dsk Wl
theorem info_seg:(Tryz.prog.info? 63).map (fun i=>(i.zero,i.size,i.bytes))=some (some (.agg #[.int .i64 0,.slice none 0 0,.int .i64 0,.int .i64 0,.int .u64 0]),5,56):=by kernel_rfl
structure Sx where
 num:Nat
 bs:List Int
 good:Nat
 n:Nat
 top:Nat
def Sx.mk0 (k:Nat):Sx:=⟨k,[],0,0,0⟩
def segCells:List Sx→List Value→List Value
 | s::r,v::vs=> .int .i64 s.num::v:: .int .i64 s.good:: .int .i64 s.n:: .int .u64 s.top::segCells r vs
 | _,_=> []
theorem segCells_snoc: ∀(l:List Sx) (vs:List Value) (s:Sx) (v:Value),vs.length=l.length→segCells (l++ [s]) (vs++ [v])=segCells l vs++ [.int .i64 s.num,v,.int .i64 s.good,.int .i64 s.n,.int .u64 s.top]
 | [],[],e,v,_=>rfl
 | [],v'::vs,e,v,h=>by simp at h
 | e'::es,[],e,v,h=>by simp at h
 | e'::es,v'::vs,e,v,h=>by
  simp only[segCells,List.cons_append];rw[segCells_snoc es vs e v (by simpa using h)]
theorem segCells_at: ∀(l:List Sx) (vs:List Value) (i:Nat) (hi:i<l.length),vs.length=l.length→
  (segCells l vs)[i*5]?=some (.int .i64 l[i].num)∧(segCells l vs)[i*5+1]?=some (vs.getD i undef)∧(segCells l vs)[i*5+2]?=some (.int .i64 l[i].good)∧(segCells l vs)[i*5+3]?=some (.int .i64 l[i].n)∧(segCells l vs)[i*5+4]?=some (.int .u64 l[i].top)
 | [],_,i,hi,_=>by simp at hi
 | e::es,[],i,hi,h=>by simp at h
 | e::es,v::vs,0,hi,h=>by simp [segCells]
 | e::es,v::vs,i+1,hi,h=>by
  have:=segCells_at es vs i (by simpa using hi) (by simpa using h);simp only[segCells];rw[show(i+1)*5=i*5+1+1+1+1+1 by omega];simpa using this
structure SegRow (w:World) (B:Nat) (l:List Sx) (v:Value):Prop where
 row: ∃vs:List Value,vs.length=l.length∧w.ownsRow B 63 5 v l.length (segCells l vs)∧ ∀i (h:i<l.length),Row w B l[i].bs (vs.getD i undef)
section
variable {w w':World} {B B':Nat} {l:List Sx} {v:Value}
theorem SegRow.keep (h:SegRow w B l v) (hk: ∀k cs,B≤k→w.heap[k]?=some (.cells cs 63 (0,0))→v.ownBlock=some k→w'.heap[k]?=w.heap[k]?) (hu: ∀k cs,B≤k→w.heap[k]?=some (.cells cs 5 (0,0))→w'.heap[k]?=w.heap[k]?):SegRow w' B l v:=by
 obtain⟨vs,h1,h2,h3⟩:=h.row;refine⟨vs,h1,ownsRow_keep h2 fun k e=>?_,fun i hi=>(h3 i hi).keep fun k e=>?_⟩
 ·rcases h2.2 with⟨rfl,_⟩ | ⟨g,cap,cur,rfl,hB,hg,_⟩
  ·cases e
  ·have e1:g=k:=by simpa [Value.ownBlock] using e
   subst e1;exact hk g cur hB hg rfl
 ·rcases(h3 i hi).2 with⟨hv,_⟩ | ⟨g,cap,cur,hv,hB,hg,_⟩
  ·rw[hv] at e;cases e
  ·rw[hv] at e
   have e1:g=k:=by simpa [Value.ownBlock] using e
   subst e1;exact hu g cur hB hg
theorem SegRow.below (h:SegRow w B l v) (hb:Below w.heap.size w w'):SegRow w' B l v:=
 h.keep (fun _ _ _ hk _=>hb.block _ (lt_of_block hk)) (fun _ _ _ hk=>hb.block _ (lt_of_block hk))
theorem SegRow.less (h:SegRow w B l v) (hB:B'≤B):SegRow w B' l v:=by
 obtain⟨vs,h1,h2,h3⟩:=h.row;exact⟨vs,h1,ownsRow_less h2 hB,fun i hi=>(h3 i hi).less hB⟩
theorem SegRow.nil (w:World) (B:Nat):SegRow w B [] (.slice none 0 0):=⟨[],rfl,World.ownsRow_nil _ _ _ _,fun i hi=>by simp at hi⟩
theorem SegRow.shape (h:SegRow w B l v): ∃a c,v= .slice a l.length c∧(a=none→l.length=0∧c=0):=by
 obtain⟨vs,h1,h2,h3⟩:=h.row;exact slice_shape h2
theorem SegRow.at_ (h:SegRow w B l v) {i:Nat} (hi:i<l.length): ∃g cap a c,v= .slice (some ⟨g,0,none⟩) l.length cap∧B≤g∧g<w.heap.size∧w.cell? ⟨g,i*5,none⟩=some (.int .i64 l[i].num)∧w.cell? ⟨g,i*5+1,none⟩=some (.slice a l[i].bs.length c)∧
  w.cell? ⟨g,i*5+2,none⟩=some (.int .i64 l[i].good)∧w.cell? ⟨g,i*5+3,none⟩=some (.int .i64 l[i].n)∧w.cell? ⟨g,i*5+4,none⟩=some (.int .u64 l[i].top)∧Row w B l[i].bs (.slice a l[i].bs.length c)∧l.length≤cap∧cap≤maxLen:=by
 obtain⟨vs,h1,h2,h3⟩:=h.row;obtain⟨c1,c2,c3,c4,c5⟩:=segCells_at l vs i hi h1;have hr:=h3 i hi;obtain⟨a,c,hs⟩:=hr.shape;rcases h2.2 with⟨_,hn⟩ | ⟨g,cap,cur,rfl,hB,hg,hle,hcm,_⟩
 ·omega
 ·refine⟨g,cap,a,c,rfl,hB,lt_of_block hg,?_,?_,?_,?_,?_,hs ▸ hr,hle,hcm⟩
  ·rw[h2.cellAt _ (by omega),c1]
  ·rw[h2.cellAt _ (by omega),c2,hs]
  ·rw[h2.cellAt _ (by omega),c3]
  ·rw[h2.cellAt _ (by omega),c4]
  ·rw[h2.cellAt _ (by omega),c5]
theorem SegRow.more0 {v':Value} {k:Nat} {vs:List Value} (h1:vs.length=l.length) (h2:w.ownsRow B 63 5 v l.length (segCells l vs)) (h3: ∀i (h:i<l.length),Row w B l[i].bs (vs.getD i undef)) (hg:w.grownBy w' v.ownBlock)
  (hrow:w'.ownsRow B 63 5 v' (l.length+1) (segCells l vs++ [.int .i64 (k:Int),.slice none 0 0,.int .i64 0,.int .i64 0,.int .u64 0])):SegRow w' B (l++ [Sx.mk0 k]) v':=by
 refine⟨vs++ [.slice none 0 0],by simp [h1],?_,fun i hi=>?_⟩
 ·rw[segCells_snoc _ _ _ _ h1,List.length_append]
  exact hrow
 ·by_cases hin:i<l.length
  ·have e1:(l++ [Sx.mk0 k])[i]'hi=l[i]:=by simp [hin]
   have e2:(vs++ [Value.slice none 0 0]).getD i undef=vs.getD i undef:=by simp [List.getD,List.getElem?_append,show i<vs.length by omega]
   rw[e1,e2];exact World.ownsRow.kept (h3 i hin) hg (ownsRow_apart (h3 i hin) h2 (by decide))
  ·obtain rfl:i=l.length:=by simp at hi;omega
   have e1:(l++ [Sx.mk0 k])[l.length]'hi=Sx.mk0 k:=by simp
   have e2:(vs++ [Value.slice none 0 0]).getD l.length undef= .slice none 0 0:=by simp [List.getD,←h1]
   rw[e1,e2];exact World.ownsRow_nil _ _ _ _
end
theorem nums_take (ks:List Name) (k:Nat) (hk:k<ks.length):numsOf (ks.take (k+1))=numsOf (ks.take k)++(match numOf ks[k] with | none=> [] | some n=> [n]):=by
 rw[List.take_add_one,List.getElem?_eq_getElem hk,numsOf,List.filterMap_append];congr 1
 cases h:numOf ks[k]<;>simp [h]
set_option maxRecDepth 100000 in
set_option maxHeartbeats 1000000 in
theorem among_any (B B':Nat) (ks:List Name) (a:Option Addr) (c:Nat) (w:World) (ht:Tabs B w) (hB:B≤w.heap.size) (hs:StrRow w B' ks (.slice a ks.length c)) (hn:ks.length<1000000000) (hl: ∀n∈ks,n.length≤100):
  Calls Tryz.prog 42 #[.slice a ks.length c] w fun r w'=> ∃v,r= .returned v∧SegRow w' w.heap.size ((numsOf ks).map Sx.mk0) v∧Below w.heap.size w w':=by
 obtain⟨i0,hi,hz0,hz1,hz2⟩:=info_parts info_seg;have HS:=hid hs;have HL:=hid hl;have HT:=hid ht;clear hs hl ht;go_enter Tryz.func42,Tryz.ntmps42
 go_wp2_with fail
 go_loopw [3,10] (fun v i wr=> ∃(k:Nat) (a n c:_),k≤ks.length∧i= .int .i64 (k:Int)∧v= .slice a n c∧SegRow wr w.heap.size ((numsOf (ks.take k)).map Sx.mk0) (.slice a n c)∧Below w.heap.size w wr) (fun _ i _=>ks.length - (intOf i).toNat)
 case atStart=>exact⟨0,none,0,0,Nat.zero_le _,rfl,rfl,SegRow.nil _ _,Below.refl _ _⟩
 case round=>
  obtain⟨k,a1,n1,c1,hk,rfl,rfl,hrow,hbel⟩:=hrel;by_cases hkl:k<ks.length
  ·obtain⟨g,rfl,hgB,hgs,hcn⟩: ∃g,a=some ⟨g,0,none⟩∧B'≤g∧g<w.heap.size∧w.cell? ⟨g,k,none⟩=some (encStr ks[k]):=by
    have h:=HS.out;unfold StrRow at h;rcases h.2 with⟨_,hn⟩ | ⟨g,cap,cur,hv,hgB,hg,_⟩
    ·omega
    ·simp only[Value.slice.injEq] at hv
     obtain⟨rfl,_,rfl⟩:=hv;exact⟨g,rfl,hgB,lt_of_block hg,by rw[World.ownsRow.cellAt h k (by omega)];simp [hkl]⟩
   have hcr:wr.cell? ⟨g,k,none⟩=some (.string ⟨ks[k].toArray⟩):=(hbel.cell (p:=⟨g,k,none⟩) hgs).trans hcn;have hBr:=hbel.size;have htr:=HT.out.below (hbel.mono hB);obtain⟨ae,hsyn⟩:=htr.syn;have HROW:=hid hrow;have HBEL:=hid hbel;have HKL:=hid (HL.out ks[k] (List.getElem_mem hkl));have HTK:=hid (nums_take ks k hkl);obtain⟨nm,hnm⟩: ∃nm,nm=ks[k]:=⟨_,rfl⟩;rw[←hnm] at hcr HKL HTK;clear hrow hbel hcn htr hnm;cases hno:numOf nm with
   | none=>
    have HN:=hid (number_no nm ae wr HKL.out hno hsyn);rw[hno] at HTK;clear hno;go_wp2_with fail
    refine HN.out.mono ?_;rintro r w2 ⟨rfl,hb2⟩;have hsyn2:w2.cell? ⟨0,0,none⟩=some (.iface 222 (.pointer (some ae))):=(hb2.cell (lt_of_cell hsyn)).trans hsyn;go_wp2_with fail
    refine(is_same ae w2).mono ?_;rintro r w3 ⟨rfl,rfl⟩;go_wp2
    go_roundw
    case rel=>exact⟨k+1,a1,n1,c1,by omega,by simp,rfl,by rw[HTK.out,List.append_nil];exact HROW.out.below hb2,HBEL.out.trans (hb2.mono hBr)⟩
    case measure=>simp [intOf];omega
   | some m=>
    have HN:=hid (number_yes nm m wr hno);rw[hno] at HTK;clear hno;go_wp2_with fail
    refine HN.out.mono ?_;rintro r w2 ⟨rfl,hb2⟩;have hsyn2:w2.cell? ⟨0,0,none⟩=some (.iface 222 (.pointer (some ae))):=(hb2.cell (lt_of_cell hsyn)).trans hsyn;go_wp2_with fail
    refine(is_nil ae w2).mono ?_;rintro r w3 ⟨rfl,rfl⟩;have HR2:=hid (HROW.out.below hb2);have HB2:=hid (HBEL.out.trans (hb2.mono hBr));obtain⟨vs,v1,v2,v3⟩:=HR2.out.row;obtain⟨a1',c1',hsh,_⟩:=HR2.out.shape;simp only[Value.slice.injEq] at hsh;obtain⟨rfl,hn1,rfl⟩:=hsh;have hnl:n1≤1000000000:=by
     rw[hn1,List.length_map];have:=List.length_filterMap_le numOf (ks.take k);rw[List.length_take] at this;unfold numsOf;omega
    have hB2s:=HB2.out.size;have hown:(w3.alloc (.cells #[.int .i64 (m:Int),.slice none 0 0,.int .i64 0,.int .i64 0,.int .u64 0] 63)).ownsRow w.heap.size 63 5 (.slice a1 n1 c1) n1 (segCells ((numsOf (ks.take k)).map Sx.mk0) vs):=by
     rw[hn1] at v2 ⊢;exact v2.alloc _
    have hnews:=cells_new w3 [.int .i64 (m:Int),.slice none 0 0,.int .i64 0,.int .i64 0,.int .u64 0] 63;have V1:=hid v1;have V2:=hid v2;have V3:=hid v3;have HN1:=hid hn1;clear v1 v2 v3 hn1;go_wp2_with (at_builtin;go_loud (refine wpList_append_own _ rfl _ _ 59 rfl w.heap.size 63 i0 (.agg #[.int .i64 0,.slice none 0 0,.int .i64 0,.int .i64 0,.int .u64 0]) 5 56 Tryz.underlying59 hi hz0 hz1 hz2 rfl (by decide) _ _ _ rfl hown ⟨w3.heap.size,0,none⟩ 1 1 [.int .i64 (m:Int),.slice none 0 0,.int .i64 0,.int .i64 0,.int .u64 0] rfl rfl hnews (by simp [Value.oneCell']) (by unfold maxLen;omega) (by omega) (by simp;omega) ?_))
    intro v' w4 hown' hg4 hnil4;obtain⟨a',c',rfl,_⟩:=slice_shape hown';have hal:Below w3.heap.size w3 (w3.alloc (.cells #[.int .i64 (m:Int),.slice none 0 0,.int .i64 0,.int .i64 0,.int .u64 0] 63)):=(Below.refl _ _).alloc (Nat.le_refl _) _;have hent:SegRow w4 w.heap.size ((numsOf (ks.take (k+1))).map Sx.mk0) (.slice a' (n1+1) c'):=by
     rw[HTK.out,List.map_append];have hn1:=HN1.out;rw[hn1] at hown hg4 hown';have:=SegRow.more0 (k:=m) V1.out hown (fun i hi'=>(V3.out i hi').below hal) hg4 hown';rw[hn1];exact this
    have hb4:Below w.heap.size w w4:=((HB2.out.trans (hal.mono hB2s)).grown hg4 (by simp;omega) (fun j hj=>by
     have:=(World.ownsRow.lt hown j hj).1;omega))
    have HE:=hid hent;have HB4:=hid hb4;clear hown' hg4 hnil4 hown hnews hent hb4;go_wp2
    go_roundw
    case rel=>exact⟨k+1,a',n1+1,c',by omega,by simp,rfl,HE.out,HB4.out⟩
    case measure=>simp [intOf];omega
  ·have hke:k=ks.length:=by omega
   subst hke;rw[List.take_length] at hrow;have HROW:=hid hrow;have HBEL:=hid hbel;clear hrow hbel;go_wp2
   go_ret
   exact⟨_,rfl,HROW.out,HBEL.out⟩
end Go.Proofs.YtalfbcbnljhldaaGreatDoor

namespace Go.Proofs.YtalfbcbnljhldaaGreatDoor
open Go.Lib (hid)
open Go.RowKit Go.Maps Dsk Wl
theorem info_ent:(Tryz.prog.info? 55).map (fun i=>(i.zero,i.size,i.bytes))=some (some (.agg #[.int .u64 0,.int .u64 0,.slice none 0 0]),3,40):=by kernel_rfl
structure Boxed (w:World) (B eb:Nat) (es:List Ent):Prop where
 at_: ∃v,w.heap[eb]?=some (.cells #[v] 36 (0,0))∧EntRow w B es v
structure Turns (B eb:Nat) (w w':World):Prop where
 os:w'.os=w.os
 tape:w'.tape=w.tape
 output:w'.output=w.output
 size:w.heap.size≤w'.heap.size
 block: ∀k,k<w.heap.size→k≠eb→(∀cs,B≤k→w.heap[k]?≠some (.cells cs 55 (0,0)))→w'.heap[k]?=w.heap[k]?
theorem Turns.of_below {B eb:Nat} {w w':World} (h:Below w.heap.size w w'):Turns B eb w w':=⟨h.os,h.tape,h.output,h.size,fun k hk _ _=>h.block k hk⟩
theorem Turns.below {B eb:Nat} {w w':World} (h:Turns B eb w w') (hB:B≤w.heap.size) (he:B≤eb):Below B w w':=⟨h.os,h.tape,h.output,h.size,fun k hk=>h.block k (by omega) (by omega) (fun cs hb=>absurd hb (by omega))⟩
theorem Turns.typed {B eb k:Nat} {w w':World} {cs:Array Value} {t:TypeId} {fr:Nat×Nat} (h:Turns B eb w w') (hk:w.heap[k]?=some (.cells cs t fr)) (ht:t≠55) (hne:k≠eb):w'.heap[k]?=w.heap[k]?:=
 h.block k (lt_of_block hk) hne fun cs' _ h'=>by rw[hk] at h';injection h' with h1;injection h1 with _ h2;exact ht h2
theorem Turns.trans {B eb:Nat} {w w1 w2:World} (h:Turns B eb w w1) (k:Turns B eb w1 w2):Turns B eb w w2:=
 ⟨k.os.trans h.os,k.tape.trans h.tape,k.output.trans h.output,Nat.le_trans h.size k.size,fun j hj hne ht=>by
  have h1:=h.block j hj hne ht;exact(k.block j (Nat.lt_of_lt_of_le hj h.size) hne (fun cs hb=>by rw[h1];exact ht cs hb)).trans h1⟩
theorem Turns.set {B eb:Nat} (w:World) (v:Value):Turns B eb w (w.setCell ⟨eb,0,none⟩ v):=
 ⟨rfl,rfl,rfl,by simp [World.setCell],fun k _ hk _=>Below.heap_setCell _ _ _ _ fun e=>hk (by rw[e])⟩
theorem Turns.grown {B eb:Nat} {w w':World} {size n:Nat} {v:Value} {xs:List Value} (hr:w.ownsRow B 55 size v n xs) (hg:w.grownBy w' v.ownBlock):Turns B eb w w':=
 ⟨hg.os,hg.tape,hg.output,hg.size,fun k hk _ ht=>hg.block k hk fun e=>by
  rcases hr.2 with⟨rfl,_⟩ | ⟨g,cap,cur,rfl,hb,hgg,_⟩
  ·cases e
  ·have e1:k=g:=by simpa [Value.ownBlock] using e
   subst e1;exact ht cur hb hgg⟩
theorem Turns.row {B eb:Nat} {w w':World} {B':Nat} {zs:List Int} {u:Value} (h:Turns B eb w w') (hr:Body w B' zs u) {cs:Array Value} {fr:Nat×Nat} (hb:w.heap[eb]?=some (.cells cs 36 fr)):Body w' B' zs u:=
 hr.keep fun k cs' fr' _ hk e=>h.typed hk (by decide) fun e2=>by subst e2;exact hr.off hb (by decide) e
theorem Boxed.box {w:World} {B eb:Nat} {es:List Ent} (h:Boxed w B eb es): ∃cs,w.heap[eb]?=some (.cells cs 36 (0,0)):=by
 obtain⟨v,hb,_⟩:=h.at_;exact⟨_,hb⟩
theorem Boxed.below {w w':World} {B eb:Nat} {es:List Ent} (h:Boxed w B eb es) (hb:Below w.heap.size w w'):Boxed w' B eb es:=by
 obtain⟨v,h1,h2⟩:=h.at_;exact⟨v,(hb.block eb (lt_of_block h1)).trans h1,h2.below hb⟩
theorem Boxed.cell {w:World} {B eb:Nat} {es:List Ent} (h:Boxed w B eb es): ∃a c,w.cell? ⟨eb,0,none⟩=some (.slice a es.length c)∧EntRow w B es (.slice a es.length c):=by
 obtain⟨v,h1,h2⟩:=h.at_;obtain⟨a,c,rfl,_⟩:=h2.shape;exact⟨a,c,by rw[cell_of_row w eb 0 _ _ _ h1];rfl,h2⟩
theorem Boxed.put {w:World} {B eb:Nat} {es:List Ent} {cs:Array Value} {v:Value} (hb:w.heap[eb]?=some (.cells cs 36 (0,0))) (hc:cs.size=1) (hr:EntRow w B es v):Boxed (w.setCell ⟨eb,0,none⟩ v) B eb es:=by
 refine⟨v,?_,hr.keep (fun k cs' _ hk _=>?_) (fun k cs' fr' _ hk=>?_)⟩
 ·rw[cells_set hb 0 v]
  obtain⟨x,rfl⟩: ∃x,cs= #[x]:=Array.size_eq_one_iff.1 hc;rfl
 ·refine Below.heap_setCell _ _ _ _ fun e=>?_
  subst e;rw[hb] at hk;injection hk with h1
  injection h1 with _ h2
  exact absurd h2 (by decide)
 ·refine Below.heap_setCell _ _ _ _ fun e=>?_
  subst e;rw[hb] at hk;injection hk with h1
  injection h1 with _ h2
  exact absurd h2 (by decide)
def EBox (w:World) (b:Nat) (e:Ent) (a:Option Addr) (c:Nat):Prop:=w.heap[b]?=some (.cells #[.int .u64 (e.ix:Int),.int .u64 (e.term:Int),.slice a e.body.length c] 55 (0,0))
theorem EBox.cells {w:World} {b:Nat} {e:Ent} {a:Option Addr} {c:Nat} (h:EBox w b e a c):w.cell? ⟨b,0,none⟩=some (.int .u64 (e.ix:Int))∧w.cell? ⟨b,1,none⟩=some (.int .u64 (e.term:Int))∧w.cell? ⟨b,2,none⟩=some (.slice a e.body.length c):=by
 refine⟨?_,?_,?_⟩<;>rw[cell_of_row w b _ _ _ _ h]<;>rfl
def Apart (eb:Nat) (es:List Ent) (w w':World):Prop:= ∀a c,w.cell? ⟨eb,0,none⟩=some (.slice a es.length c)→ ∀q,q<w.heap.size→q≠eb→(Value.slice a es.length c).ownBlock≠some q→w'.heap[q]?=w.heap[q]?
set_option maxRecDepth 100000 in
set_option maxHeartbeats 1000000 in
theorem follow_any (B eb:Nat) (es:List Ent) (e:Ent) (a:Option Addr) (c:Nat) (w:World) (hx:Boxed w B eb es) (hs:Body w B e.body (.slice a e.body.length c)) (hB:B≤w.heap.size) (hn:es.length<1000000000):
  Calls Tryz.prog 59 #[.agg #[.int .u64 (e.ix:Int),.int .u64 (e.term:Int),.slice a e.body.length c],.pointer (some ⟨eb,0,none⟩)] w fun r w'=>r= .returned (.bool (Wl.follow es e).isSome)∧Boxed w' B eb ((Wl.follow es e).getD es)∧Turns B eb w w'∧Apart eb es w w':=by
 obtain⟨a0,c0,hc0,hr⟩:=hx.cell;have hw1:Below w.heap.size w (w.alloc (.cells #[.int .u64 (e.ix:Int),.int .u64 (e.term:Int),.slice a e.body.length c] 55)):=(Below.refl _ _).alloc (Nat.le_refl _) _;have hb1:EBox (w.alloc (.cells #[.int .u64 (e.ix:Int),.int .u64 (e.term:Int),.slice a e.body.length c] 55)) w.heap.size e a c:=heap_alloc_new _ _;obtain⟨d0,d1,d2⟩:=hb1.cells;have hc1:=(hw1.cell (show(⟨eb,0,none⟩:Addr).block<w.heap.size from lt_of_cell hc0)).trans hc0;have HB1:=hid hb1;have HX1:=hid (hx.below hw1);have HR1:=hid (hr.below hw1);have HS1:=hid (hs.below hw1);have HW1:=hid hw1;have HL:=hid (fun n=>(last_any ((hr.below hw1).below (many_drew _ n)) (by omega)).mono fun _ _ h=>And.imp_right Eq.symm h);have HF:=hid (fun n=>(follows_any (lastIx es) e.ix ((w.alloc (.cells #[.int .u64 (e.ix:Int),.int .u64 (e.term:Int),.slice a e.body.length c] 55)).drewN n)).mono fun _ _ h=>And.imp_right Eq.symm h);have HC0:=hid hc0;clear hx hs hr hw1 hb1 hc0;cases hfo:follows (lastIx es) e.ix
 ·rw[hfo] at HF
  have HE:=hid (show Wl.follow es e=none by unfold Wl.follow;rw[hfo];rfl);clear hfo;go_enter Tryz.func59,Tryz.ntmps59
  go_wp2_with fail
  go_quiet (first | (go_at_call 37;exact Calls.quiet_of_same (HL.out _)) | (go_at_call 60;exact Calls.quiet_of_same (HF.out _)))
  go_wp2
  go_ret
  rw[HE.out];exact⟨rfl,HX1.out.below (many_drew _ _),.of_below (HW1.out.trans ((many_drew _ _).mono HW1.out.size)),fun _ _ _ q hq _ _=>(HW1.out.trans ((many_drew _ _).mono HW1.out.size)).block q hq⟩
 ·rw[hfo] at HF
  have HE:=hid (show Wl.follow es e=some (cutTo e.ix es++ [e]) by unfold Wl.follow;rw[hfo];rfl);have HFO:=hid hfo;clear hfo;go_enter Tryz.func59,Tryz.ntmps59
  go_wp2_with fail
  go_quiet (first | (go_at_call 37;exact Calls.quiet_of_same (HL.out _)) | (go_at_call 60;exact Calls.quiet_of_same (HF.out _)))
  go_wp2
  have hT0:Turns B eb w ((w.alloc (.cells #[.int .u64 (e.ix:Int),.int .u64 (e.term:Int),.slice a e.body.length c] 55)).drewN nq):= .of_below (HW1.out.trans ((many_drew _ _).mono HW1.out.size));have HSTART:=hid (show∃es':List Ent,es.length+1=es'.length+1∧es'.length≤es.length∧cutTo e.ix es'=cutTo e.ix es∧Boxed ((w.alloc (.cells #[.int .u64 (e.ix:Int),.int .u64 (e.term:Int),.slice a e.body.length c] 55)).drewN nq) B eb es'∧EBox ((w.alloc (.cells #[.int .u64 (e.ix:Int),.int .u64 (e.term:Int),.slice a e.body.length c] 55)).drewN nq) w.heap.size e a c∧Body ((w.alloc (.cells #[.int .u64 (e.ix:Int),.int .u64 (e.term:Int),.slice a e.body.length c] 55)).drewN nq) B e.body (.slice a e.body.length c)∧Turns B eb w ((w.alloc (.cells #[.int .u64 (e.ix:Int),.int .u64 (e.term:Int),.slice a e.body.length c] 55)).drewN nq)∧((w.alloc (.cells #[.int .u64 (e.ix:Int),.int .u64 (e.term:Int),.slice a e.body.length c] 55)).drewN nq).cell? ⟨eb,0,none⟩=some (.slice a0 es'.length c0)∧(∀q,q<w.heap.size→q≠eb→((w.alloc (.cells #[.int .u64 (e.ix:Int),.int .u64 (e.term:Int),.slice a e.body.length c] 55)).drewN nq).heap[q]?=w.heap[q]?) from
   ⟨es,rfl,Nat.le_refl _,rfl,HX1.out.below (many_drew _ _),HB1.out,HS1.out.below (many_drew _ _),hT0,hc1,fun q hq _=>HW1.out.block q hq⟩)
  clear hT0;go_loopg [] (es.length+1) (fun g wx=> ∃es':List Ent,g=es'.length+1∧es'.length≤es.length∧cutTo e.ix es'=cutTo e.ix es∧Boxed wx B eb es'∧EBox wx w.heap.size e a c∧Body wx B e.body (.slice a e.body.length c)∧Turns B eb w wx∧wx.cell? ⟨eb,0,none⟩=some (.slice a0 es'.length c0)∧(∀q,q<w.heap.size→q≠eb→wx.heap[q]?=w.heap[q]?))
  case atStart=>exact HSTART.out
  case round=>
   clear HSTART HX1 HR1 HS1 HW1 HL HF HB1 d0 d1 d2 hc1;obtain⟨es',hg,hl,hcut,hbx,heb,hrow,hT,hcx,hoth⟩:=hrel;obtain⟨a1,c1,hc1,hr1⟩:=hbx.cell;obtain⟨rfl,rfl⟩:a1=a0∧c1=c0:=by
    rw[hcx] at hc1;simp only[Option.some.injEq,Value.slice.injEq,true_and] at hc1;exact⟨hc1.1.symm,hc1.2.symm⟩
   have HOTH:=hid hoth;clear hoth hcx;obtain⟨d0,d1,d2⟩:=heb.cells;have HL:=hid (fun n=>(last_any (hr1.below (many_drew wr n)) (by omega)).mono fun _ _ h=>And.imp_right Eq.symm h);have HG:=hid hg;have HCUT:=hid hcut;have HBX:=hid hbx;have HEB:=hid heb;have HROW:=hid hrow;have HT:=hid hT;have HR:=hid hr1;clear hg hcut hbx heb hrow hT hr1;by_cases hix:e.ix≤lastIx es'
   ·have hd:decide ((e.ix:Int)≤(lastIx es':Int))=true:=by simp;exact hix
    have hd2:decide (e.ix≤lastIx es')=true:=by simp;exact hix
    have HI:=hid hix;clear hix;go_wp2_with fail
    go_quiet ((go_at_call 37;exact Calls.quiet_of_same (HL.out _)))
    have hne:es'≠ []:=fun h0=>by
     have h1:=HI.out;rw[h0,lastIx_nil] at h1;have h2:=HFO.out;unfold follows at h2;have h3: ¬0<e.ix:=by omega
     rw[decide_eq_false h3] at h2;cases h2
    obtain⟨r,x,rfl⟩:=snoc_of hne;obtain⟨g,cap,_,_,hv,hgB,hgs,_,_,_,_,hcap,hcm⟩:=HR.out.at_ (i:=r.length) (by simp);simp only[Value.slice.injEq] at hv;obtain⟨rfl,_,rfl⟩:=hv;have hrl:(r++ [x]).length=r.length+1:=by simp
    rw[hrl] at hc1 hcap hl;have HP:=hid ((show EntRow wr B (r++ [x]) (.slice (some ⟨g,0,none⟩) (r.length+1) c1) by rw[←hrl];exact HR.out).pop.below (many_drew wr nq));have hcs:(wr.drewN nq).cell? ⟨eb,0,none⟩=some (.slice (some ⟨g,0,none⟩) (r.length+1) c1):=hc1;obtain⟨cs0,hbox⟩:=HBX.out.box;obtain⟨hx0,hx1⟩:cs0.size=1∧True:=⟨by
     obtain⟨v0,hv0,_⟩:=HBX.out.at_;rw[hv0] at hbox;injection hbox with h1
     injection h1 with h1 _
     rw[←h1];rfl,trivial⟩
    have hfz:(wr.drewN nq).frozen? ⟨eb,0,none⟩=false:=frozen_row (W:=wr.drewN nq) (b:=eb) hbox;have HBOX:=hid hbox;have HX0:=hid hx0;clear hne hgB hrl hbox hx0 hx1;go_wp2
    have hT3:Turns B eb w ((wr.drewN nq).setCell ⟨eb,0,none⟩ (.slice (some ⟨g,0,none⟩) r.length c1)):=(HT.out.trans (.of_below (many_drew wr nq))).trans (Turns.set _ _);have hb3:Boxed ((wr.drewN nq).setCell ⟨eb,0,none⟩ (.slice (some ⟨g,0,none⟩) r.length c1)) B eb r:=Boxed.put (cs:=cs0) HBOX.out HX0.out HP.out;have hbe:eb≠w.heap.size:=fun e0=>by
     have h1:=HBOX.out;have h2:=HEB.out;unfold EBox at h2;rw[←e0,h1] at h2;injection h2 with h3
     injection h3 with _ h4
     exact absurd h4 (by decide)
    have he3:EBox ((wr.drewN nq).setCell ⟨eb,0,none⟩ (.slice (some ⟨g,0,none⟩) r.length c1)) w.heap.size e a c:=(Below.heap_setCell _ _ _ _ (fun e0=>hbe e0.symm)).trans HEB.out;have hr3:Body ((wr.drewN nq).setCell ⟨eb,0,none⟩ (.slice (some ⟨g,0,none⟩) r.length c1)) B e.body (.slice a e.body.length c):=((Turns.of_below (B:=B) (eb:=eb) (many_drew wr nq)).trans (Turns.set _ _)).row HROW.out HBOX.out;go_roundg (r.length+1)
    case rel=>exact⟨r,rfl,by omega,by rw[←HCUT.out,cutTo_snoc_yes];have:=HI.out;rwa [lastIx_snoc] at this,hb3,he3,hr3,hT3,by rw[cell_of_row _ eb 0 _ _ _ (cells_set (W:=wr.drewN nq) HBOX.out 0 _)];simp [HX0.out],fun q hq hne=>(Below.heap_setCell _ _ _ _ hne).trans (HOTH.out q hq hne)⟩
    case measure=>rw[HG.out];simp
   ·have hd:decide ((e.ix:Int)≤(lastIx es':Int))=false:=by simp;omega
    have hd2:decide (e.ix≤lastIx es')=false:=by simp;omega
    have HI:=hid hix;clear hix;go_wp2_with fail
    go_quiet ((go_at_call 37;exact Calls.quiet_of_same (HL.out _)))
    obtain⟨vs,v1,v2,v3⟩:=HR.out.row
    have hown:((wr.drewN nq).alloc (.cells #[.int .u64 (e.ix:Int),.int .u64 (e.term:Int),.slice a e.body.length c] 55)).ownsRow B 55 3 (.slice a1 es'.length c1) es'.length (entCells es' vs):=
     (ownsRow_keep v2 (w':=wr.drewN nq) fun k e=>rfl).alloc _
    have hnews:=cells_new (wr.drewN nq) [.int .u64 (e.ix:Int),.int .u64 (e.term:Int),.slice a e.body.length c] 55;have hBn:B≤wr.heap.size:=Nat.le_trans hB HT.out.size;obtain⟨i0,hi,hz0,hz1,hz2⟩:=info_parts info_ent;have V1:=hid v1;have V2:=hid v2;have V3:=hid v3;clear v1 v2 v3;go_wp2_with (at_builtin;go_loud (refine wpList_append_own _ rfl _ _ 36 rfl B 55 i0 (.agg #[.int .u64 0,.int .u64 0,.slice none 0 0]) 3 40 Tryz.underlying36 hi hz0 hz1 hz2 rfl (by decide) _ _ _ rfl hown ⟨wr.heap.size,0,none⟩ 1 1 [.int .u64 (e.ix:Int),.int .u64 (e.term:Int),.slice a e.body.length c] rfl rfl hnews (by simp [Value.oneCell']) (by unfold maxLen;omega) (by omega) (by simp;omega) ?_))
    intro v' w4 hown' hg4 hnil4;obtain⟨a',c',rfl,_⟩:=slice_shape hown';obtain⟨cs0,hbox⟩:=HBX.out.box;have hx0:cs0.size=1:=by
     obtain⟨v0,hv0,_⟩:=HBX.out.at_;rw[hv0] at hbox;injection hbox with h1
     injection h1 with h1 _
     rw[←h1];rfl
    have hTA:Turns B eb wr ((wr.drewN nq).alloc (.cells #[.int .u64 (e.ix:Int),.int .u64 (e.term:Int),.slice a e.body.length c] 55)):= .of_below ((many_drew wr nq).alloc (Nat.le_refl _) _);have hT4:Turns B eb wr w4:=hTA.trans (Turns.grown hown hg4);have hbox4:w4.heap[eb]?=some (.cells cs0 36 (0,0)):=by
     have h1:=hg4.block eb (by simp;exact Nat.lt_succ_of_lt (lt_of_block hbox)) (fun e0=>ownsRow_off hown (b:=eb) ((Below.heap_alloc (wr.drewN nq) _ _ (lt_of_block hbox)).trans hbox) (by decide) e0.symm);exact h1.trans ((Below.heap_alloc (wr.drewN nq) _ _ (lt_of_block hbox)).trans hbox)
    have hcell4:w4.cell? ⟨eb,0,none⟩=some (.slice a1 es'.length c1):=by
     rw[World.cell?_of_block (w:=wr) (w':=w4) (a:=⟨eb,0,none⟩) (hbox4.trans hbox.symm)];exact hc1
    have hfz:w4.frozen? ⟨eb,0,none⟩=false:=frozen_row hbox4;have HKEEP:=hid (show Apart eb es w w4 from fun a9 c9 h9 q hq hne hoff=>by
     rw[HC0.out] at h9;simp only[Option.some.injEq,Value.slice.injEq,true_and] at h9;obtain⟨rfl,rfl⟩:=h9;have hqr:q<wr.heap.size:=Nat.lt_of_lt_of_le hq HT.out.size;exact(hg4.block q (by simp;omega) (fun e0=>hoff (by rw[e0];cases a1<;>rfl))).trans ((Below.heap_alloc (wr.drewN nq) _ _ hqr).trans (HOTH.out q hq hne)))
    have hent:EntRow w4 B (es'++ [e]) (.slice a' (es'.length+1) c'):=
     EntRow.more V1.out hown (fun i hi'=>((V3.out i hi').below (many_drew wr nq)).below ((Below.refl _ _).alloc (Nat.le_refl _) _)) ((HROW.out.below (many_drew wr nq)).below ((Below.refl _ _).alloc (Nat.le_refl _) _)) hg4 hown'
    have HO:=hid hent;have HT4:=hid hT4;have HBOX4:=hid hbox4;have HX0:=hid hx0;clear hent hT4 hbox4 hx0 hTA hbox;clear hown' hg4 hnil4 hown hnews;go_wp2
    go_ret
    rw[HE.out,←HCUT.out,cutTo_stop (.inr HI.out)];exact⟨rfl,Boxed.put HBOX4.out HX0.out HO.out,HT.out.trans (HT4.out.trans (Turns.set _ _)),fun a9 c9 h9 q hq hne hoff=>(Below.heap_setCell _ _ _ _ hne).trans (HKEEP.out a9 c9 h9 q hq hne hoff)⟩
end Go.Proofs.YtalfbcbnljhldaaGreatDoor

namespace Go.Proofs.YtalfbcbnljhldaaGreatDoor.Dsk
end Go.Proofs.YtalfbcbnljhldaaGreatDoor.Dsk

namespace Go.Proofs.YtalfbcbnljhldaaGreatDoor
open Go.RowKit Go.Maps Dsk
theorem DiskAt.below {w w':World} {B:Nat} {o:Tags} {g N:Nat} {M:Files} (h:DiskAt w B o g M N) (hb:Below w.heap.size w w'):DiskAt w' B o g M N:=by
 obtain⟨b,D,h⟩:=h;exact⟨b,D,h.below hb⟩
theorem DiskAt.owns {w:World} {B:Nat} {o:Tags} {g N:Nat} {M:Files} (h:DiskAt w B o g M N): ∀k,o k≠none→B≤k∧k<w.heap.size:=by
 obtain⟨b,D,h⟩:=h;exact h.own
end Go.Proofs.YtalfbcbnljhldaaGreatDoor
