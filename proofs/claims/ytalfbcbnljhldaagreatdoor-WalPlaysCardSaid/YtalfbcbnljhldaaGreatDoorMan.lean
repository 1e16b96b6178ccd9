/-  -/
import Derived.Test.YtalfbcbnljhldaaGreatDoorMab
import Derived.Test.YtalfbcbnljhldaaGreatDoorMam
import Derived.WalkSmall
namespace Go.Proofs.YtalfbcbnljhldaaGreatDoor
open Wl
namespace Rl
section
variable {α:Type}
def cutP (ix:Nat) (l:List (Ent×α)):List (Ent×α):=(l.reverse.dropWhile fun e=>decide (ix≤e.1.ix)).reverse
theorem map_dropWhile {β γ:Type} (f:β→γ) (p:γ→Bool): ∀l:List β,(l.dropWhile fun x=>p (f x)).map f=(l.map f).dropWhile p
 | []=>rfl
 | x::l=>by
  rw[List.map_cons,List.dropWhile_cons,List.dropWhile_cons];split
  ·exact map_dropWhile f p l
  ·rfl
theorem cutP_fst (ix:Nat) (l:List (Ent×α)):(cutP ix l).map Prod.fst=cutTo ix (l.map Prod.fst):=by
 unfold cutP cutTo;rw[List.map_reverse,map_dropWhile Prod.fst (fun e:Ent=>decide (ix≤e.ix)) l.reverse,List.map_reverse]
theorem cutP_yes {ix:Nat} {l:List (Ent×α)} {e:Ent×α} (h:ix≤e.1.ix):cutP ix (l++ [e])=cutP ix l:=by simp [cutP,h]
theorem cutP_no {ix:Nat} {l:List (Ent×α)} {e:Ent×α} (h: ¬ix≤e.1.ix):cutP ix (l++ [e])=l++ [e]:=by simp [cutP,h]
def lastP (l:List (Ent×α)):Nat:=lastIx (l.map Prod.fst)
theorem lastP_snoc (l:List (Ent×α)) (e:Ent×α):lastP (l++ [e])=e.1.ix:=by simp [lastP,lastIx_snoc]
def followP (l:List (Ent×α)) (p:Ent×α):Option (List (Ent×α)):=if follows (lastP l) p.1.ix=true then some (cutP p.1.ix l++ [p]) else none
theorem followP_fst (l:List (Ent×α)) (p:Ent×α):(followP l p).map (List.map Prod.fst)=Wl.follow (l.map Prod.fst) p.1:=by
 unfold followP Wl.follow lastP;split
 ·rw[Option.map_some,List.map_append,cutP_fst];rfl
 ·rfl
def chainP:List (Ent×α)→List (Ent×α)→Option (List (Ent×α))
 | l,[]=>some l
 | l,p::r=>match followP l p with
  | none=>none
  | some l'=>chainP l' r
theorem chainP_fst: ∀(r l:List (Ent×α)),(chainP l r).map (List.map Prod.fst)=chain (l.map Prod.fst) (r.map Prod.fst)
 | [],l=>rfl
 | p::r,l=>by
  have h:=followP_fst l p;rw[List.map_cons];cases hf:followP l p with
  | none=>
   rw[hf] at h;simp only[chainP,chain,hf,←h,Option.map_none]
  | some l'=>
   rw[hf,Option.map_some] at h;simp only[chainP,chain,hf,←h];exact chainP_fst r l'
theorem chainP_snoc: ∀(r l:List (Ent×α)) {l':List (Ent×α)} (p:Ent×α),chainP l r=some l'→chainP l (r++ [p])=followP l' p
 | [],l,l',p,h=>by
  cases h;simp only[List.nil_append,chainP];cases followP l p<;>rfl
 | q::r,l,l',p,h=>by
  simp only[List.cons_append,chainP] at h ⊢;cases hf:followP l q with
  | none=>rw[hf] at h;cases h
  | some l2=>rw[hf] at h;exact chainP_snoc r l2 p h
theorem chainP_stop: ∀(a b l:List (Ent×α)),chainP l a=none→chainP l (a++b)=none
 | [],b,l,h=>by cases h
 | q::a,b,l,h=>by
  simp only[List.cons_append,chainP] at h ⊢;cases hf:followP l q with
  | none=>rfl
  | some l2=>rw[hf] at h;exact chainP_stop a b l2 h
structure RowIs (r l:List (Ent×α)) (n:Nat):Prop where
 le:n≤r.length
 come:chainP [] (r.take n)=some l
 stop:n<r.length→chainP [] (r.take (n+1))=none
theorem RowIs.some {r l:List (Ent×α)} {n:Nat} (h:RowIs r l n) {E:List Ent} (hc:chain [] (r.map Prod.fst)=some E):n=r.length∧l.map Prod.fst=E:=by
 have h0:=chainP_fst r [];rw[List.map_nil,hc] at h0;have hn:n=r.length:=by
  rcases Nat.lt_or_ge n r.length with hlt | hge
  ·have h1:=chainP_stop _ (r.drop (n+1)) _ (h.stop hlt)
   rw[List.take_append_drop] at h1;rw[h1] at h0;cases h0
  ·have:=h.le;omega
 refine⟨hn,?_⟩;have h1:=h.come;rw[hn,List.take_length] at h1;rw[h1] at h0;exact Option.some.inj h0
theorem RowIs.none {r l:List (Ent×α)} {n:Nat} (h:RowIs r l n) (hc:chain [] (r.map Prod.fst)=none):n≠r.length:=by
 intro e;have h0:=chainP_fst r [];rw[List.map_nil,hc] at h0;have h1:=h.come;rw[e,List.take_length] at h1;rw[h1] at h0;cases h0
theorem followP_len {l l':List (Ent×α)} {p:Ent×α} (h:followP l p=some l'):l'.length≤l.length+1:=by
 have h0:=followP_fst l p;rw[h,Option.map_some] at h0;have:=follow_len h0.symm;simpa using this
theorem chainP_len: ∀(r l:List (Ent×α)) {l':List (Ent×α)},chainP l r=some l'→l'.length≤l.length+r.length
 | [],l,l',h=>by cases h;simp
 | p::r,l,l',h=>by
  simp only[chainP] at h;cases hf:followP l p with
  | none=>rw[hf] at h;cases h
  | some l2=>
   rw[hf] at h;have h1:=chainP_len r l2 h;have h2:=followP_len hf;simp only[List.length_cons];omega
theorem cutP_mem {ix:Nat} {l:List (Ent×α)} {e:Ent×α} (h:e∈cutP ix l):e∈l:=by
 unfold cutP at h;rw[List.mem_reverse] at h;exact List.mem_reverse.1 ((List.dropWhile_sublist _).subset h)
theorem chainP_mem: ∀(r l:List (Ent×α)) {l':List (Ent×α)},chainP l r=some l'→ ∀e∈l',e∈l∨e∈r
 | [],l,l',h,e,he=>by cases h;exact .inl he
 | p::r,l,l',h,e,he=>by
  simp only[chainP] at h;cases hf:followP l p with
  | none=>rw[hf] at h;cases h
  | some l2=>
   rw[hf] at h;rcases chainP_mem r l2 h e he with h1 | h1
   ·unfold followP at hf
    split at hf
    ·cases hf
     rcases List.mem_append.1 h1 with h2 | h2
     ·exact .inl (cutP_mem h2)
     ·simp at h2;subst h2;exact .inr (by simp)
    ·cases hf
   ·exact .inr (by simp [h1])
theorem chainP_pos: ∀(r l:List (Ent×α)) {l':List (Ent×α)},(∀e∈l,0<e.1.ix)→chainP l r=some l'→ ∀e∈l',0<e.1.ix
 | [],l,l',hl,h=>by cases h;exact hl
 | p::r,l,l',hl,h=>by
  simp only[chainP] at h;cases hf:followP l p with
  | none=>rw[hf] at h;cases h
  | some l2=>
   rw[hf] at h;refine chainP_pos r l2 (fun e he=>?_) h;unfold followP at hf;split at hf
   ·rename_i hfo
    cases hf;rcases List.mem_append.1 he with h2 | h2
    ·exact hl e (cutP_mem h2)
    ·simp at h2
     subst h2;unfold follows at hfo;simp at hfo;exact hfo.1
   ·cases hf
end
end Rl
end Go.Proofs.YtalfbcbnljhldaaGreatDoor

namespace Go.Proofs.YtalfbcbnljhldaaGreatDoor
open Go.RowKit Go.Maps Dsk Rd Wl
namespace Rl
abbrev EV:=Ent×Value
def pcells:List EV→List Value
 | []=> []
 | p::r=> .int .u64 (p.1.ix:Int):: .int .u64 (p.1.term:Int)::p.2::pcells r
theorem pcells_len: ∀l:List EV,(pcells l).length=l.length*3
 | []=>rfl
 | p::r=>by simp [pcells,pcells_len r];omega
theorem pcells_append: ∀a b:List EV,pcells (a++b)=pcells a++pcells b
 | [],b=>rfl
 | p::a,b=>by simp [pcells,pcells_append a b]
theorem pcells_at: ∀(l:List EV) (i:Nat) (hi:i<l.length),(pcells l)[i*3]?=some (.int .u64 (l[i].1.ix:Int))∧(pcells l)[i*3+1]?=some (.int .u64 (l[i].1.term:Int))∧(pcells l)[i*3+2]?=some l[i].2
 | [],i,hi=>by simp at hi
 | p::r,0,_=>⟨rfl,rfl,rfl⟩
 | p::r,i+1,hi=>by
  have:=pcells_at r i (by simpa using hi);rw[show(i+1)*3=i*3+3 by omega];simpa [pcells,Nat.add_right_comm _ 3] using this
def Fine (ps:List EV):Prop:= ∀p∈ps,p.1.ix<18446744073709551616∧p.1.term<18446744073709551616∧ ∃a n c,p.2= .slice a n c
theorem Fine.append {a b:List EV} (ha:Fine a) (hb:Fine b):Fine (a++b):=fun p hp=>by
 rcases List.mem_append.1 hp with h | h
 ·exact ha p h
 ·exact hb p h
theorem Fine.one: ∀ {ps:List EV},Fine ps→ ∀u∈pcells ps,u.oneCell'=true
 | [],_,u,hu=>by cases hu
 | p::r,h,u,hu=>by
  rcases List.mem_cons.1 hu with rfl | hu
  ·rfl
  rcases List.mem_cons.1 hu with rfl | hu
  ·rfl
  rcases List.mem_cons.1 hu with rfl | hu
  ·obtain⟨_,_,_,e⟩:=(h p (by simp)).2.2
   rw[e];rfl
  ·exact Fine.one (fun q hq=>h q (by simp [hq])) u hu
def ReadsP (w:World) (a:Option Addr) (ps:List EV):Prop:= ∃g o,(ps≠ []→a=some ⟨g,o,none⟩)∧ ∀j u,(pcells ps)[j]?=some u→g<w.heap.size∧w.cell? ⟨g,o+j,none⟩=some u
abbrev RowP (w:World) (B:Nat) (v:Value) (ps:List EV):Prop:=w.ownsRow B 55 3 v ps.length (pcells ps)
section
variable {w w' W u0:World} {B:Nat} {a:Option Addr} {ps qs:List EV} {v:Value}
theorem ReadsP.below (h:ReadsP w a ps) (hb:Below w.heap.size w w'):ReadsP w' a ps:=by
 obtain⟨g,o,h1,h2⟩:=h;exact⟨g,o,h1,fun j u hu=>⟨Nat.lt_of_lt_of_le (h2 j u hu).1 hb.size,(hb.cell (p:=⟨g,o+j,none⟩) (h2 j u hu).1).trans (h2 j u hu).2⟩⟩
theorem ReadsP.at_ (h:ReadsP w a ps) {i:Nat} (hi:i<ps.length): ∃g o,a=some ⟨g,o,none⟩∧g<w.heap.size∧w.cell? ⟨g,o+i*3,none⟩=some (.int .u64 (ps[i].1.ix:Int))∧w.cell? ⟨g,o+i*3+1,none⟩=some (.int .u64 (ps[i].1.term:Int))∧w.cell? ⟨g,o+i*3+2,none⟩=some ps[i].2:=by
 obtain⟨g,o,h1,h2⟩:=h;obtain⟨c1,c2,c3⟩:=pcells_at ps i hi;exact⟨g,o,h1 (fun e=>by rw[e] at hi;simp at hi),(h2 _ _ c1).1,(h2 _ _ c1).2,(h2 _ _ c2).2,(h2 _ _ c3).2⟩
theorem RowP.reads {a:Option Addr} {n c:Nat} (h:RowP w B (.slice a n c) ps):ReadsP w a ps∧n=ps.length∧(a=none→n=0∧c=0):=by
 obtain⟨a',c',e,hc⟩:=ownsRow_cell h;cases e;obtain⟨a2,c2,e2,hn⟩:=slice_shape h;cases e2;refine⟨?_,rfl,hn⟩;rcases Nat.eq_zero_or_pos ps.length with h0 | h0
 ·have:ps= []:=List.eq_nil_of_length_eq_zero h0
  subst this;exact⟨0,0,fun e=>absurd rfl e,fun j u hu=>by simp [pcells] at hu⟩
 ·obtain⟨c1,-,-⟩:=pcells_at ps 0 h0
  obtain⟨g,eg,-⟩:=hc _ _ c1;refine⟨g,0,fun _=>eg,fun j u hu=>?_⟩;obtain⟨g',eg',hlt,hcell,-⟩:=hc _ _ hu;rw[eg] at eg';cases eg';rw[Nat.zero_add];exact⟨hlt,hcell⟩
theorem RowP.pop {l:List EV} {p:EV} {a:Option Addr} {n c:Nat} (h:RowP w B (.slice a n c) (l++ [p])):RowP w B (.slice a (n - 1) c) l:=by
 obtain⟨-,hn,hna⟩:=h.reads;simp only[List.length_append,List.length_singleton] at hn;subst hn;unfold RowP at h ⊢;rw[pcells_append,List.length_append] at h;rcases h.2 with⟨hv,_⟩ | ⟨g,cap,cur,hv,_⟩
 ·injection hv with _ hv;omega
 ·simp only[Value.slice.injEq] at hv
  obtain⟨rfl,_,rfl⟩:=hv;exact ownsRow_pop (pcells_len l) h
theorem RowP.cap {a:Option Addr} {n c:Nat} (h:RowP w B (.slice a n c) ps):n≤c:=by
 rcases h.2 with⟨hv,_⟩ | ⟨g,cap,cur,hv,_,_,hle,_⟩
 ·injection hv with _ h1 h2;omega
 ·simp only[Value.slice.injEq] at hv
  obtain⟨_,h1,h2⟩:=hv;omega
theorem info_ent:(Tryz.prog.info? 55).map (fun i=>(i.zero,i.size,i.bytes))=some (some (.agg #[.int .u64 0,.int .u64 0,.slice none 0 0]),3,40):=by kernel_rfl
theorem run_appP (h:RowP W B v ps) (hl:ps.length≤1000000000) (hB:B≤W.heap.size) {ao:Option Addr} {m c:Nat} (hm:m=qs.length) (hz:ReadsP W ao qs) (hq:Fine qs) (hql:qs.length≤1000000000) (hn:ao=none→m=0∧c=0):
  ∃v' W',(Builtin.append_ #[36,36] 36 #[v,.slice ao m c]).run Tryz.prog W= .ok v' W'∧RowP W' B v' (ps++qs)∧W.grownBy W' v.ownBlock∧(v'.ownBlock=v.ownBlock∨v'.ownBlock=some W.heap.size):=by
 obtain⟨i0,hi,hz0,hz1,hz2⟩:=info_parts info_ent;subst hm;cases ao with
 | none=>
  obtain⟨hq0,rfl⟩:=hn rfl;have:qs= []:=List.eq_nil_of_length_eq_zero hq0;subst this;exact⟨v,W,run_append_owned_none (P:=Tryz.prog) W B 36 36 55 i0 3 Tryz.underlying36 hi v ps.length _ h,by simpa using h,⟨rfl,rfl,rfl,Nat.le_refl _,fun _ _ _=>rfl⟩,.inl rfl⟩
 | some ad=>
  obtain⟨v',W',hrun,hown,hg,_,hlies⟩:=run_append_own_at (P:=Tryz.prog) W B 36 36 55 i0 _ 3 40 Tryz.underlying36 hi hz0 hz1 hz2 rfl (by decide) v ps.length _ h ad qs.length c (pcells qs) (pcells_len qs) (fun j u hu=>by
   obtain⟨g,o,h1,h2⟩:=hz;have e:=h1 fun e=>by subst e;simp [pcells] at hu
   cases e;rw[addNone];exact(h2 j u hu).2) hq.one (by unfold maxLen;omega) (by omega) hB
  refine⟨v',W',hrun,?_,hg,hlies⟩;unfold RowP;rw[List.length_append,pcells_append];exact hown
structure A9 (u0 W:World) (v:Value) (ps:List EV) (L:List (Nat×EV)):Prop where
 bel:Below u0.heap.size u0 W
 row:RowP W u0.heap.size v ps
 src: ∀s∈L,ReadsP W (some ⟨s.1,0,none⟩) [s.2]∧v.ownBlock≠some s.1∧s.1<W.heap.size
theorem ReadsP.grown {vb:Option Nat} {s:Nat} {p:EV} (h:ReadsP W (some ⟨s,0,none⟩) [p]) (hg:W.grownBy w' vb) (hne:vb≠some s):ReadsP w' (some ⟨s,0,none⟩) [p]:=by
 obtain⟨g,o,h1,h2⟩:=h;have e:=h1 (by simp);cases e;refine⟨s,0,fun _=>rfl,fun j u hu=>?_⟩;obtain⟨h3,h4⟩:=h2 j u hu;exact⟨Nat.lt_of_lt_of_le h3 hg.size,hg.cell h4 fun e=>hne e.symm⟩
section
variable {L:List (Nat×EV)}
theorem A9.start (u0:World):A9 u0 u0 (.slice none 0 0) [] []:=⟨Below.refl _ _,World.ownsRow_nil _ _ _ _,fun s hs=>by cases hs⟩
theorem A9.empty (h:A9 u0 W (.slice none 0 0) [] L):A9 u0 (W.alloc (.cells #[] 55)) (.slice (some ⟨W.heap.size,0,none⟩) 0 0) [] L:=by
 have hb:Below W.heap.size W (W.alloc (.cells #[] 55)):=(Below.refl _ _).alloc (Nat.le_refl _) _;refine⟨h.bel.trans (hb.mono h.bel.size),World.ownsRow_lit W #[] 0 h.bel.size (Nat.zero_le _) rfl,fun s hs=>?_⟩;obtain⟨h1,_,h2⟩:=h.src s hs;refine⟨h1.below hb,fun e=>?_,Nat.lt_of_lt_of_le h2 hb.size⟩;have e2:W.heap.size=s.1:=by simpa [Value.ownBlock] using e
 omega
theorem A9.lit (h:A9 u0 W v ps L) (p:EV):A9 u0 (W.alloc (.cells #[.int .u64 (p.1.ix:Int),.int .u64 (p.1.term:Int),p.2] 55)) v ps ((W.heap.size,p)::L):=by
 have hb:Below W.heap.size W (W.alloc (.cells #[.int .u64 (p.1.ix:Int),.int .u64 (p.1.term:Int),p.2] 55)):=(Below.refl _ _).alloc (Nat.le_refl _) _;have hlt: ∀k,v.ownBlock=some k→k<W.heap.size:=fun k e=>(World.ownsRow.lt h.row k e).2;refine⟨h.bel.trans (hb.mono h.bel.size),ownsRow_keep h.row fun k e=>hb.block k (hlt k e),fun s hs=>?_⟩;rcases List.mem_cons.1 hs with rfl | hs
 ·refine⟨⟨W.heap.size,0,fun _=>rfl,fun j u hu=>⟨by simp,?_⟩⟩,fun e=>Nat.lt_irrefl _ (hlt _ e),by simp⟩
  rw[cell_of_row _ _ _ _ _ _ (heap_alloc_new W _),Nat.zero_add];simpa [pcells] using hu
 ·obtain⟨h1,h2,h3⟩:=h.src s hs
  exact⟨h1.below hb,h2,Nat.lt_of_lt_of_le h3 hb.size⟩
theorem A9.app (h:A9 u0 W v ps L) (hl:ps.length≤1000000000) {ao:Option Addr} {m c:Nat} (hm:m=qs.length) (hz:ReadsP W ao qs) (hq:Fine qs) (hql:qs.length≤1000000000) (hn:ao=none→m=0∧c=0):
  ∃v' W',(Builtin.append_ #[36,36] 36 #[v,.slice ao m c]).run Tryz.prog W= .ok v' W'∧A9 u0 W' v' (ps++qs) L∧Below u0.heap.size W W':=by
 obtain⟨v',W',hrun,hrow,hg,hlies⟩:=run_appP h.row hl h.bel.size hm hz hq hql hn;have hbw:Below u0.heap.size W W':=(Below.refl _ _).grown hg h.bel.size fun k e=>(World.ownsRow.lt h.row k e).1;refine⟨v',W',hrun,⟨h.bel.grown hg h.bel.size fun k e=>(World.ownsRow.lt h.row k e).1,hrow,fun s hs=>?_⟩,hbw⟩;obtain⟨h1,h2,h3⟩:=h.src s hs;refine⟨h1.grown hg h2,fun e=>?_,Nat.lt_of_lt_of_le h3 hg.size⟩;rcases hlies with e2 | e2
 ·exact h2 (by rw[←e2];exact e)
 ·rw[e2] at e
  have e3:=Option.some.inj e;omega
theorem A9.app1 (h:A9 u0 W v ps L) (hl:ps.length≤1000000000) {s:Nat} {p:EV} (hs:(s,p)∈L) (hp:Fine [p]):
  ∃v' W',(Builtin.append_ #[36,36] 36 #[v,.slice (some ⟨s,0,none⟩) 1 1]).run Tryz.prog W= .ok v' W'∧A9 u0 W' v' (ps++ [p]) L∧Below u0.heap.size W W':=
 h.app hl (qs:= [p]) rfl (h.src _ hs).1 hp (by simp) (fun e=>by cases e)
end
end
end Rl
end Go.Proofs.YtalfbcbnljhldaaGreatDoor

namespace Go.Proofs.YtalfbcbnljhldaaGreatDoor
open Go.RowKit Go.Maps Dsk Rd Wl
namespace Rl
theorem digs_split (b:Nat): ∀(a k:Nat),digs (a+b) k=digs a (k / 10 ^ b)++digs b k:=by
 induction b with
 | zero=>intro a k;simp [digs]
 | succ b ih=>
  intro a k;rw[←Nat.add_assoc];simp only[digs];rw[ih a (k / 10),Nat.div_div_eq_div_mul,List.append_assoc,Nat.pow_succ,Nat.mul_comm 10]
theorem digs_front (i k:Nat):digs (i+1) k=UInt8.ofNat (48+(k / 10 ^ i) % 10)::digs i k:=by
 rw[Nat.add_comm,digs_split i 1 k];simp [digs]
theorem ten_slice (d:Nat) (hd:d<10): ∃c:UInt8,c=UInt8.ofNat (48+d)∧ ∀w:World,(Instr.slice 9 (.string ⟨#[48,49,50,51,52,53,54,55,56,57]⟩) (some (.int .i64 (d:Int))) (some (.int .i64 (d+1:Int))) none).run Tryz.prog w= .ok (.string ⟨#[c]⟩) w:=by
 have:d=0∨d=1∨d=2∨d=3∨d=4∨d=5∨d=6∨d=7∨d=8∨d=9:=by omega
 rcases this with rfl | rfl | rfl | rfl | rfl | rfl | rfl | rfl | rfl | rfl
 ·exact⟨48,rfl,fun w=>by kernel_rfl⟩
 ·exact⟨49,rfl,fun w=>by kernel_rfl⟩
 ·exact⟨50,rfl,fun w=>by kernel_rfl⟩
 ·exact⟨51,rfl,fun w=>by kernel_rfl⟩
 ·exact⟨52,rfl,fun w=>by kernel_rfl⟩
 ·exact⟨53,rfl,fun w=>by kernel_rfl⟩
 ·exact⟨54,rfl,fun w=>by kernel_rfl⟩
 ·exact⟨55,rfl,fun w=>by kernel_rfl⟩
 ·exact⟨56,rfl,fun w=>by kernel_rfl⟩
 ·exact⟨57,rfl,fun w=>by kernel_rfl⟩
theorem str_append (a b:List UInt8):(⟨a.toArray⟩:ByteArray)++⟨b.toArray⟩=⟨(a++b).toArray⟩:=by
 have h:((⟨a.toArray⟩:ByteArray)++⟨b.toArray⟩).data=a.toArray++b.toArray:=ByteArray.data_append;generalize (⟨a.toArray⟩:ByteArray)++⟨b.toArray⟩=x at h;cases x;simp only[] at h;subst h;simp
set_option maxRecDepth 100000 in
set_option maxHeartbeats 4000000 in
theorem name_any (k:Nat) (hk:k≤99999999) (w:World):
  Calls Tryz.prog 40 #[.int .i64 (k:Int)] w fun e w'=>e= .returned (.string ⟨(nameOf k).toArray⟩)∧w=w':=by
 go_enter Tryz.func40,Tryz.ntmps40
 go_wp2_with fail
 go_loopw [0,3,4] (fun v0 v3 v4 wr=> ∃i:Nat,i≤8∧v4= .int .i64 (i:Int)∧v3= .string ⟨(digs i k).toArray⟩∧v0= .int .i64 ((k / 10 ^ i:Nat):Int)∧w=wr) (fun _ _ v4 _=>8 - (intOf v4).toNat)
 case atStart=>exact⟨0,by omega,rfl,rfl,by simp,rfl⟩
 case round=>
  obtain⟨i,hi,rfl,rfl,rfl,rfl⟩:=hrel;by_cases hlt:i<8
  ·have h1:decide ((i:Int)<8)=true:=decide_eq_true (by omega)
   obtain⟨n,hn⟩: ∃n,n=k / 10 ^ i:=⟨_,rfl⟩;have hnk:n≤99999999:=by rw[hn];exact Nat.le_trans (Nat.div_le_self _ _) hk
   obtain⟨d,hd⟩: ∃d,d=n % 10:=⟨_,rfl⟩;have hd10:d<10:=by omega
   have hf:=digs_front i k;rw[←hn,←hd] at hf;rw[←hn];have HN2:=Lib.hid (show k / 10 ^ (i+1)=n / 10 by rw[hn,Nat.div_div_eq_div_mul,Nat.pow_succ]);have hm:((n:Int)).tmod 10=(d:Int):=by rw[hd,Int.tmod_eq_emod_of_nonneg (by omega)];omega
   have hq:((n:Int)).tdiv 10=((n / 10:Nat):Int):=by rw[Int.tdiv_eq_ediv_of_nonneg (by omega)];omega
   obtain⟨c,hc,hs⟩:=ten_slice d hd10;have hap:=str_append [c] (digs i k);rw[show([c]++digs i k)=digs (i+1) k by rw[hf,hc];rfl] at hap;have HAP:=Lib.hid hap;obtain⟨nq,hnq⟩: ∃x,x=n / 10:=⟨_,rfl⟩;rw[←hnq] at hq HN2;have hnq2:nq≤99999999:=by omega
   have hlen: ¬9223372036854775807<1+(digs i k).length:=by rw[digs_len];omega
   obtain⟨s0,hs0⟩: ∃x,x=digs i k:=⟨_,rfl⟩;rw[←hs0] at hlen HAP ⊢;clear hn hd hf hnq hs0 hc hap;go_wp2_with fail
   go_roundw
   case rel=>exact⟨i+1,by omega,by go_num,congrArg Value.string HAP.out,by rw[HN2.out],trivial⟩
   case measure=>simp [intOf];omega
  ·obtain rfl:i=8:=by omega
   have hlen: ¬9223372036854775807<4+(digs 8 k).length:=by rw[digs_len];omega
   have HAP:=Lib.hid (str_append [108,111,103,46] (digs 8 k));have HNM:=Lib.hid (show nameOf k= [108,111,103,46]++digs 8 k from rfl);obtain⟨s0,hs0⟩: ∃x,x=digs 8 k:=⟨_,rfl⟩;rw[←hs0] at hlen HAP HNM ⊢;clear hs0;go_wp2_with fail
   go_ret
   exact⟨by rw[HNM.out,←HAP.out];rfl,rfl⟩
end Rl
end Go.Proofs.YtalfbcbnljhldaaGreatDoor

namespace Go.Proofs.YtalfbcbnljhldaaGreatDoor
open Go.Lib (hid)
open Go.RowKit Go.Maps Dsk Rd Wl
namespace Rl
def numR (n:Name):Nat:=(numOf n).getD 0
theorem numR_short {n:Name} (h:n.length≠12):numR n=0:=by
 unfold numR numOf;rw[if_neg (fun e=>h e.2.1)];rfl
theorem numR_dot {n:Name} (h:n.take 4≠dot):numR n=0:=by
 unfold numR numOf;rw[if_neg (fun e=>h e.1)];rfl
theorem numR_dig {n:Name} (h:(n.drop 4).all isDig=false):numR n=0:=by
 unfold numR numOf;rw[if_neg (fun e=>absurd e.2.2.1 (by rw[h];decide))];rfl
theorem numR_val {n:Name} (h1:n.take 4=dot) (h2:n.length=12) (h3:(n.drop 4).all isDig=true):numR n=Wl.valOf (n.drop 4):=by
 unfold numR numOf;by_cases h:Wl.valOf (n.drop 4)=0
 ·rw[if_neg (fun e=>e.2.2.2 h),h];rfl
 ·rw[if_pos ⟨h1,h2,h3,h⟩];rfl
theorem numR_pos {n:Name} :0<numR n↔numOf n=some (numR n):=by
 unfold numR;cases h:numOf n with
 | none=>simp
 | some k=>have:=name_num h;simp;omega
theorem four_slice (n:Name) (h:n.length=12) (w:World):(Instr.slice 9 (.string ⟨n.toArray⟩) none (some (.int .i64 4)) none).run Tryz.prog w= .ok (.string ⟨(n.take 4).toArray⟩) w:=by
 have hsz:(⟨n.toArray⟩:ByteArray).size=n.length:=by show n.toArray.size=_;simp
 rw[run_slice_string_h w 9 _ Tryz.underlying9 .i64 4 (by decide) (by rw[hsz];omega)];have:(⟨n.toArray⟩:ByteArray).extract 0 (4:Int).toNat=⟨(n.take 4).toArray⟩:=by
  refine ByteArray.ext ?_;simp [ByteArray.data_extract,List.extract]
 rw[this]
theorem valOf_take (l:List UInt8) (j:Nat) (hj:j<l.length):Wl.valOf (l.take (j+1))=Wl.valOf (l.take j)*10+(l[j].toNat - 48):=by
 rw[List.take_succ_eq_append_getElem hj,valOf_snoc]
set_option maxRecDepth 100000 in
set_option maxHeartbeats 4000000 in
theorem number_any (n:Name) (w:World):
  Calls Tryz.prog 28 #[.string ⟨n.toArray⟩] w fun e w'=>e= .returned (.int .i64 (numR n:Int))∧w=w':=by
 have hsz:(⟨n.toArray⟩:ByteArray).size=n.length:=rfl;by_cases hl:n.length=12
 ·by_cases hd:n.take 4=dot
  ·have h4:=four_slice n hl
   rw[hd] at h4;have h4': ∀W,(Instr.slice 9 (.string ⟨n.toArray⟩) none (some (.int .i64 4)) none).run Tryz.prog W= .ok (.string ⟨#[108,111,103,46]⟩) W:=h4;have e1:(((n.length:Int)) == 12)=true:=by simp;omega
   have HD:=hid hd;have HL:=hid hl;clear h4 hd;go_enter Tryz.func28,Tryz.ntmps28
   go_wp2_with fail
   go_loopw [3,4] (fun v3 v4 wr=> ∃j:Nat,j≤8∧v4= .int .i64 ((j:Int)+4)∧v3= .int .i64 (Wl.valOf ((n.drop 4).take j):Int)∧Hid (((n.drop 4).take j).all isDig=true)∧Hid (Wl.valOf ((n.drop 4).take j)<10 ^ j)∧w=wr) (fun _ v4 _=>12 - (intOf v4).toNat)
   case atStart=>exact⟨0,by omega,rfl,by rw[List.take_zero];rfl,hid (by rw[List.take_zero];rfl),hid (by rw[List.take_zero];decide),rfl⟩
   case round=>
    obtain⟨j,hj,rfl,rfl,HALL,HLT,rfl⟩:=hrel;by_cases hlt:j<8
    ·have h1:decide ((j:Int)+4<12)=true:=decide_eq_true (by omega)
     have hjn:4+j<n.length:=by omega
     have hi0:(0:Int)≤(j:Int)+4:=by omega
     have hi1:(j:Int)+4<(n.length:Int):=by omega
     have hj4:j+4<(⟨n.toArray⟩:ByteArray).size:=by rw[hsz];omega
     obtain⟨c,hc⟩: ∃c,(⟨n.toArray⟩:ByteArray)[j+4]=c:=⟨_,rfl⟩;have hdl:(n.drop 4).length=8:=by rw[List.length_drop];omega
     have hcd:(n.drop 4)[j]'(by omega)=c:=by
      rw[←hc,List.getElem_drop];have:(⟨n.toArray⟩:ByteArray)[j+4]=n.toArray[j+4]'(by simp only[List.size_toArray];omega):=rfl;rw[this,List.getElem_toArray];congr 1
      omega
     have HVT:=hid (show Wl.valOf ((n.drop 4).take (j+1))=Wl.valOf ((n.drop 4).take j)*10+(c.toNat - 48) by rw[valOf_take _ j (by omega),hcd]);have HAT:=hid (show((n.drop 4).take (j+1)).all isDig=(((n.drop 4).take j).all isDig&&isDig c) by
      rw[List.take_succ_eq_append_getElem (by omega),hcd,List.all_append];simp)
     obtain⟨vv,hvv⟩: ∃x,x=Wl.valOf ((n.drop 4).take j):=⟨_,rfl⟩;rw[←hvv] at HVT HLT ⊢;have hv7:vv<10 ^ 7:=Nat.lt_of_lt_of_le HLT.out (Nat.pow_le_pow_right (by decide) (by omega));have hv8:(vv:Int)≤9999999:=by
      rw[show(10:Nat) ^ 7=10000000 from by decide] at hv7;omega
     have hc8:c.toNat<256:=c.toNat_lt;have HLT2:=hid (show vv*10+9<10 ^ (j+1) by have:=HLT.out;rw[Nat.pow_succ];omega);have HC8:=hid hc8;have hcc: ∀h:j+4<(⟨n.toArray⟩:ByteArray).size,(⟨n.toArray⟩:ByteArray)[j+4]'h=c:=fun _=>hc;clear hc hdl hcd hvv hv7 hc8 hj4 hj hjn h4';have HDI:=hid (show isDig c=(decide (48≤c.toNat)&&decide (c.toNat≤57)) from rfl);obtain⟨cn,hcn⟩: ∃x,c.toNat=x:=⟨_,rfl⟩;rw[hcn] at HVT HC8 HDI;by_cases hdg:isDig c=true
     ·have hr:48≤cn∧cn≤57:=by
       rw[HDI.out] at hdg;simpa using hdg
      have d1:decide ((cn:Int)<48)=false:=decide_eq_false (by omega);have d2:decide (57<(cn:Int))=false:=decide_eq_false (by omega);have hc0:(0:Int)≤(cn:Int):=by omega
      have hc1:(cn:Int)≤255:=by omega
      have HDG:=hid hdg;have HRR:=hid hr;clear hdg hr;go_wp2_with fail
      go_roundw
      case rel=>exact⟨j+1,by omega,by go_num,by rw[HVT.out];have h2:=HRR.out;exact congrArg (Value.int .i64) (by omega),hid (by rw[HAT.out,HALL.out,HDG.out];rfl),hid (by rw[HVT.out];have h1:=HLT2.out;have h2:=HRR.out;omega),trivial⟩
      case measure=>simp [intOf];omega
     ·have hr:cn<48∨57<cn:=by
       rw[HDI.out] at hdg;simp at hdg;omega
      have d1:(decide ((cn:Int)<48)||decide (57<(cn:Int)))=true:=by
       rcases hr with h | h
       ·rw[decide_eq_true (show(cn:Int)<48 by omega)];rfl
       ·rw[decide_eq_true (show 57<(cn:Int) by omega),Bool.or_true]
      have HZ:=hid (show numR n=0 from numR_dig (by
       rw[←List.take_append_drop (j+1) (n.drop 4),List.all_append,HAT.out];have:isDig c=false:=by simpa using hdg
       rw[this];simp))
      clear hdg;rcases hr with h | h
      ·have d3:decide ((cn:Int)<48)=true:=decide_eq_true (by omega)
       clear h;go_wp2_with fail
       go_ret
       exact⟨by rw[HZ.out];rfl,rfl⟩
      ·have d3:decide ((cn:Int)<48)=false:=decide_eq_false (by omega)
       have d4:decide (57<(cn:Int))=true:=decide_eq_true (by omega);clear h;go_wp2_with fail
       go_ret
       exact⟨by rw[HZ.out];rfl,rfl⟩
    ·obtain rfl:j=8:=by omega
     have h8:(n.drop 4).take 8=n.drop 4:=List.take_of_length_le (by rw[List.length_drop];omega);rw[h8] at HALL HLT ⊢;have HZ:=hid (numR_val HD.out HL.out HALL.out);obtain⟨vv,hvv⟩: ∃x,x=Wl.valOf (n.drop 4):=⟨_,rfl⟩;rw[←hvv] at HZ ⊢;clear h8 hvv;go_wp2_with fail
     go_ret
     exact⟨by rw[HZ.out];rfl,rfl⟩
  ·have h4:=four_slice n hl
   have e1:(((n.length:Int)) == 12)=true:=by simp;omega
   have e2:(n.take 4 == [108,111,103,46])=false:=by
    rw[Bool.eq_false_iff];intro e;exact hd (show n.take 4= [108,111,103,46] by simpa using e)
   have e3:=numR_dot hd;rw[e3];clear e3;go_enter Tryz.func28,Tryz.ntmps28
   go_wp2_with fail
   go_ret
   exact⟨rfl,rfl⟩
 ·have e1:(((n.length:Int)) == 12)=false:=by simp;omega
  have e2:=numR_short hl;rw[e2];clear e2;go_enter Tryz.func28,Tryz.ntmps28
  go_wp2_with fail
  go_ret
  exact⟨rfl,rfl⟩
end Rl
end Go.Proofs.YtalfbcbnljhldaaGreatDoor
