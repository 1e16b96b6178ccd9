/-  -/
import Derived.Test.YtalfbcbnljhldaaGreatDoorMad
import Derived.Deep.RegionHeld
import Derived.WalkKit
namespace Go.Proofs.YtalfbcbnljhldaaGreatDoor
open Go.Lib (hid)
open Go.RowKit Go.Maps Dsk
theorem info_ver:(Tryz.prog.info? 95).map (fun i=>(i.zero,i.size,i.bytes))=some (some (.agg #[.bool false,.slice none 0 0,.int .i64 0]),3,40):=by kernel_rfl
theorem cells_set {W:World} {b:Nat} {cs:Array Value} {T:TypeId} {fr:Nat×Nat} (h:W.heap[b]?=some (.cells cs T fr)) (i:Nat) (u:Value):(W.setCell ⟨b,i,none⟩ u).heap[b]?=some (.cells (cs.setIfInBounds i u) T fr):=by
 simp [World.setCell,Array.getElem?_modify,h]
theorem World.grownBy_drew (w:World) (row:Option Nat):w.grownBy w.drew row:=⟨rfl,rfl,rfl,Nat.le_refl _,fun _ _ _=>rfl⟩
theorem World.grownBy_setCell (w:World) (b i:Nat) (u:Value):w.grownBy (w.setCell ⟨b,i,none⟩ u) (some b):=
 ⟨rfl,rfl,rfl,by simp [World.setCell],fun k _ hk=>Below.heap_setCell _ _ _ _ fun e=>hk (by rw[e])⟩
theorem World.grownBy_below {w w':World} (h:Below w.heap.size w w') (row:Option Nat):w.grownBy w' row:=⟨h.os,h.tape,h.output,h.size,fun k hk _=>h.block k hk⟩
section
variable {w w' W:World} {B:Nat} {o o':Tags} {g b N:Nat} {D:DataW Value} {M:Files} {l:Name}
theorem StepX.turned {x:Value} {row:Option Nat} (hb:w.grownBy W row) (hrow: ∀k,row=some k→o k≠none) (hg:W.grownBy w' (some b)) (ob:o b=some .map) (hf: ∀k,k<w.heap.size→o k=none→x.ownBlock≠some k→o' k=none):StepX x o w o' w':=
 ⟨hg.os.trans hb.os,hg.tape.trans hb.tape,hg.output.trans hb.output,Nat.le_trans hb.size hg.size,
  fun k hk e=>(hg.block k (Nat.lt_of_lt_of_le hk hb.size) fun e'=>by cases e';rw[ob] at e;cases e).trans (hb.block k hk fun e'=>hrow k e'.symm e),
  fun k hk e hx=>hf k hk e hx⟩
theorem DiskIn.changed (h:DiskIn w B o g b D M N none) {c:FV} {f:Fil} (hf:FileAt w B o l c f) {s:Value} {zs:List Int} {t:Bool} {wh:Nat} (hs:Row w B zs s) (hso: ∀k,s.ownBlock=some k→o k=none) (hv:Ver.ok ⟨t,zs,wh⟩)
  {ss:List Value} (hss:ss.length=f.later.length) (hlo: ∀k,c.lt.ownBlock=some k→o k=some (.file l 1)) (hbs: ∀i (h:i<f.later.length),BytesAt w B o (.file l (i+2)) f.later[i].bs (ss.getD i undef))
  (hg:w.grownBy W c.lt.ownBlock) {a':Option Addr} {n' c':Nat} (hrow:W.ownsRow B 95 3 (.slice a' n' c') (f.later.length+1) (verCells f.later ss++ [.bool t,s,.int .i64 wh]))
  (hlies:(Value.slice a' n' c').ownBlock=c.lt.ownBlock∨ ∃k,(Value.slice a' n' c').ownBlock=some k∧w.heap.size≤k):
  ∃o',DiskIn W B o' g b D M N (some l)∧FileAt W B o' l {c with la:=a',ln:=n',lc:=c',ls:=true} (f.chg ⟨t,zs,wh⟩)∧ ∀k,k<w.heap.size→o k=none→s.ownBlock≠some k→o' k=none:=by
 obtain⟨o1,ho1⟩: ∃o1:Tags,o1=fun k=>if (Value.slice a' n' c').ownBlock=some k then some (.file l 1) else if s.ownBlock=some k then some (.file l (f.later.length+2)) else o k:=⟨_,rfl⟩;have hsl: ∀k,s.ownBlock=some k→(Value.slice a' n' c').ownBlock≠some k:=fun k e e'=>by
  rcases hlies with h1 | ⟨j,h1,h2⟩
  ·rw[h1] at e'
   have:=hlo k e';rw[hso k e] at this;cases this
  ·rw[h1] at e'
   cases e';have:=(hs.own k e).2;omega
 have hold: ∀k t',o k=some t'→o1 k=some t':=fun k t' e=>by
  rw[ho1];by_cases e1:(Value.slice a' n' c').ownBlock=some k
  ·simp only[e1,if_true]
   rcases hlies with h1 | ⟨j,h1,h2⟩
   ·rw[h1] at e1
    rw[←hlo k e1,e]
   ·rw[h1] at e1
    cases e1;have:=(h.own k (by rw[e];simp)).2;omega
  ·by_cases e2:s.ownBlock=some k
   ·rw[hso k e2] at e;cases e
   ·simp only[e1,e2,if_false]
    exact e
 have hsame: ∀k t',o k=some t'→t'≠ .file l 1→W.heap[k]?=w.heap[k]?:=fun k t' e hne=>
  hg.block k (h.own k (by rw[e];simp)).2 fun e'=>by
   rw[hlo k e'.symm] at e;cases e;exact hne rfl
 have hsrow:Row W B zs s:=hs.keep fun k e=>hg.block k (hs.own k e).2 fun e'=>by
  have:=hlo k e'.symm;rw[hso k e] at this;cases this
 refine⟨o1,(h.but l).keep (fun _ e=>e) (h.but l).here (fun k t' e ht=>hsame k t' e fun e'=>ht l 1 e' rfl) (fun k t' e _=>hold k t' e) (fun k e=>?_),⟨hf.t,hf.wh,rfl,?_,Fil.chg_ok hf.ok hv,ss++ [s],?_,?_,fun k e=>?_,fun i hi=>?_⟩,fun k hk e hx=>?_⟩
 ·rw[ho1] at e
  by_cases e1:(Value.slice a' n' c').ownBlock=some k
  ·exact hrow.lt k e1
  ·by_cases e2:s.ownBlock=some k
   ·exact hsrow.own k e2
   ·simp only[e1,e2,if_false] at e
    exact⟨(h.own k e).1,Nat.lt_of_lt_of_le (h.own k e).2 hg.size⟩
 ·exact hf.sb.keep (fun k e=>hsame k _ e (by simp)) (fun k e=>hold k _ e)
 ·simp [Fil.chg,hss]
 ·show W.ownsRow B _ 3 (.slice a' n' c') (f.later++ [(⟨t,zs,wh⟩:Ver)]).length (verCells (f.later++ [(⟨t,zs,wh⟩:Ver)]) (ss++ [s]))
  rw[verCells_snoc _ _ _ _ hss,List.length_append];exact hrow
 ·rw[ho1]
  simp only[show(Value.slice a' n' c').ownBlock=some k from e,if_true]
 ·simp only[Fil.chg,List.length_append,List.length_cons,List.length_nil] at hi
  by_cases hin:i<f.later.length
  ·have h1:(f.chg ⟨t,zs,wh⟩).later[i]'(by simp [Fil.chg];omega)=f.later[i]:=by simp [Fil.chg,hin]
   have h2:(ss++ [s]).getD i undef=ss.getD i undef:=by simp [List.getD,List.getElem?_append,show i<ss.length by omega]
   rw[h1,h2];exact(hbs i hin).keep (fun k e=>hsame k _ e (by simp)) (fun k e=>hold k _ e)
  ·obtain rfl:i=f.later.length:=by omega
   have h1:(f.chg ⟨t,zs,wh⟩).later[f.later.length]'(by simp [Fil.chg])=⟨t,zs,wh⟩:=by simp [Fil.chg]
   have h2:(ss++ [s]).getD f.later.length undef=s:=by simp [List.getD,←hss]
   rw[h1,h2];refine⟨hsrow,fun k e=>?_⟩;rw[ho1];simp only[hsl k e,e,if_false,if_true]
 ·rw[ho1]
  by_cases e1:(Value.slice a' n' c').ownBlock=some k
  ·rcases hlies with h1 | ⟨j,h1,h2⟩
   ·rw[h1] at e1
    rw[hlo k e1] at e;cases e
   ·rw[h1] at e1
    cases e1;omega
  ·simp only[e1,hx,if_false]
   exact e
end
theorem slice_shape {w:World} {B:Nat} {e:TypeId} {size n:Nat} {v:Value} {xs:List Value} (h:w.ownsRow B e size v n xs): ∃a c,v= .slice a n c∧(a=none→n=0∧c=0):=by
 rcases h.2 with⟨rfl,rfl⟩ | ⟨g,cap,cur,rfl,_⟩
 ·exact⟨none,0,rfl,fun _=>⟨rfl,rfl⟩⟩
 ·exact⟨_,_,rfl,fun h=>by cases h⟩
theorem cells_new (w:World) (cs:List Value) (t:TypeId): ∀j u,cs[j]?=some u→(w.alloc (.cells cs.toArray t)).cell? ((⟨w.heap.size,0,none⟩:Addr).add j)=some u:=by
 intro j u hj;rw[show((⟨w.heap.size,0,none⟩:Addr).add j)=⟨w.heap.size,j,none⟩ by unfold Addr.add;split<;>simp_all,cell_of_row _ _ j _ _ _ (heap_alloc_new w _)];simpa using hj
theorem frozen_row {W:World} {b i:Nat} {cs:Array Value} {T:TypeId} (h:W.heap[b]?=some (.cells cs T (0,0))):W.frozen? ⟨b,i,none⟩=false:=by simp [World.frozen?,h]
set_option maxRecDepth 100000 in
set_option maxHeartbeats 1000000 in
theorem change_any (g B N:Nat) (o:Tags) (M:Files) (l:Name) (t:Bool) (a:Option Addr) (n c wh:Nat) (zs:List Int) (w:World) (hd:DiskAt w B o g M N) (hs:Row w B zs (.slice a n c)) (hv:Ver.ok ⟨t,zs,wh⟩)
  (hso: ∀k,(Value.slice a n c).ownBlock=some k→o k=none) (hl:l.length≤64) (hN:N<4611686018427387904) (hlt:(M.at l).later.length<1000000000) (hBw:B≤w.heap.size):
  Calls Tryz.prog 53 #[.pointer (some ⟨g,0,none⟩),.string ⟨l.toArray⟩,.agg #[.bool t,.slice a n c,.int .i64 wh]] w fun e w'=>e= .returned (.tuple #[])∧
   ∃o',DiskAt w' B o' g (upd M l (some ((M.at l).chg ⟨t,zs,wh⟩))) (cntN M l N)∧StepX (.slice a n c) o w o' w':=by
 obtain⟨b,D,hd⟩:=hd;obtain⟨i0,hi,hz0,hz1,hz2⟩:=info_parts info_ver;have hB1:Below w.heap.size w (w.alloc (.cells #[.bool t,.slice a n c,.int .i64 wh] 95)):=(Below.refl _ _).alloc (Nat.le_refl _) _;have hcell1:=(hd.below hB1).cell;obtain⟨⟨ft,sa,sn,sc,fwh,la,ln,lc,ls⟩,hf,hrun,_⟩:=(hd.below hB1).look l (by unfold maxLen;omega);simp only[mkV] at hrun;have hf0:FileAt w B o l ⟨ft,sa,sn,sc,fwh,la,ln,lc,ls⟩ (M.at l):=hf.keep (fun k j e=>(hB1.block k (hd.own k (by rw[e];simp)).2).symm) (fun k j e=>e);clear hf;obtain⟨ss,hss,hrow,hlo,hbs⟩:=hf0.lt;have hln:ln=(M.at l).later.length:=by
  obtain⟨_,_,e,_⟩:=slice_shape hrow;simp only[Value.slice.injEq] at e;exact e.2.1
 have hlb: ∀k,(Value.slice la ln lc).ownBlock=some k→k<w.heap.size:=fun k e=>(hrow.lt k e).2;obtain⟨W2,hW2⟩: ∃W2,W2=((w.alloc (.cells #[.bool t,.slice a n c,.int .i64 wh] 95)).alloc (.cells #[.bool ft,.slice sa sn sc,.int .i64 fwh,.slice la ln lc,.bool ls] 98)).alloc (.cells #[.bool t,.slice a n c,.int .i64 wh] 95):=⟨_,rfl⟩;have hB3:Below w.heap.size w W2:=by
  rw[hW2];exact(hB1.alloc (by simp) _).alloc (by simp;omega) _
 have hx:W2.heap[w.heap.size+1]?=some (.cells #[.bool ft,.slice sa sn sc,.int .i64 fwh,.slice la ln lc,.bool ls] 98 (0,0)):=by
  rw[hW2,Below.heap_alloc _ _ _ (by simp)];have:=heap_alloc_new (w.alloc (.cells #[.bool t,.slice a n c,.int .i64 wh] 95)) (.cells #[.bool ft,.slice sa sn sc,.int .i64 fwh,.slice la ln lc,.bool ls] 98);simpa using this
 have hnews: ∀j u,[Value.bool t,.slice a n c,.int .i64 wh][j]?=some u→W2.cell? ((⟨w.heap.size+1+1,0,none⟩:Addr).add j)=some u:=by
  rw[hW2];have:=cells_new ((w.alloc (.cells #[.bool t,.slice a n c,.int .i64 wh] 95)).alloc (.cells #[.bool ft,.slice sa sn sc,.int .i64 fwh,.slice la ln lc,.bool ls] 98)) [.bool t,.slice a n c,.int .i64 wh] 95;simpa using this
 have hsz:W2.heap.size=w.heap.size+3:=by rw[hW2];simp
 have hrow2:=ownsRow_keep hrow fun k e=>hB3.block k (hlb k e);have HW2:=hid hW2;have HLN:=hid hln;have HSS:=hid hss;have HLO:=hid hlo;have HBS:=hid hbs;have HX:=hid hx;have HSO:=hid hso;have HLB:=hid hlb;have HSZ:=hid hsz;rw[hW2] at hnews hrow2;clear hln hss hlo hbs hx hso hlb hsz hrow hW2;go_enter Tryz.func53,Tryz.ntmps53
 go_wp2_with (at_builtin;go_loud (refine wpList_append_lies _ rfl _ _ 96 rfl B 95 i0 (.agg #[.bool false,.slice none 0 0,.int .i64 0]) 3 40 Tryz.underlying96 hi hz0 hz1 hz2 rfl (by decide) _ _ _ rfl hrow2 (some ⟨w.heap.size+1+1,0,none⟩) 1 1 [.bool t,.slice a n c,.int .i64 wh] rfl rfl (fun h=>by cases h) (fun ad h=>by cases h;exact hnews) (by simp [Value.oneCell']) (by unfold maxLen;omega) (by omega) (by simp;omega) ?_))
 intro v' w3 hown hg3 hlies;replace hg3:W2.grownBy w3 (Value.slice la ln lc).ownBlock:=by rw[HW2.out];exact hg3
 replace hlies:v'.ownBlock=(Value.slice la ln lc).ownBlock∨v'.ownBlock=some (w.heap.size+3):=hlies;obtain⟨a',c',rfl,_⟩:=slice_shape hown;have hb1:(some (w.heap.size+1):Option Nat)≠(Value.slice la ln lc).ownBlock:=fun e=>by have:=HLB.out _ e.symm;omega
 have hx3:w3.heap[w.heap.size+1]?=some (.cells #[.bool ft,.slice sa sn sc,.int .i64 fwh,.slice la ln lc,.bool ls] 98 (0,0)):=
  (hg3.block _ (by rw[HSZ.out];omega) hb1).trans HX.out
 have c3:w3.cell? ⟨w.heap.size+1,3,none⟩=some (.slice la ln lc):=by rw[cell_of_row _ _ 3 _ _ _ hx3];rfl
 have c4:w3.cell? ⟨w.heap.size+1,4,none⟩=some (.bool ls):=by rw[cell_of_row _ _ 4 _ _ _ hx3];rfl
 have f3:=frozen_row (i:=3) hx3;have f4:=frozen_row (i:=4) hx3;have HX3:=hid hx3;have HOWN:=hid hown;have HG3:=hid hg3;have HLIES:=hid hlies;have HB1:=hid hb1;clear hx3 hown hg3 hlies hb1 hrow2 hnews;go_wp2
 obtain⟨W5,hW5⟩: ∃W5,W5=((w3.setCell ⟨w.heap.size+1,3,none⟩ (.slice a' ((M.at l).later.length+1) c')).setCell ⟨w.heap.size+1,4,none⟩ (.bool true)):=⟨_,rfl⟩;rw[←hW5];have hx5:W5.heap[w.heap.size+1]?=some (.cells #[.bool ft,.slice sa sn sc,.int .i64 fwh,.slice a' ((M.at l).later.length+1) c',.bool true] 98 (0,0)):=by
  rw[hW5];exact cells_set (cells_set HX3.out 3 _) 4 _
 have hg35:w3.grownBy W5 (some (w.heap.size+1)):=by
  rw[hW5];exact(World.grownBy_setCell _ _ _ _).andThen (World.grownBy_setCell _ _ _ _) (fun j e=> .inr e)
 have hgw:w.grownBy W5 (Value.slice la ln lc).ownBlock:=
  ((World.grownBy_below hB3 _).andThen HG3.out (fun j e=> .inr e)).andThen hg35 (fun j e=>by cases e;exact .inl (by omega))
 have hrow5:W5.ownsRow B 95 3 (.slice a' ((M.at l).later.length+1) c') ((M.at l).later.length+1) (verCells (M.at l).later ss++ [.bool t,.slice a n c,.int .i64 wh]):=
  HOWN.out.kept hg35 (.inr fun e=>by
   rcases HLIES.out with h1 | h1
   ·exact HB1.out (by rw[←h1,e])
   ·rw[e] at h1;simp at h1)
 obtain⟨o',hd5,hf5,hfree⟩:=hd.changed hf0 hs HSO.out hv HSS.out HLO.out HBS.out (hgw.andThen (World.grownBy_drew W5 none) (fun j e=>by cases e)) (ownsRow_keep hrow5 fun k e=>rfl) (HLIES.out.imp id fun h=>⟨_,h,by omega⟩);obtain⟨w',hrun5,hd',hg',hs'⟩:=hd5.store hf5 (by unfold maxLen;omega) (by unfold maxLen;omega);simp only[mkV] at hrun5;have c0:W5.cell? ⟨w.heap.size+1,0,none⟩=some (.bool ft):=by rw[cell_of_row _ _ 0 _ _ _ hx5];rfl
 have c1:W5.cell? ⟨w.heap.size+1,1,none⟩=some (.slice sa sn sc):=by rw[cell_of_row _ _ 1 _ _ _ hx5];rfl
 have c2:W5.cell? ⟨w.heap.size+1,2,none⟩=some (.int .i64 fwh):=by rw[cell_of_row _ _ 2 _ _ _ hx5];rfl
 have c3:W5.cell? ⟨w.heap.size+1,3,none⟩=some (.slice a' ((M.at l).later.length+1) c'):=by rw[cell_of_row _ _ 3 _ _ _ hx5];rfl
 have c4:W5.cell? ⟨w.heap.size+1,4,none⟩=some (.bool true):=by rw[cell_of_row _ _ 4 _ _ _ hx5];rfl
 have cg:W5.cell? ⟨g,0,none⟩=some (.map (some b)):=hd5.cell;have HD:=hid hd';have HG':=hid hg';have HGW:=hid (hgw.andThen (World.grownBy_drew W5 none) (fun j e=>by cases e));have HF:=hid hfree;have HO:=hid hd.ob;clear hd' hg' hgw hfree hs' hd5 hf5 hrow5 hg35 hx5 hW5 hf0 hd hs hv;go_still_tail 6,(by kernel_rfl)
 change wpList _ _ _ _ _ W5.drew;generalize hWd:W5.drew=W6 at hrun5 HG' HGW ⊢;clear hWd c0 c1 c2 c3 c4 cg;go_wp2
 go_end0
 exact⟨rfl,o',⟨b,_,HD.out⟩,.turned (HGW.out) (fun k e=>by rw[HLO.out k e];simp) HG'.out HO.out HF.out⟩
end Go.Proofs.YtalfbcbnljhldaaGreatDoor

namespace Go.Proofs.YtalfbcbnljhldaaGreatDoor
open Go Go.RowKit
def wpAnyM (P:Program) (md:Region.Mode) (ops:Array Oper) (Q:Exit→Act→World→Prop) (S:World→Prop) (m:Nat):Nat→Array Bool→Act→World→Prop
 | 0,listed,a,w=>Region.ready md ops listed= []∧Q .normal a w
 | fuel+1,listed,a,w=>
  (Region.ready md ops listed= []→Q .normal a w)∧
  ∀i∈Region.ready md ops listed,wpOp P ops Q i (fun a' w'=>(i=m→Region.ready md ops (listed.setIfInBounds i true)= []∧Q .normal a' w')∧(i≠m→S w'∧wpAnyM P md ops Q S m fuel (listed.setIfInBounds i true) a' w')) a w
section
variable {P:Program} {ops:Array Oper} {Q:Exit→Act→World→Prop} {md:Region.Mode} {S:World→Prop} {m:Nat}
theorem wpAny_none {listed:Array Bool} {a:Act} {w:World} (hr:Region.ready md ops listed= []) (h:Q .normal a w): ∀fuel,wpAny P md ops Q fuel listed a w
 | 0=>⟨hr,h⟩
 | _+1=>⟨fun _=>h,by rw[hr];simp⟩
theorem wpAny_of_M: ∀(fuel:Nat) (listed:Array Bool) (a:Act) (w:World),wpAnyM P md ops Q S m fuel listed a w→wpAny P md ops Q fuel listed a w
 | 0,_,_,_,h=>h
 | fuel+1,listed,_,_,h=>⟨h.1,fun i hi=>wpOp_mono (fun a' w' h'=>by
  by_cases e:i=m
  ·exact wpAny_none (h'.1 e).1 (h'.1 e).2 fuel
  ·exact wpAny_of_M fuel _ a' w' (h'.2 e).2) (h.2 i hi)⟩
def waits (md:Region.Mode) (ops:Array Oper) (m i:Nat):Bool:=match ops[m]? with
 | none=>false
 | some o=>o.after.any fun e=>Region.binds md e&&e.on == i
theorem waits_not {i:Nat} {listed:Array Bool} (h:waits md ops m i=true) (hi:i∈Region.ready md ops listed): ¬m∈Region.ready md ops listed:=fun hm=>by
 obtain⟨hjun,oj,hoj,hall⟩:=mem_ready.1 hm;unfold waits at h;rw[hoj] at h;obtain⟨e,he,hb⟩:=Array.any_eq_true'.1 h;rw[Bool.and_eq_true] at hb;have h1:=hall e he hb.1;have h0:=(mem_ready.1 hi).1;rw[show e.on=i by simpa using hb.2] at h1;rcases Nat.lt_or_ge i listed.size with h' | h'
 ·simp [h'] at h0 h1;rw[h0] at h1;cases h1
 ·simp [Array.getElem?_eq_none h'] at h1
theorem wpAnyM_first {i:Nat} {oi:Oper} {v:Value} (hi:ops[i]?=some oi) (hw:waits md ops m i=true) (hsel: ∀(j:Nat) (o:Oper) cs b,ops[j]?=some o→o.op≠ .select cs b)
  (hQ: ∀c a w,Q (.panic c) (a.put oi.dst v) w→Q (.panic c) a w):
  ∀(fuel:Nat) (listed:Array Bool) (a:Act) (w:World),
   (∀j oj,ops[j]?=some oj→j≠i→listed.getD j true=false→(∀e∈oj.after,Region.binds md e=true→e.on≠i)→oi.apart ops oj=true)→
   i∈Region.ready md ops listed→YieldsIf P ops S oi v a→S w→
   wpAnyM P md ops Q S m fuel (listed.setIfInBounds i true) (a.put oi.dst v) w→wpAnyM P md ops Q S m (fuel+1) listed a w:=by
 intro fuel;induction fuel with
 | zero=>
  intro listed a w _ hr hy hS H;refine⟨fun h=>(by rw[h] at hr;cases hr),fun j hj=>?_⟩;have hjm:j≠m:=fun e=>waits_not hw hr (e ▸ hj);by_cases hji:j=i
  ·subst hji;exact hy.wpOp hi hS ⟨fun e=>absurd e hjm,fun _=>⟨hS,H⟩⟩
  ·have:=ready_mono hj hji
   rw[H.1] at this;cases this
 | succ fuel ih=>
  intro listed a w hfree hr hy hS H;refine⟨fun h=>(by rw[h] at hr;cases hr),fun j hj=>?_⟩;have hjm:j≠m:=fun e=>waits_not hw hr (e ▸ hj);by_cases hji:j=i
  ·subst hji;exact hy.wpOp hi hS ⟨fun e=>absurd e hjm,fun _=>⟨hS,H⟩⟩
  ·have h1:=H.2 j (ready_mono hj hji)
   obtain⟨hjun,oj,hoj,hall⟩:=mem_ready.1 hj;have hnot: ∀e∈oj.after,Region.binds md e=true→e.on≠i:=fun e he hb heq=>by
    have h1:=hall e he hb;have h0:=(mem_ready.1 hr).1;rw[heq] at h1;rcases Nat.lt_or_ge i listed.size with h' | h'
    ·simp [h'] at h0 h1;rw[h0] at h1;cases h1
    ·simp [Array.getElem?_eq_none h'] at h1
   have h2:=wpOp_putIf hoj (hfree j oj hoj hji hjun hnot) (fun cs b=>hsel i oi cs b hi) (fun cs b=>hsel j oj cs b hoj) hQ hy h1;have hfree': ∀k ok,ops[k]?=some ok→k≠i→(listed.setIfInBounds j true).getD k true=false→
     (∀e∈ok.after,Region.binds md e=true→e.on≠i)→oi.apart ops ok=true:=fun k ok hk hki hun hno=>by
    refine hfree k ok hk hki ?_ hno;by_cases hjk:j=k
    ·subst hjk;exact hjun
    ·rw[getD_set_ne true hjk] at hun;exact hun
   refine wpOp_mono (fun a' w' h3=>⟨fun e=>absurd e hjm,fun _=>⟨(h3.2.2 hjm).1,ih (listed.setIfInBounds j true) a' w' hfree' (ready_mono hr (Ne.symm hji)) h3.1 (h3.2.2 hjm).1 ?_⟩⟩) h2;rw[Array.setIfInBounds_comm _ _ hji];exact(h3.2.2 hjm).2
theorem wpAnyM_take {i:Nat} {oi:Oper} {v:Value} {fuel:Nat} {listed:Array Bool} {a:Act} {w:World} (hi:ops[i]?=some oi) (hw:waits md ops m i=true)
  (hs:Region.noSelect ops=true) (hf:Region.free md ops listed i=true) (hr:(Region.ready md ops listed).contains i=true)
  (hQ: ∀c a w,Q (.panic c) (a.put oi.dst v) w→Q (.panic c) a w) (hy:YieldsIf P ops S oi v a) (hS:S w)
  (h:wpAnyM P md ops Q S m fuel (listed.setIfInBounds i true) (a.put oi.dst v) w):wpAnyM P md ops Q S m (fuel+1) listed a w:=
 wpAnyM_first hi hw (Region.noSelect_spec hs) hQ fuel listed a w (Region.free_spec hi hf) (by simpa using hr) hy hS h
def AllReadyM (P:Program) (md:Region.Mode) (ops:Array Oper) (Q:Exit→Act→World→Prop) (S:World→Prop) (m fuel:Nat) (listed:Array Bool) (a:Act) (w:World) (rs:List Nat):Prop:=
 ∀i∈rs,wpOp P ops Q i (fun a' w'=>(i=m→Region.ready md ops (listed.setIfInBounds i true)= []∧Q .normal a' w')∧(i≠m→S w'∧wpAnyM P md ops Q S m fuel (listed.setIfInBounds i true) a' w')) a w
theorem AllReadyM.nil {fuel:Nat} {listed:Array Bool} {a:Act} {w:World} :AllReadyM P md ops Q S m fuel listed a w []:=fun _ h=>by cases h
theorem AllReadyM.cons {fuel:Nat} {listed:Array Bool} {a:Act} {w:World} {i:Nat} {o:Oper} {rs:List Nat} (ho:ops[i]?=some o) (him:decide (i=m)=false)
  (h: ∀K':Act→World→Prop,Shut (∀a w,S w→(S w→wpAnyM P md ops Q S m fuel (listed.setIfInBounds i true) a w)→K' a w)→if Region.wanted o (yielded ops a.tmps)=true then Oper.wp P o a w K' Q else K' (a.put o.dst undef) w)
  (hs:AllReadyM P md ops Q S m fuel listed a w rs):AllReadyM P md ops Q S m fuel listed a w (i::rs):=fun j hj=>by
 have hne:i≠m:=by simpa using him
 rcases List.mem_cons.1 hj with rfl | hj
 ·exact wpOp_step ho (fun K' hK=>h K' (fun a w hS hW=>hK a w ⟨fun e=>absurd e hne,fun _=>⟨hS,hW hS⟩⟩))
 ·exact hs j hj
theorem AllReadyM.last {fuel:Nat} {listed:Array Bool} {a:Act} {w:World} {i:Nat} {o:Oper} {rs:List Nat} (ho:ops[i]?=some o) (hr:Region.ready md ops (listed.setIfInBounds i true)= []) (him:decide (i=m)=true)
  (h: ∀K':Act→World→Prop,Shut (∀a w,Q .normal a w→K' a w)→if Region.wanted o (yielded ops a.tmps)=true then Oper.wp P o a w K' Q else K' (a.put o.dst undef) w)
  (hs:AllReadyM P md ops Q S m fuel listed a w rs):AllReadyM P md ops Q S m fuel listed a w (i::rs):=fun j hj=>by
 have he:i=m:=by simpa using him
 rcases List.mem_cons.1 hj with rfl | hj
 ·exact wpOp_step ho (fun K' hK=>h K' (fun a w hQ=>hK a w ⟨fun _=>⟨hr,hQ⟩,fun e=>absurd he e⟩))
 ·exact hs j hj
theorem wpAnyM_ready {rs:List Nat} {fuel:Nat} {listed:Array Bool} {a:Act} {w:World} (hr:Region.ready md ops listed=rs) (hne:rs≠ [])
  (h:AllReadyM P md ops Q S m fuel listed a w rs):wpAnyM P md ops Q S m (fuel+1) listed a w:=
 ⟨fun h0=>absurd (hr ▸ h0) hne,hr ▸ h⟩
theorem wp_region_heldM_drew (m:Nat) {id:Nat} {a:Act} {w:World} (hm:P.follows .mixedOrders=true) (hS:S w.drew)
  (h:S w.drew→wpAnyM P .any ops Q S m ops.size (Array.replicate ops.size false) a w.drew):(Code.region id ops true).wp P Q a w:=
 wp_region_any hm (wpAny_of_M _ _ _ _ (h hS))
end
end Go.Proofs.YtalfbcbnljhldaaGreatDoor

namespace Go.Proofs.YtalfbcbnljhldaaGreatDoor
open Go Go.RowKit
theorem zgT {α:Type} {a:List α} {i:Nat} :a.toArray[i]?=a[i]?:=List.getElem?_toArray
theorem zgS {α:Type} {a:α} {l:List α} {i:Nat} :(a::l)[i+1]?=l[i]?:=rfl
theorem zgZ {α:Type} {a:α} {l:List α} :(a::l)[0]?=some a:=rfl
theorem zsA {α:Type} {l:List α} {i:Nat} {a:α} :l.toArray.setIfInBounds i a=(l.set i a).toArray:=List.setIfInBounds_toArray ..
theorem zsS {α:Type} {a x:α} {l:List α} {i:Nat} :(x::l).set (i+1) a=x::l.set i a:=rfl
theorem zsZ {α:Type} {a x:α} {l:List α} :(x::l).set 0 a=a::l:=rfl
section
variable {P:Program} {ops:Array Oper} {Q:Exit→Act→World→Prop} {md:Region.Mode} {S:World→Prop} {m:Nat}
theorem zkH (i:Nat) {o:Oper} {v:Value} {fuel:Nat} {listed:Array Bool} {a:Act} {w:World} (hi:ops[i]?=some o:=by(simp only[zgT,zgS,zgZ];rfl)) (hQ: ∀c a w,Q (.panic c) (a.put o.dst v) w→Q (.panic c) a w:=by exact fun _ _ _ h=>h) (h1:Region.wanted o (yielded ops a.tmps)=true:=by rfl) (h2: ∀w,S w→(execOp a.eval o).run P w= .ok (.value v) w) (h:wpAnyH P md ops Q S fuel (listed.setIfInBounds i true) (a.put o.dst v) w)
  (hs:Region.noSelect ops=true:=by kernel_rfl) (hf:Region.free md ops listed i=true:=by kernel_rfl) (hr:(Region.ready md ops listed).contains i=true:=by kernel_rfl) (hS:S w:=by assumption):wpAnyH P md ops Q S (fuel+1) listed a w:=wpAnyH_take hi hs hf hr hQ (.inl ⟨h1,h2⟩) hS h
theorem zkM (i:Nat) {o:Oper} {v:Value} {fuel:Nat} {listed:Array Bool} {a:Act} {w:World} (hi:ops[i]?=some o:=by(simp only[zgT,zgS,zgZ];rfl)) (hQ: ∀c a w,Q (.panic c) (a.put o.dst v) w→Q (.panic c) a w:=by exact fun _ _ _ h=>h) (h1:Region.wanted o (yielded ops a.tmps)=true:=by rfl) (h2: ∀w,S w→(execOp a.eval o).run P w= .ok (.value v) w) (h:wpAnyM P md ops Q S m fuel (listed.setIfInBounds i true) (a.put o.dst v) w)
  (hw:waits md ops m i=true:=by kernel_rfl) (hs:Region.noSelect ops=true:=by kernel_rfl) (hf:Region.free md ops listed i=true:=by kernel_rfl) (hr:(Region.ready md ops listed).contains i=true:=by kernel_rfl) (hS:S w:=by assumption):wpAnyM P md ops Q S m (fuel+1) listed a w:=wpAnyM_take hi hw hs hf hr hQ (.inl ⟨h1,h2⟩) hS h
theorem zrH (i:Nat) {o:Oper} {fuel:Nat} {listed:Array Bool} {a:Act} {w:World} (ho:ops[i]?=some o:=by(simp only[zgT,zgS,zgZ];rfl))
  (h: ∀K':Act→World→Prop,Shut (∀a w,S w→(S w→wpAnyH P md ops Q S fuel (listed.setIfInBounds i true) a w)→K' a w)→if Region.wanted o (yielded ops a.tmps)=true then Oper.wp P o a w K' Q else K' (a.put o.dst undef) w)
  (hr:Region.ready md ops listed= [i]:=by kernel_rfl):wpAnyH P md ops Q S (fuel+1) listed a w:=wpAnyH_ready hr (by simp) (.cons ho h .nil)
theorem zrM (i:Nat) {o:Oper} {fuel:Nat} {listed:Array Bool} {a:Act} {w:World} (ho:ops[i]?=some o:=by(simp only[zgT,zgS,zgZ];rfl))
  (h: ∀K':Act→World→Prop,Shut (∀a w,S w→(S w→wpAnyM P md ops Q S m fuel (listed.setIfInBounds i true) a w)→K' a w)→if Region.wanted o (yielded ops a.tmps)=true then Oper.wp P o a w K' Q else K' (a.put o.dst undef) w)
  (hm:decide (i=m)=false:=by rfl) (hr:Region.ready md ops listed= [i]:=by kernel_rfl):wpAnyM P md ops Q S m (fuel+1) listed a w:=wpAnyM_ready hr (by simp) (.cons ho hm h .nil)
theorem zrL (i:Nat) {o:Oper} {fuel:Nat} {listed:Array Bool} {a:Act} {w:World} (ho:ops[i]?=some o:=by(simp only[zgT,zgS,zgZ];rfl))
  (h: ∀K':Act→World→Prop,Shut (∀a w,Q .normal a w→K' a w)→if Region.wanted o (yielded ops a.tmps)=true then Oper.wp P o a w K' Q else K' (a.put o.dst undef) w)
  (hl:Region.ready md ops (listed.setIfInBounds i true)= []:=by kernel_rfl) (hm:decide (i=m)=true:=by rfl) (hr:Region.ready md ops listed= [i]:=by kernel_rfl):wpAnyM P md ops Q S m (fuel+1) listed a w:=wpAnyM_ready hr (by simp) (.last ho hl hm h .nil)
end
end Go.Proofs.YtalfbcbnljhldaaGreatDoor
