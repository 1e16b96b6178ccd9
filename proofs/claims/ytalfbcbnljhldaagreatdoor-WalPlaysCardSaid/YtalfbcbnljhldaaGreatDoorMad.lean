/-  -/
import Derived.Test.YtalfbcbnljhldaaGreatDoorProg
import Derived.WalkKit
import Derived.Lib.Hide
import Derived.OneCell
import Derived.Laws.BytesArg
import Derived.Laws.Rows
import Derived.Deep.AppendLies
import Derived.DataElems
import Derived.Test.YtalfbcbnljhldaaGreatDoorMaa
import Derived.Test.YtalfbcbnljhldaaGreatDoorMac
import Derived.Laws.Cover3
import Derived.StillTailTactics
import Derived.Laws.AppendOwn
import Derived.Laws.OwnMore
import Derived.Lib.AppendZeros
import Derived.OwnWalk
namespace Go.Proofs.YtalfbcbnljhldaaGreatDoor
open Go.RowKit
structure Reads (w:World) (a:Option Addr) (zs:List Int):Prop where
 cell: ∀i,i<zs.length→ ∃x,a=some x∧x.block<w.heap.size∧w.cell? (x.add i)=some (.int .u8 (zs.getD i 0))
 hr: ∀x∈zs,0≤x∧x≤255
 hl:zs.length≤9223372036854775807
theorem add_block (x:Addr) (i:Nat):(x.add i).block=x.block:=by unfold Addr.add;split<;>rfl
theorem Reads.below {w w':World} {a:Option Addr} {zs:List Int} (h:Reads w a zs) (hb:Below w.heap.size w w'):Reads w' a zs:=
 ⟨fun i hi=>by
  obtain⟨x,hx,hlt,hc⟩:=h.cell i hi;exact⟨x,hx,Nat.lt_of_lt_of_le hlt hb.size,(hb.cell (p:=x.add i) (by rw[add_block];exact hlt)).trans hc⟩,h.hr,h.hl⟩
theorem Reads.at {w:World} {x:Addr} {zs:List Int} (h:Reads w (some x) zs) {i:Nat} (hi:i<zs.length):w.cell? (x.add i)=some (.int .u8 (zs.getD i 0)):=by
 obtain⟨y,hy,_,hc⟩:=h.cell i hi;cases hy;exact hc
theorem Reads.range {w:World} {a:Option Addr} {zs:List Int} (h:Reads w a zs) (i:Nat):0≤zs.getD i 0∧zs.getD i 0≤255:=by
 rcases Nat.lt_or_ge i zs.length with hi | hi
 ·exact h.hr _ (by simp [List.getD,List.getElem?_eq_getElem hi])
 ·simp [List.getD,List.getElem?_eq_none hi]
theorem Reads.nil (w:World) (a:Option Addr):Reads w a []:=⟨fun i hi=>absurd hi (by simp),(fun x hx=>by cases hx),by simp⟩
theorem reads_row {w:World} {g:Nat} {cs:Array Value} {t:TypeId} {fr:Nat×Nat} (zs:List Int) (hg:w.heap[g]?=some (.cells cs t fr)) (hc: ∀i,i<zs.length→cs[i]?=some (.int .u8 (zs.getD i 0)))
  (hr: ∀x∈zs,0≤x∧x≤255) (hl:zs.length≤9223372036854775807):Reads w (some ⟨g,0,none⟩) zs:=
 ⟨fun i hi=>⟨_,rfl,lt_of_block hg,by
  rw[show((⟨g,0,none⟩:Addr).add i)=⟨g,i,none⟩ by unfold Addr.add;split<;>simp_all,cell_of_row w g i cs _ _ hg];exact hc i hi⟩,hr,hl⟩
theorem Reads.take {w:World} {a:Option Addr} {zs:List Int} (h:Reads w a zs) (k:Nat):Reads w a (zs.take k):=
 ⟨fun i hi=>by
  rw[List.length_take] at hi;obtain⟨x,hx,hb,hc⟩:=h.cell i (by omega);refine⟨x,hx,hb,?_⟩;rw[hc];simp only[List.getD];rw[List.getElem?_take_of_lt (by omega)],fun x hx=>h.hr x (List.mem_of_mem_take hx),by have:=h.hl;rw[List.length_take];omega⟩
theorem Reads.drop {w:World} {a:Option Addr} {zs:List Int} (h:Reads w a zs) (k:Nat):Reads w (Option.map (fun x=>x.add k) a) (zs.drop k):=
 ⟨fun i hi=>by
  rw[List.length_drop] at hi;obtain⟨x,hx,hb,hcc⟩:=h.cell (k+i) (by omega);subst hx;refine⟨x.add k,rfl,by rw[add_block];exact hb,?_⟩;rw[Addr.add_add,hcc];simp only[List.getD];rw[List.getElem?_drop],fun x hx=>h.hr x (List.mem_of_mem_drop hx),by have:=h.hl;rw[List.length_drop];omega⟩
theorem Reads.dropAll {w:World} {a:Option Addr} {zs:List Int} {k:Nat} (_:Reads w a zs) (hz:k=zs.length):Reads w a (zs.drop k):=by
 rw[List.drop_eq_nil_of_le (by omega)];exact Reads.nil w a
theorem Reads.news {w:World} {x:Addr} {zs:List Int} (h:Reads w (some x) zs): ∀j u,(zs.map (Value.int .u8))[j]?=some u→w.cell? (x.add j)=some u:=by
 intro j u hu;have hj:j<zs.length:=by
  have:=(List.getElem?_eq_some_iff.1 hu).1;simpa using this
 rw[h.at hj,←hu];simp [List.getD,hj]
theorem row_reads {w:World} {a:Option Addr} {len cap:Nat} {zs:List Int}
  (h:(a=none∧len=0∧cap=0∧zs= [])∨ ∃x,a=some x∧len≤cap∧cap≤maxLen∧zs.length=cap∧(∀i,i<zs.length→w.cell? (x.add i)=some (.int .u8 (zs.getD i 0)))∧ ∀n∈zs,(Lit.int .u8 n).wf=true):
  Reads w a (zs.take len)∧len=(zs.take len).length∧len≤cap∧cap≤9223372036854775807:=by
 unfold maxLen at h;rcases h with⟨rfl,rfl,rfl,rfl⟩ | ⟨x,rfl,hl,hm,hz,hc,hw⟩
 ·exact⟨Reads.nil w none,rfl,Nat.le_refl _,by omega⟩
 ·have hlen:(zs.take len).length=len:=by rw[List.length_take];omega
  refine⟨⟨fun i hi=>⟨x,rfl,?_,?_⟩,fun y hy=>?_,by omega⟩,hlen.symm,hl,by omega⟩
  ·have:=World.block_lt_of_cell? w _ (hc i (by omega))
   rwa [add_block] at this
  ·rw[hc i (by omega)]
   simp only[List.getD];rw[List.getElem?_take_of_lt (by omega)]
  ·have:=hw y (List.mem_of_mem_take hy)
   simpa [Lit.wf,IntKind.min,IntKind.max,IntKind.signed,IntKind.bits] using this
end Go.Proofs.YtalfbcbnljhldaaGreatDoor

namespace Go.Proofs.YtalfbcbnljhldaaGreatDoor
open Go.RowKit
theorem run_text {P:Program} (w:World) (src e:TypeId) (hs:P.underlying src=some (.slice e)) (he:P.underlying e=some (.int .u8)) (x:Addr) (cap:Nat) (zs:List Int)
  (hcell: ∀i,i<zs.length→w.cell? (x.add i)=some (.int .u8 (zs.getD i 0))):
  ∀dst,P.underlying dst=some .string→(convert src dst (.slice (some x) zs.length cap)).run P w= .ok (.string (strOfNums zs)) w:=by
 intro dst hd;have hl:(loadCells x zs.length).run P w= .ok (zs.map (Value.int .u8)).toArray w:=by
  have:=run_loadCells_list (P:=P) w x (zs.map (Value.int .u8)) (fun j v hj=>by
   have hjl:j<zs.length:=by
    rcases Nat.lt_or_ge j zs.length with h | h
    ·exact h
    ·simp [List.getElem?_eq_none (show(zs.map (Value.int .u8)).length≤j by simpa using h)] at hj
   rw[hcell j hjl];simp [List.getElem?_eq_getElem hjl] at hj;subst hj;simp [List.getD,List.getElem?_eq_getElem hjl])
  simpa using this
 rw[run_convert_bytes_string w src dst e _ zs.length cap hs he hd,run_bytesToString w _ zs.length cap zs hl,foldl_push_bytes];simp [strOfNums,ByteArray.empty,ByteArray.emptyWithCapacity];rfl
theorem Reads.text {w:World} {a:Option Addr} {zs:List Int} (h:Reads w a zs) (len cap:Nat) (hz:len=zs.length):
  (convert 39 9 (.slice a len cap)).run Tryz.prog w= .ok (.string (strOfNums zs)) w:=by
 subst hz;cases a with
 | some x=>exact run_text w _ _ Tryz.underlying39 Tryz.underlying5 x cap zs (fun i hi=>h.at hi) _ Tryz.underlying9
 | none=>
  cases zs with
  | nil=>exact run_convert_bytes_nil w _ _ Tryz.underlying39 Tryz.underlying5 _ _ _ Tryz.underlying9
  | cons z zs=>
   obtain⟨x,hx,_⟩:=h.cell 0 (by simp);cases hx
end Go.Proofs.YtalfbcbnljhldaaGreatDoor

namespace Go.Proofs.YtalfbcbnljhldaaGreatDoor
open Go.RowKit
theorem Row.reads {w:World} {B:Nat} {zs:List Int} {v:Value} (h:Row w B zs v) (hr: ∀x∈zs,0≤x∧x≤255) (hl:zs.length≤9223372036854775807):
  ∃a cap,v= .slice a zs.length cap∧Reads w a zs∧zs.length≤cap∧cap≤9223372036854775807:=by
 rcases h.2 with⟨rfl,hn⟩ | ⟨g,cap,cur,rfl,hB,hg,hc,hm,_⟩
 ·have:zs= []:=by
   have h1:=h.1;rw[hn] at h1;exact List.eq_nil_of_length_eq_zero (by simpa using h1)
  subst this;exact⟨none,0,rfl,Reads.nil w none,Nat.le_refl _,by omega⟩
 ·unfold maxLen at hm
  refine⟨_,cap,rfl,reads_row zs hg (fun i hi=>?_) hr hl,hc,hm⟩;have h':=h;unfold Row at h';have:=h'.cells (g:=g) rfl i (.int .u8 (zs.getD i 0)) (by simp [List.getD,hi]);rw[show((⟨g,0,none⟩:Addr).add i)=⟨g,i,none⟩ by unfold Addr.add;split<;>simp_all,cell_of_row w g i cur _ _ hg] at this;exact this
end Go.Proofs.YtalfbcbnljhldaaGreatDoor

namespace Go.Proofs.YtalfbcbnljhldaaGreatDoor
open Go.RowKit Go.Maps Dsk
theorem clone_reads (a:Option Addr) (len cap:Nat) (zs:List Int) (w:World) (hz:len=zs.length) (hp:Reads w a zs) (hl:zs.length≤1048577) (hn:a=none→cap=0):
  Calls Tryz.prog 54 #[.slice a len cap] w fun e w'=> ∃v,e= .returned v∧Row w' w.heap.size zs v∧Below w.heap.size w w':=by
 subst hz;cases a with
 | some x=>
  refine(Tryz.bytes_Clone_at x zs.length cap zs w rfl (by omega) (fun i hi=>hp.at hi)).mono ?_;rintro e w' ⟨v,rfl,h1,_,h2⟩;exact⟨v,rfl,h1,h2⟩
 | none=>
  obtain rfl:=hn rfl;have hzs:zs= []:=by
   cases zs with
   | nil=>rfl
   | cons z zs=>
    obtain⟨x,hx,_⟩:=hp.cell 0 (by simp);cases hx
  subst hzs;refine(Tryz.bytes_Clone_nil _ _ w).mono ?_;rintro e w' ⟨rfl,rfl⟩;exact⟨_,rfl,World.ownsRow_nil _ _ _ _,Below.refl _ _⟩
theorem clone_row {B:Nat} (v:Value) (zs:List Int) (w:World) (h:Row w B zs v) (hr: ∀x∈zs,0≤x∧x≤255) (hl:zs.length≤1048577):
  Calls Tryz.prog 54 #[v] w fun e w'=> ∃v',e= .returned v'∧Row w' w.heap.size zs v'∧Below w.heap.size w w':=by
 obtain⟨a,cap,rfl,h1,h2,h3⟩:=h.reads hr (by omega);refine clone_reads a _ cap zs w rfl h1 hl fun ha=>?_;subst ha;rcases h.2 with⟨hv,_⟩ | ⟨g,c,cur,hv,_⟩
 ·injection hv
 ·cases hv
theorem DiskIn.cell {w:World} {B:Nat} {o:Tags} {g b N:Nat} {D:DataW Value} {M:Files} {l:Option Name} (h:DiskIn w B o g b D M N l):w.cell? ⟨g,0,none⟩=some (.map (some b)):=by
 rw[cell_of_row w g 0 _ _ _ h.blk];rfl
theorem map_nil (w:World) (x:Option Nat):(binOp .eql 56 (.map x) (.map none)).run Tryz.prog w= .ok (.bool x.isNone) w:=by
 simp only[binOp];simp [run_equal_map_nil w 56 9 98 x Tryz.underlying56]
theorem refusal_ok (g b:Nat) (l:Name) (w:World) (hc:w.cell? ⟨g,0,none⟩=some (.map (some b))) (h1:1≤l.length) (h2:l.length≤64):
  Calls Tryz.prog 50 #[.pointer (some ⟨g,0,none⟩),.string ⟨l.toArray⟩] w fun e w'=>e= .returned (.int .i64 0)∧w=w':=by
 have hne:l≠ []:=fun e=>by rw[e] at h1;simp at h1
 have hem:l.isEmpty=false:=by cases l<;>simp_all
 have hd:decide (64<(l.length:Int))=false:=by simp;omega
 clear h1 h2;have hm:=map_nil w (some b);simp only[Option.isNone_some] at hm;go_enter Tryz.func50,Tryz.ntmps50
 go_wp2
 go_ret
 exact⟨rfl,rfl⟩
theorem now_sure (fb:Nat) (a:Option Addr) (cap:Nat) (w:World) (hc:w.cell? ⟨fb,3,none⟩=some (.slice a 0 cap)):
  Calls Tryz.prog 51 #[.pointer (some ⟨fb,0,none⟩)] w fun e w'=>e= .returned (.pointer (some ⟨fb,0,none⟩))∧w=w':=by
 go_enter Tryz.func51,Tryz.ntmps51
 go_wp2
 go_ret
 exact⟨rfl,rfl⟩
theorem now_later (fb gl n cap:Nat) (w:World) (hn:n+1≤1000000000) (hc:w.cell? ⟨fb,3,none⟩=some (.slice (some ⟨gl,0,none⟩) (n+1) cap)):
  Calls Tryz.prog 51 #[.pointer (some ⟨fb,0,none⟩)] w fun e w'=>e= .returned (.pointer (some ⟨gl,n*3,none⟩))∧w=w':=by
 go_enter Tryz.func51,Tryz.ntmps51
 go_wp2
 go_ret
 exact⟨rfl,rfl⟩
end Go.Proofs.YtalfbcbnljhldaaGreatDoor

namespace Go.Proofs.YtalfbcbnljhldaaGreatDoor
open Go.Lib (hid)
open Go.RowKit Go.Maps Dsk
section
variable {w w':World} {B:Nat} {o o':Tags} {g b N:Nat} {D:DataW Value} {M:Files} {l:Option Name}
theorem Row.own {zs:List Int} {v:Value} (h:Row w B zs v): ∀k,v.ownBlock=some k→B≤k∧k<w.heap.size:=World.ownsRow.lt h
theorem DiskIn.retag (h:DiskIn w B o g b D M N none) (n:Name) (s:Value) (zs:List Int) (hs:Row w B zs s) (hso: ∀k,s.ownBlock=some k→o k=none∨ ∃j,o k=some (.file n j)):
  DiskIn w B (o.only n s (.file n 0)) g b D M N (some n):=by
 refine(h.but n).keep (fun _ e=>e) (h.but n).here (fun _ _ _ _=>rfl) (fun k t e ht=>?_) (fun k e=>?_)
 ·unfold Tags.only
  by_cases hk:s.ownBlock=some k
  ·rcases hso k hk with h1 | ⟨j,h1⟩
   ·rw[h1] at e;cases e
   ·rw[h1] at e;cases e
    exact absurd rfl (ht n j rfl)
  ·rw[if_neg hk,e]
   cases t with
   | file m j=>
    have:m≠n:=fun e'=>ht m j rfl (by rw[e']);simp [this]
   | _=>rfl
 ·unfold Tags.only at e
  by_cases hk:s.ownBlock=some k
  ·exact hs.own k hk
  ·rw[if_neg hk] at e
   refine h.own k fun e'=>e ?_;rw[e']
theorem only_own (o:Tags) (n:Name) (s:Value) (t:Tag): ∀k,s.ownBlock=some k→o.only n s t k=some t:=fun k e=>by simp [Tags.only,e]
theorem only_none (o:Tags) (n:Name) (s:Value) (t:Tag) {k:Nat} (h:o k=none) (hs:s.ownBlock≠some k):o.only n s t k=none:=by simp [Tags.only,hs,h]
end
theorem StepX.stored {w W w':World} {o o':Tags} {b:Nat} {x:Value} (hb:Below w.heap.size w W) (hg:W.grownBy w' (some b)) (ob:o b=some .map) (hf: ∀k,o k=none→x.ownBlock≠some k→o' k=none):StepX x o w o' w':=
 ⟨hg.os.trans hb.os,hg.tape.trans hb.tape,hg.output.trans hb.output,Nat.le_trans hb.size hg.size,
  fun k hk e=>(hg.block k (Nat.lt_of_lt_of_le hk hb.size) fun e'=>by cases e';rw[ob] at e;cases e).trans (hb.block k hk),
  fun k _ e hx=>hf k e hx⟩
theorem Row.shape {w:World} {B:Nat} {zs:List Int} {v:Value} (h:Row w B zs v): ∃a c,v= .slice a zs.length c:=by
 rcases h.2 with⟨rfl,hn⟩ | ⟨g,cap,cur,rfl,_⟩
 ·exact⟨none,0,by rw[hn]⟩
 ·exact⟨_,_,rfl⟩
set_option maxRecDepth 100000 in
set_option maxHeartbeats 1000000 in
theorem settle_there (g B N:Nat) (o:Tags) (M:Files) (l:Name) (s:Value) (zs:List Int) (wh:Int) (w:World) (hd:DiskAt w B o g M N) (hM:(M l).isSome=true) (hs:Row w B zs s) (hz:zs.length≤1048576) (hr: ∀x∈zs,0≤x∧x≤255)
  (hso: ∀k,s.ownBlock=some k→o k=none∨ ∃j,o k=some (.file l j)) (hl:l.length≤64) (hN:N<4611686018427387904):
  Calls Tryz.prog 47 #[.pointer (some ⟨g,0,none⟩),.string ⟨l.toArray⟩,.agg #[.bool true,s,.int .i64 wh]] w fun e w'=>e= .returned (.tuple #[])∧
   ∃o',DiskAt w' B o' g (upd M l (some ⟨⟨true,zs,zs.length⟩,[],false⟩)) N∧StepX s o w o' w':=by
 obtain⟨b,D,hd⟩:=hd;obtain⟨a,cp,rfl⟩:=hs.shape;have hr1:=hd.retag l _ zs hs hso;have hgs:=(hd.own g (by rw[hd.og];simp)).2;have hF: ∀W:World,Below w.heap.size w W→FileAt W B (o.only l (.slice a zs.length cp) (.file l 0)) l ⟨true,a,zs.length,cp,zs.length,none,0,0,false⟩ ⟨⟨true,zs,zs.length⟩,[],false⟩:=fun W hb=>
  ⟨rfl,rfl,rfl,⟨hs.below hb,only_own _ _ _ _⟩,⟨⟨Nat.le_refl _,hz,hr⟩,fun v hv=>by cases hv⟩,[],rfl,World.ownsRow_nil _ _ _ _,(fun k e=>by cases e),fun i hi=>absurd hi (by simp)⟩
 have hcell:=hd.cell;have hB:Below w.heap.size w (w.alloc (.cells #[.bool true,.slice a zs.length cp,.int .i64 zs.length] 95)):=(Below.refl _ _).alloc (Nat.le_refl _) _;have hx:(w.alloc (.cells #[.bool true,.slice a zs.length cp,.int .i64 zs.length] 95)).heap[w.heap.size]?=some (.cells #[.bool true,.slice a zs.length cp,.int .i64 zs.length] 95 (0,0)):=heap_alloc_new _ _;have HG:=hid hgs;have HM:=hid hM;have HZ:=hid hz;have HS:=hid hs;clear hgs hM hz hs hso hr;go_enter Tryz.func47,Tryz.ntmps47
 go_wp2
 generalize (w.alloc (.cells #[.bool true,.slice a zs.length cp,.int .i64 zs.length] 95))=W at*;have hc1:=(hd.below hB).cell;have hr2:=hr1.below hB;have hf:=hF W.drew hB.drew;have c0:W.cell? ⟨w.heap.size,0,none⟩=some (.bool true):=by rw[cell_of_row W _ 0 _ _ _ hx];rfl
 have c1:W.cell? ⟨w.heap.size,1,none⟩=some (.slice a zs.length cp):=by rw[cell_of_row W _ 1 _ _ _ hx];rfl
 have c2:W.cell? ⟨w.heap.size,2,none⟩=some (.int .i64 zs.length):=by rw[cell_of_row W _ 2 _ _ _ hx];rfl
 clear hx hcell;obtain⟨w',hrun,hd',hg',hs'⟩:=hr2.drew.store hf (by unfold maxLen;omega) (by unfold maxLen;omega);rw[cntN_has N HM.out] at hd';have HD:=hid hd';have HS':=hid hs';have HG':=hid hg';clear hd' hs' hg' hr2 hr1 hf hF;go_still_tail 7,(by kernel_rfl)
 change wpList _ _ _ _ _ W.drew;generalize hWd:W.drew=W2 at hrun HG' HS' ⊢;have HWd:=hid hWd;clear hWd c0 c1 c2 hc1;simp only[mkV] at hrun;go_wp2
 go_end0
 exact⟨rfl,_,⟨b,_,HD.out⟩,.stored (by rw[←HWd.out];exact hB.drew) HG'.out hd.ob fun k e hx=>only_none _ _ _ _ e hx⟩
set_option maxRecDepth 100000 in
set_option maxHeartbeats 1000000 in
theorem settle_gone (g B N:Nat) (o:Tags) (M:Files) (l:Name) (s:Value) (wh:Int) (w:World) (hd:DiskAt w B o g M N) (hl:l.length≤64):
  Calls Tryz.prog 47 #[.pointer (some ⟨g,0,none⟩),.string ⟨l.toArray⟩,.agg #[.bool false,s,.int .i64 wh]] w fun e w'=>e= .returned (.tuple #[])∧
   ∃o',DiskAt w' B o' g (upd M l none) N∧Step o w o' w':=by
 obtain⟨b,D,hd⟩:=hd;have hgs:=(hd.own g (by rw[hd.og];simp)).2;have hr1:=hd.but l;have hcell:=hd.cell;have hB:Below w.heap.size w (w.alloc (.cells #[.bool false,s,.int .i64 wh] 95)):=(Below.refl _ _).alloc (Nat.le_refl _) _;have hx:(w.alloc (.cells #[.bool false,s,.int .i64 wh] 95)).heap[w.heap.size]?=some (.cells #[.bool false,s,.int .i64 wh] 95 (0,0)):=heap_alloc_new _ _;have hcW:(w.alloc (.cells #[.bool false,s,.int .i64 wh] 95)).cell? ⟨g,0,none⟩=some (.map (some b)):=(hd.below hB).cell;obtain⟨w',hrun,hd',hg',hs'⟩:=(hr1.below hB).del (by unfold maxLen;omega) 0;have HD:=hid hd';have HG':=hid hg';have HO:=hid hd.ob;have HB:=hid hB;clear hgs hcell hd hd' hg' hs' hx hr1 hB;go_enter Tryz.func47,Tryz.ntmps47
 go_wp2
 refine bodyPost_ret (v:= .tuple #[]) (by simp [results,go_sem]) rfl ?_;exact⟨rfl,_,⟨b,_,HD.out⟩,.stored HB.out HG'.out HO.out fun k e hx=>e⟩
end Go.Proofs.YtalfbcbnljhldaaGreatDoor

namespace Go.Proofs.YtalfbcbnljhldaaGreatDoor
open Go.RowKit Go.Maps Dsk
set_option maxRecDepth 100000 in
set_option maxHeartbeats 1000000 in
theorem file_any (g B N:Nat) (o:Tags) (M:Files) (l:Name) (w:World) (hd:DiskAt w B o g M N) (hl:l.length≤64):
  Calls Tryz.prog 82 #[.pointer (some ⟨g,0,none⟩),.string ⟨l.toArray⟩] w fun e w'=> ∃c,e= .returned (mkV c)∧FileAt w B o l c (M.at l)∧Below w.heap.size w w':=by
 obtain⟨b,D,hd⟩:=hd;have hB:Below w.heap.size w (w.alloc (.cells #[.bool false,.slice none 0 0,.int .i64 0,.slice none 0 0,.bool false] 98)):=(Below.refl _ _).alloc (Nat.le_refl _) _;have hcW:=(hd.below hB).cell;obtain⟨⟨t,sa,sn,sc,wh,la,ln,lc,ls⟩,hf,hrun,_⟩:=(hd.below hB).look l (by unfold maxLen;omega);simp only[mkV] at hrun;have HF:=Lib.hid (show FileAt w B o l ⟨t,sa,sn,sc,wh,la,ln,lc,ls⟩ (M.at l) from hf.keep (fun k j e=>(hB.block k (hd.own k (by rw[e];simp)).2).symm) (fun k j e=>e));clear hf hd;go_enter Tryz.func82,Tryz.ntmps82
 go_wp2
 refine bodyPost_ret (v:= .agg #[.bool t,.slice sa sn sc,.int .i64 wh,.slice la ln lc,.bool ls]) ?_ rfl ⟨⟨t,sa,sn,sc,wh,la,ln,lc,ls⟩,rfl,HF.out,(Below.refl _ _).alloc (Nat.le_refl _) _⟩;simp [results,Tryz.results82,go_sem]
set_option maxHeartbeats 400000 in
theorem appended_any (t:Bool) (a:Option Addr) (n c wh:Nat) (w:World) (h:wh≤n) (hn:n≤1048576):
  Calls Tryz.prog 80 #[.agg #[.bool t,.slice a n c,.int .i64 wh]] w fun e w'=>e= .returned (.int .i64 ((n - wh:Nat):Int))∧Below w.heap.size w w':=by
 have hB:Below w.heap.size w (w.alloc (.cells #[.bool t,.slice a n c,.int .i64 wh] 95)):=(Below.refl _ _).alloc (Nat.le_refl _) _;go_enter Tryz.func80,Tryz.ntmps80
 go_wp2
 go_ret
 refine⟨?_,hB⟩;show Ending.returned (.int .i64 ((n:Int) - wh))=_;rw[Int.ofNat_sub h]
end Go.Proofs.YtalfbcbnljhldaaGreatDoor

namespace Go.Proofs.YtalfbcbnljhldaaGreatDoor
open Go.RowKit
section
variable {P:Program}
end
end Go.Proofs.YtalfbcbnljhldaaGreatDoor

namespace Go.Proofs.YtalfbcbnljhldaaGreatDoor
open Go.RowKit Go.Maps Dsk
section
variable {P:Program}
theorem run_append_lies (w:World) (base:Nat) (t ty e:TypeId) (i:TypeInfo) (z:Value) (size bytes:Nat) (ht:P.underlying t=some (.slice e)) (hi:P.info? e=some i) (hz:i.zero=some z)
  (hsize:i.size=size) (hby:i.bytes=bytes) (hzs:z.cells.size=size) (hsz:0<size) (v:Value) (n:Nat) (xs:List Value) (hown:w.ownsRow base e size v n xs)
  (ao:Option Addr) (m c:Nat) (news:List Value) (hl:news.length=m*size) (hnone:ao=none→m=0∧c=0) (hnews: ∀ad,ao=some ad→ ∀j u,news[j]?=some u→w.cell? (ad.add j)=some u) (h1: ∀u∈news,u.oneCell'=true)
  (h63:n+m≤maxLen) (hbytes:(n+m)*bytes≤140737488355328) (hbase:base≤w.heap.size):
  ∃v' w',(Builtin.append_ #[t,t] ty #[v,.slice ao m c]).run P w= .ok v' w'∧w'.ownsRow base e size v' (n+m) (xs++news)∧w.grownBy w' v.ownBlock∧(v'.ownBlock=v.ownBlock∨v'.ownBlock=some w.heap.size):=by
 cases ao with
 | some ad=>
  obtain⟨v',w',h1,h2,h3,_,h4⟩:=run_append_own_at (P:=P) w base t ty e i z size bytes ht hi hz hsize hby hzs hsz v n xs hown ad m c news hl (hnews ad rfl) h1 h63 hbytes hbase;exact⟨v',w',h1,h2,h3,h4⟩
 | none=>
  obtain⟨rfl,rfl⟩:=hnone rfl;have hn:news= []:=List.eq_nil_of_length_eq_zero (by simpa using hl);subst hn;subst hsize;refine⟨v,w,run_append_owned_none (P:=P) w base t ty e i _ ht hi v n xs hown,by simpa using hown,⟨rfl,rfl,rfl,Nat.le_refl _,fun _ _ _=>rfl⟩,.inl rfl⟩
theorem wpList_append_lies (w:World) {ops:Array Oper} {rest:List Oper} {o:Oper} {a:Act} {Q:Exit→Act→World→Prop} (hgd:o.guard=none) (s x:Operand) (t:TypeId)
  (ho:o.op= .call {callee:= .builtin .append,args:= #[s,x],argTypes:= #[t,t]})
  (base:Nat) (e:TypeId) (i:TypeInfo) (z:Value) (size bytes:Nat) (ht:P.underlying t=some (.slice e)) (hi:P.info? e=some i) (hz:i.zero=some z)
  (hsize:i.size=size) (hby:i.bytes=bytes) (hzs:z.cells.size=size) (hsz:0<size) (v:Value) (n:Nat) (xs:List Value) (hs:a.eval s=v) (hown:w.ownsRow base e size v n xs)
  (ao:Option Addr) (m c:Nat) (news:List Value) (hx:a.eval x= .slice ao m c) (hl:news.length=m*size) (hnone:ao=none→m=0∧c=0) (hnews: ∀ad,ao=some ad→ ∀j u,news[j]?=some u→w.cell? (ad.add j)=some u) (h1: ∀u∈news,u.oneCell'=true)
  (h63:n+m≤maxLen) (hbytes:(n+m)*bytes≤140737488355328) (hbase:base≤w.heap.size)
  (h: ∀v' w',w'.ownsRow base e size v' (n+m) (xs++news)→w.grownBy w' v.ownBlock→(v'.ownBlock=v.ownBlock∨v'.ownBlock=some w.heap.size)→wpList P ops Q rest (a.put o.dst v') w'):wpList P ops Q (o::rest) a w:=by
 obtain⟨v',w',hr,h2,h3,h4⟩:=run_append_lies (P:=P) w base t o.type e i z size bytes ht hi hz hsize hby hzs hsz v n xs hown ao m c news hl hnone hnews h1 h63 hbytes hbase;exact Lib.wpList_append_run w hgd s x t t ho v _ hs hx v' w' hr (h v' w' h2 h3 h4)
end
end Go.Proofs.YtalfbcbnljhldaaGreatDoor
