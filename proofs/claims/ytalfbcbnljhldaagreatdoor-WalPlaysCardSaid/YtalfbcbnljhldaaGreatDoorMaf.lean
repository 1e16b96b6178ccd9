/-  -/
import Derived.Test.YtalfbcbnljhldaaGreatDoorTorn9
import Derived.Deep.RegionHeld3
import Derived.Sort.OwnSorted
namespace Go.Proofs.YtalfbcbnljhldaaGreatDoor
open Go.RowKit Go.Maps Dsk
theorem stays {w w':World} {p:Addr} {v:Value} (hb:Below w.heap.size w w') (h:w.cell? p=some v):w'.cell? p=some v:=(hb.cell (World.block_lt_of_cell? w p h)).trans h
def Held (W:World) (fb:Nat) (c:FV):Prop:=W.heap[fb]?=some (.cells #[.bool c.t,.slice c.sa c.sn c.sc,.int .i64 c.wh,.slice c.la c.ln c.lc,.bool c.ls] 98 (0,0))
theorem Held.cells {W:World} {fb:Nat} {c:FV} (h:Held W fb c):W.cell? ⟨fb,0,none⟩=some (.bool c.t)∧W.cell? ⟨fb,1,none⟩=some (.slice c.sa c.sn c.sc)∧W.cell? ⟨fb,2,none⟩=some (.int .i64 c.wh)∧W.cell? ⟨fb,3,none⟩=some (.slice c.la c.ln c.lc)∧W.cell? ⟨fb,4,none⟩=some (.bool c.ls):=by
 unfold Held at h;refine⟨?_,?_,?_,?_,?_⟩
 ·rw[cell_of_row _ _ 0 _ _ _ h];rfl
 ·rw[cell_of_row _ _ 1 _ _ _ h];rfl
 ·rw[cell_of_row _ _ 2 _ _ _ h];rfl
 ·rw[cell_of_row _ _ 3 _ _ _ h];rfl
 ·rw[cell_of_row _ _ 4 _ _ _ h];rfl
theorem FileAt.ln {w:World} {B:Nat} {o:Tags} {n:Name} {c:FV} {f:Fil} (h:FileAt w B o n c f):c.ln=f.later.length:=by
 obtain⟨ss,h1,h2,_⟩:=h.lt;obtain⟨_,_,e,_⟩:=slice_shape h2;simp only[FV.lt,Value.slice.injEq] at e;exact e.2.1
theorem FileAt.sn {w:World} {B:Nat} {o:Tags} {n:Name} {c:FV} {f:Fil} (h:FileAt w B o n c f):c.sn=f.sure.bs.length:=by
 obtain⟨_,_,e⟩:=h.sb.1.shape;simp only[FV.sb,Value.slice.injEq] at e;exact e.2.1
theorem now_any {W:World} {B:Nat} {o:Tags} {l:Name} {c:FV} {f:Fil} {fb:Nat} (hh:Held W fb c) (hf:FileAt W B o l c f) (hn:f.later.length<1000000000):
  ∃P q a cp j,(Calls Tryz.prog 51 #[.pointer (some ⟨fb,0,none⟩)] W fun e w'=>e= .returned (.pointer (some ⟨P,q,none⟩))∧W=w')∧
   W.cell? ⟨P,q,none⟩=some (.bool f.now.there)∧W.cell? ⟨P,q+1,none⟩=some (.slice a f.now.bs.length cp)∧W.cell? ⟨P,q+2,none⟩=some (.int .i64 f.now.whole)∧BytesAt W B o (.file l j) f.now.bs (.slice a f.now.bs.length cp):=by
 obtain⟨c0,c1,c2,c3,c4⟩:=hh.cells;rcases List.eq_nil_or_concat f.later with hl | ⟨r,v,hl⟩
 ·have hz:c.ln=0:=by rw[hf.ln,hl];rfl
  rw[hz] at c3;refine⟨fb,0,c.sa,c.sc,0,now_sure fb c.la c.lc W c3,?_,?_,?_,?_⟩
  ·rw[Fil.now_nil hl,c0,hf.t]
  ·rw[Fil.now_nil hl,Nat.zero_add,c1,hf.sn]
  ·rw[Fil.now_nil hl,Nat.zero_add,c2,hf.wh]
  ·have:=hf.sb
   rw[Fil.now_nil hl,←hf.sn];exact this
 ·rw[List.concat_eq_append] at hl
  have hlen:f.later.length=r.length+1:=by rw[hl];simp
  obtain⟨gl,a,cp,hla,hog,x0,x1,x2,hb⟩:=hf.at r.length (by omega);have hv:f.later[r.length]'(by omega)=v:=by simp [hl]
  rw[hv] at x0 x1 x2 hb;rw[hla,hf.ln,hlen] at c3;rw[Fil.now_some hl];exact⟨gl,r.length*3,a,cp,r.length+2,now_later fb gl r.length c.lc W (by omega) c3,x0,x1,x2,hb⟩
theorem FileAt.below {w w':World} {B:Nat} {o:Tags} {n:Name} {c:FV} {f:Fil} (h:FileAt w B o n c f) (hb:Below w.heap.size w w') (ho: ∀k,o k≠none→k<w.heap.size):FileAt w' B o n c f:=
 h.keep (fun k j e=>hb.block k (ho k (by rw[e];simp))) (fun _ _ e=>e)
theorem clone_on {w W:World} {B:Nat} {zs:List Int} {v:Value} (h:Row w B zs v) (hr: ∀x∈zs,0≤x∧x≤255) (hl:zs.length≤1048577) (hb:Below w.heap.size w W):
  Calls Tryz.prog 54 #[v] W fun e w'=> ∃a c,e= .returned (.slice a zs.length c)∧Row w' w.heap.size zs (.slice a zs.length c)∧Below W.heap.size W w':=by
 refine(clone_row v zs W (h.below hb) hr hl).mono ?_;rintro e w' ⟨v',rfl,h1,h2⟩;obtain⟨a,c,rfl⟩:=h1.shape;exact⟨a,c,rfl,h1.less hb.size,h2⟩
def Files1 (x y:Value) (w:World) (B:Nat) (o:Tags) (l:Name) (f:Fil):Prop:=
 Calls Tryz.prog 82 #[x,y] w fun e w'=> ∃c,e= .returned (mkV c)∧FileAt w B o l c f∧Below w.heap.size w w'
set_option maxRecDepth 100000 in
set_option maxHeartbeats 1000000 in
theorem read_of (x y:Value) (w:World) (B:Nat) (o:Tags) (l:Name) (f:Fil) (HF:Hid (Files1 x y w B o l f)) (ho:Hid (∀k,o k≠none→k<w.heap.size)) (hn:f.later.length<1000000000):
  Calls Tryz.prog 58 #[x,y] w fun e w'=> ∃a c,e= .returned (.tuple #[.slice a f.now.bs.length c,.bool f.now.there])∧Row w' w.heap.size f.now.bs (.slice a f.now.bs.length c)∧Below w.heap.size w w':=by
 obtain⟨v,hv⟩: ∃v,v=f.now:=⟨_,rfl⟩;rw[←hv];have HV:=Lib.hid hv;clear hv;go_enter Tryz.func58,Tryz.ntmps58
 go_wp2_with fail
 refine HF.out.mono ?_;rintro e w1 ⟨⟨t,sa,sn,sc,wh,la,ln,lc,ls⟩,rfl,hf,hb1⟩;clear HF;simp only[mkV];have hb2:Below w.heap.size w (w1.alloc (.cells #[.bool t,.slice sa sn sc,.int .i64 wh,.slice la ln lc,.bool ls] 98)):=hb1.alloc hb1.size _;have hH:Held (w1.alloc (.cells #[.bool t,.slice sa sn sc,.int .i64 wh,.slice la ln lc,.bool ls] 98)) w1.heap.size ⟨t,sa,sn,sc,wh,la,ln,lc,ls⟩:=heap_alloc_new _ _;obtain⟨P,q,a,cp,j,hnow,c0,c1,_,hby⟩:=now_any hH (hf.below hb2 ho.out) hn;have HN:=Lib.hid hnow;have HR:=Lib.hid hby.1;have HOK:=Lib.hid (Fil.now_ok hf.ok);have HB2:=Lib.hid hb2;clear hb1 hf hnow hby hb2 hH;go_wp2_with fail
 refine HN.out.mono ?_;rintro e w2 ⟨rfl,rfl⟩;clear HN;go_wp2_with fail
 generalize (w1.alloc (.cells #[.bool t,.slice sa sn sc,.int .i64 wh,.slice la ln lc,.bool ls] 98))=w2 at*;rw[←HV.out] at c0 c1 HR HOK;have HC:=Lib.hid (fun W (h:Below w2.heap.size w2 W)=>clone_on HR.out HOK.out.2.2 (by have:=HOK.out.2.1;omega) h);go_region_held3 (fun W=>W.cell? ⟨P,q,none⟩=some (.bool v.there)∧W.cell? ⟨P,q+1,none⟩=some (.slice a v.bs.length cp)∧Below w2.heap.size w2 W)
  (first
   | exact⟨c0,c1,(Below.refl _ _).drew⟩
   | go_keep
   | (go_split_ands;exact⟨stays hb9 (by assumption),stays hb9 (by assumption),Below.trans (by assumption) (hb9.mono (Below.size (by assumption)))⟩))
  (first
   | (go_at_call 54;(try go_split_ands);with_reducible refine(HC.out _ (by assumption)).mono ?_;rintro e w9 ⟨a9,c9,rfl,hr9,hb9⟩))
 have hbb9:Below w2.heap.size w2 w9:=by(try go_split_ands);assumption
 have HE:=Lib.hid (show Row w9 w.heap.size v.bs (.slice a9 v.bs.length c9)∧Below w.heap.size w w9 from⟨hr9.less HB2.out.size,HB2.out.trans (hbb9.mono HB2.out.size)⟩);clear hr9 hb9 hbb9 c0 c1;go_wp2
 go_ret2
 exact⟨a9,c9,rfl,HE.out⟩
end Go.Proofs.YtalfbcbnljhldaaGreatDoor

namespace Go.Proofs.YtalfbcbnljhldaaGreatDoor
open Go.Lib (hid)
open Go.RowKit Go.Maps Go.Sort Dsk
theorem info_str:(Tryz.prog.info? 9).map (fun i=>(i.zero,i.size,i.bytes))=some (some (.string ⟨#[]⟩),1,16):=by kernel_rfl
def StrRow (w:World) (B:Nat) (ks:List Name) (v:Value):Prop:=w.ownsRow B 9 1 v ks.length (ks.map encStr)
theorem StrRow.below {w w':World} {B:Nat} {ks:List Name} {v:Value} (h:StrRow w B ks v) (hb:Below w.heap.size w w'):StrRow w' B ks v:=
 ownsRow_keep h fun k e=>hb.block k (World.ownsRow.lt h k e).2
set_option maxHeartbeats 400000 in
theorem new_any (w:World):
  Calls Tryz.prog 5 #[] w fun e w'=>e= .returned (.pointer (some ⟨w.heap.size+1,0,none⟩))∧Below w.heap.size w w'∧ ∃o:Tags,DiskAt w' w.heap.size o (w.heap.size+1) (fun _=>none) 0∧ ∀k,k<w.heap.size→o k=none:=by
 have hmm:= @run_makeMap Tryz.prog;go_enter Tryz.func5,Tryz.ntmps5
 go_wp2
 go_ret
 refine⟨rfl,((Below.refl _ _).alloc (Nat.le_refl _) _).alloc (by simp) _,fun k=>if k=w.heap.size then some .map else if k=w.heap.size+1 then some .disk else none,⟨w.heap.size,.map [],?_,by simp,by simp,?_,Nat.le_refl _,fun k e=>?_,fun n _=> .inl ⟨rfl,rfl⟩,fun n e=>by cases e⟩,fun k hk=>?_⟩
 ·have:=heap_alloc_new (w.alloc (.map #[] 0)) (.cells #[.map (some w.heap.size)] 58)
  simpa using this
 ·exact(World.ownsMap_made w _ _ _).alloc _
 ·split at e
  ·subst_vars;exact⟨Nat.le_refl _,by simp;omega⟩
  ·split at e
   ·subst_vars;exact⟨by omega,by simp⟩
   ·exact absurd rfl e
 ·show(if k=w.heap.size then some Tag.map else if k=w.heap.size+1 then some Tag.disk else none)=none
  rw[if_neg (by omega),if_neg (by omega)]
theorem mkV_inj {c d:FV} (h:mkV c=mkV d):c=d:=by
 cases c;cases d;simp [mkV] at h;simp [h]
def Asks (F:Nat) (q:Fil→Bool):Prop:= ∀(W:World) (B:Nat) (o:Tags) (l:Name) (c:FV) (f:Fil),FileAt W B o l c f→(∀k,o k≠none→k<W.heap.size)→f.later.length<1000000000→
 Calls Tryz.prog F #[mkV c] W fun e w'=>e= .returned (.bool (q f))∧Below W.heap.size W w'
set_option maxHeartbeats 1000000 in
theorem asks_names:Asks 81 (fun f=>f.now.there):=by
 intro W B o l c f hf ho hn;obtain⟨t,sa,sn,sc,wh,la,ln,lc,ls⟩:=c;simp only[mkV];have hb2:Below W.heap.size W (W.alloc (.cells #[.bool t,.slice sa sn sc,.int .i64 wh,.slice la ln lc,.bool ls] 98)):=(Below.refl _ _).alloc (Nat.le_refl _) _;have hH:Held (W.alloc (.cells #[.bool t,.slice sa sn sc,.int .i64 wh,.slice la ln lc,.bool ls] 98)) W.heap.size ⟨t,sa,sn,sc,wh,la,ln,lc,ls⟩:=heap_alloc_new _ _;obtain⟨P,q,a,cp,j,hnow,c0,c1,_,hby⟩:=now_any hH (hf.below hb2 ho) hn;have HN:=hid hnow;clear hnow hf hH hby;go_enter Tryz.func81,Tryz.ntmps81
 go_wp2_with fail
 refine HN.out.mono ?_;rintro e w2 ⟨rfl,rfl⟩;go_wp2
 go_ret
 exact⟨rfl,hb2⟩
theorem asks_loose:Asks 76 (fun f=>f.loose):=by
 intro W B o l c f hf ho hn;have hls:=hf.ls;obtain⟨t,sa,sn,sc,wh,la,ln,lc,ls⟩:=c;dsimp only at hls;show Calls _ _ _ _ fun e w'=>e= .returned (.bool f.loose)∧Below W.heap.size W w';rw[←hls];clear hf hls;simp only[mkV];go_enter Tryz.func76,Tryz.ntmps76
 go_wp2
 go_ret
 exact⟨rfl,(Below.refl _ _).alloc (Nat.le_refl _) _⟩
theorem names_end {w:World} {B:Nat} {o:Tags} {g b N:Nat} {D:DataW Value} {M:Files} (hd:DiskIn w B o g b D M N none) (q:Fil→Bool) {left:Lit→Bool} {met:List Name} (hC:Collected D left met) (hl: ∀kl,left kl=false):
  NamesOf M q ((met.filter fun n=>q (M.at n)).mergeSort leB):=by
 have tr: ∀a b c:List UInt8,leB a b=true→leB b c=true→leB a c=true:=fun a b c h1 h2=>by simp only[leB,decide_eq_true_eq] at*; exact List.le_trans h1 h2
 have tot: ∀a b:List UInt8,(leB a b||leB b a)=true:=fun a b=>by simp only[leB,Bool.or_eq_true,decide_eq_true_eq];exact List.le_total a b
 have hp:=List.mergeSort_perm (met.filter fun n=>q (M.at n)) leB;refine⟨rises (List.pairwise_mergeSort tr tot _) (hp.nodup_iff.2 (hC.1.filter _)),fun n=>?_⟩;rw[hp.mem_iff,List.mem_filter,hC.2 n,hl];rcases hd.files n (by simp) with⟨h1,h2⟩ | ⟨f,c,h1,h2,_⟩
 ·simp [h1,h2]
 ·simp [h1,h2,Files.at]
set_option maxRecDepth 100000 in
set_option maxHeartbeats 1000000 in
theorem names_any (F:Nat) (hE: ∀args w,(callFunc F args).run Tryz.prog w= .ok (.enter F args) w) (q:Fil→Bool) (hq:Hid (Asks F q)) (g B N:Nat) (o:Tags) (M:Files) (w:World) (hd:DiskAt w B o g M N) (hN:N<1000000000) (hn: ∀l f,M l=some f→f.later.length<1000000000):
  Calls Tryz.prog 75 #[.pointer (some ⟨g,0,none⟩),.func (.func F) #[] #[]] w fun e w'=> ∃ks v,e= .returned v∧NamesOf M q ks∧StrRow w' w.heap.size ks v∧Below w.heap.size w w'∧ks.length≤N:=by
 obtain⟨b,D,hd⟩:=hd;obtain⟨i0,hi,hz0,hz1,hz2⟩:=info_parts info_str;have hcell:=hd.cell;have hown:=hd.map;have hbl:=hown.lt;have HD:=hid hd;have HNN:=hid hn;clear hd hn;go_enter Tryz.func75,Tryz.ntmps75
 go_wp2_with (first
  | (at_range;refine wpList_range_own _ rfl _ 56 rfl 9 98 nameLaw Tryz.underlying56 _ b _ _ rfl hown ?_;intro w0 hrg0 hg0 hs0)
  | go_in)
 go_frame
 have HG0:=hid hg0;clear hs0;go_loopw [5] (fun v wr=> ∃(left:Lit→Bool) (cnt:Nat) (met:List Name) (a:Option Addr) (n c:Nat),wr.ranges Tryz.prog 9 fileElem b w.heap.size (Maps.size D) D left cnt∧met.length+cnt≤Maps.size D∧v= .slice a n c∧
   StrRow wr w.heap.size (met.filter fun n=>q (M.at n)) (.slice a n c)∧Collected D left met∧Below w.heap.size w wr)
  (fun _ wr=>wr.rangeLeft b w.heap.size)
 case atStart=>exact⟨_,_,[],none,0,0,hrg0,by simp,rfl,World.ownsRow_nil _ _ _ _,Collected.start D,(Below.refl _ _).grown HG0.out (Nat.le_refl _) (fun j hj=>by cases hj)⟩
 case round=>
  obtain⟨left,cnt,met,a,n,c,hrg,hcs,rfl,hrow,hC,hnx⟩:=hrel;go_wp2_with (first
   | (at_next;refine wpList_next_ranges _ rfl _ rfl 9 nameLaw fileElem encStr mkV (fun key kl hk=>by obtain⟨x,hx,_⟩:=Maps.keyOf_str Tryz.underlying9 hk;exact⟨x,hx⟩) (fun v y hv=>by obtain⟨c,rfl,_⟩:=fileElem_inv hv;exact⟨c,rfl⟩) b w.heap.size (Maps.size D) _ _ _ rfl hrg ?_ ?_)
   | go_in)
  ·intro hc0 hl0
   have hend:=names_end HD.out q hC hl0;have hle:(met.filter fun n=>q (M.at n)).length≤N:=by have:=List.length_filter_le (fun n=>q (M.at n)) met;have:=HD.out.le;omega
   have hlm:((met.filter fun n=>q (M.at n)).mergeSort leB).length=(met.filter fun n=>q (M.at n)).length:=by simp
   obtain⟨ss,hss⟩: ∃ss,ss=met.filter fun n=>q (M.at n):=⟨_,rfl⟩;rw[←hss] at hrow hend hle hlm;rcases hrow.2 with⟨hv,hn0⟩ | ⟨g1,cap,cur,hv,hbase,hb,h1,h2,h3,h4⟩
   ·simp only[Value.slice.injEq] at hv
    obtain⟨rfl,rfl,rfl⟩:=hv;have HSO:=hid (Tryz.slices_Sort_string_none none 0 wr);have HE:=hid (show NamesOf M q ([]:List Name) by
     rw[List.eq_nil_of_length_eq_zero hn0,List.mergeSort_nil] at hend;exact hend)
    have HX:=hid hnx;clear hend hle hlm hss hrow hn0 hc0 hl0 hrg hcs hC hnx hrg0 hown hbl;go_wp2_with fail
    refine HSO.out.mono ?_;rintro e w9 ⟨rfl,rfl⟩;go_wp2
    go_ret
    exact⟨[],_,rfl,HE.out,World.ownsRow_nil _ _ _ _,HX.out,Nat.zero_le _⟩
   ·simp only[Value.slice.injEq] at hv
    obtain⟨rfl,rfl,rfl⟩:=hv;have hH:Holds encStr wr g1 0 ss.toArray:=holds_of_block hb (by simpa using h4);have hgl:g1<wr.heap.size:=(Array.getElem?_eq_some_iff.1 hb).1;have HSO:=hid (Tryz.slices_Sort_string g1 0 c ss wr hH hgl (by omega));have HE:=hid hend;have HX:=hid hnx;have HLM:=hid hlm;have HLE:=hid hle;have HOW:=hid (fun n os=>ownsRow_sorted (w:=wr) (n:=n) (os:=os) hlm hbase hb h1 h2 h3);have HBA:=hid hbase;clear hend hle hlm hss hrow hc0 hl0 hrg hcs hC hnx hrg0 hown hbl hH hgl hb h1 h2 h3 h4 hbase;go_wp2_with fail
    refine HSO.out.mono ?_;rintro e w9 ⟨rfl,nn,os,hw9⟩;have HR9:=hid (show w9.ownsRow w.heap.size 9 1 (.slice (some ⟨g1,0,none⟩) ss.length c) ss.length ((ss.mergeSort leB).map encStr) by rw[hw9];exact HOW.out nn os);have HG9:=hid (show wr.grownBy w9 (some g1) by rw[hw9];exact grownBy_sorted _);clear hw9;go_wp2
    go_ret
    refine⟨ss.mergeSort leB,_,rfl,HE.out,?_,HX.out.grown HG9.out HX.out.size (fun j hj=>by cases hj;exact HBA.out),by rw[HLM.out];exact HLE.out⟩;unfold StrRow;rw[HLM.out];exact HR9.out
  ·intro x cc kl yd yp w2 cnt2 hkey hlk hv hat hrg2 hlt hg2 hs2 hen
   obtain⟨x',ex,rfl,hxl⟩:=Maps.keyOf_str Tryz.underlying9 hkey;obtain rfl:x=x':=encStr_inj ex;obtain⟨cc',ecc,hyd⟩:=fileElem_inv hv;obtain rfl:=mkV_inj ecc;simp only[Prod.mk.injEq] at hyd;obtain⟨rfl,rfl⟩:=hyd;have hb2:Below w.heap.size w w2:=hnx.grown hg2 hnx.size (fun j hj=>by cases hj;exact Nat.le_refl _);obtain⟨f,hMf,hf⟩: ∃f,M x=some f∧FileAt w B o x cc f:=by
    rcases HD.out.files x (by simp) with⟨h1,h2⟩ | ⟨f,c',h1,h2,h3,h4⟩
    ·rw[has_true_of_atKey hat] at h2;cases h2
    ·have:=(h3 (.nil)).symm.trans (hat .nil)
     simp only[DataW.held.injEq] at this;rw[mkV_inj this] at h4;exact⟨f,h1,h4⟩
   have hrow2:=ownsRow_keep hrow (w':=w2) fun k e=>hg2.block k (World.ownsRow.lt hrow k e).2 fun e'=>row_ne_iter hrow hrg (by rw[e,e']);have hf2:=hf.below hb2 (fun k e=>(HD.out.own k e).2);have hfn:=HNN.out x f hMf;have hat':M.at x=f:=by simp [Files.at,hMf]
   have hsz2:=hb2.size;have HB2:=hid hb2;have HRG2:=hid hrg2;have HLT:=hid hlt;have HC:=hid (hC.step hlk hat);have HRG:=hid hrg;have HAT:=hid hat';have HQ:=hid (hq.out (w2.alloc (.cells #[.bool cc.t,.slice cc.sa cc.sn cc.sc,.int .i64 cc.wh,.slice cc.la cc.ln cc.lc,.bool cc.ls] 98)) B o x cc f
    (hf2.below ((Below.refl _ _).alloc (Nat.le_refl _) _) (fun k e=>Nat.lt_of_lt_of_le (HD.out.own k e).2 hsz2)) (fun k e=>by have:=(HD.out.own k e).2;simp;omega) hfn)
   clear hs2 hb2 hrg2 hlt hC hlk hat hrg hat' hf hf2 hMf hfn hkey hv hnx hsz2 hrow;obtain⟨t,sa,sn,sc,wh,la,ln,lc,ls⟩:=cc;simp only[mkV] at hen HQ ⊢;go_wp2_with fail
   refine HQ.out.mono ?_;rintro e w3 ⟨rfl,hb3⟩;have hs23:w2.heap.size+1≤w3.heap.size:=by have:=hb3.size;simpa using this
   have hb13:Below w2.heap.size w2 w3:=((Below.refl _ _).alloc (Nat.le_refl _) _).trans (hb3.mono (by simp));have hrow3:=ownsRow_keep hrow2 (w':=w3) fun k e=>hb13.block k (World.ownsRow.lt hrow2 k e).2;have hrg3:=HRG2.out.kept (World.grownBy_below hb13 none) (by simp) (by simp);have HB3:=hid (HB2.out.trans (hb13.mono HB2.out.size));have HRG3:=hid hrg3;have HZ:=hid (show w.heap.size≤w3.heap.size from HB3.out.size);clear hb3 hs23 hb13 hrow2 hrg3 hen;cases hqf:q f
   ·have HQF:=hid hqf
    go_wp2
    go_roundw
    case rel=>
     refine⟨_,cnt2,met++ [x],a,n,c,HRG3.out,by have:=HLT.out;simp;omega,rfl,?_,HC.out,HB3.out⟩;have:((met++ [x]).filter fun n=>q (M.at n))=met.filter fun n=>q (M.at n):=by simp [List.filter_append,HAT.out,HQF.out]
     rw[this];exact hrow3
    case measure=>rw[HRG3.out.left_eq,HRG.out.left_eq];exact HLT.out
   ·have HQF:=hid hqf
    have hfl:(met.filter fun n=>q (M.at n)).length≤met.length:=List.length_filter_le _ _;have hNle:=HD.out.le;have hlen:(met.filter fun n=>q (M.at n)).length+1≤1000000000:=by omega
    clear hqf hfl hNle;go_wp2_with (at_builtin;go_loud (refine wpList_append_own _ rfl _ _ 70 rfl w.heap.size 9 i0 (.string ⟨#[]⟩) 1 16 Tryz.underlying70 hi hz0 hz1 hz2 rfl (by decide) _ _ _ rfl (hrow3.alloc _) ⟨w3.heap.size,0,none⟩ 1 1 [encStr x] rfl rfl (cell_one_new _ _ _) (by simp [Value.oneCell',encStr]) (by unfold maxLen;omega) (by omega) (by have:=HZ.out;simp;omega) ?_))
    intro v' w4 hown' hg4 hnil4;obtain⟨a',c',rfl,_⟩:=slice_shape hown';have hrg4:=(HRG3.out.alloc _).kept hg4 (row_ne_low hrow3 hbl) (row_ne_iter hrow3 HRG3.out);have HRG4:=hid hrg4;have HOW4:=hid hown';have HB4:=hid ((HB3.out.alloc HZ.out _).grown hg4 (by have:=HZ.out;simp;omega) (fun j hj=>(World.ownsRow.lt hrow3 j hj).1));clear hrg4 hown' hg4 hnil4 hrow3;go_wp2
    go_roundw
    case rel=>
     refine⟨_,cnt2,met++ [x],_,_,_,HRG4.out,by have:=HLT.out;simp;omega,rfl,?_,HC.out,HB4.out⟩;have:((met++ [x]).filter fun n=>q (M.at n))=(met.filter fun n=>q (M.at n))++ [x]:=by simp [List.filter_append,HAT.out,HQF.out]
     rw[this];unfold StrRow;simpa using HOW4.out
    case measure=>rw[HRG4.out.left_eq,HRG.out.left_eq];exact HLT.out
end Go.Proofs.YtalfbcbnljhldaaGreatDoor

namespace Go.Proofs.YtalfbcbnljhldaaGreatDoor
open Go.Lib (hid)
open Go.RowKit Go.Maps Dsk
theorem enter_names (args:Array Value) (w:World):(callFunc 81 args).run Tryz.prog w= .ok (.enter 81 args) w:=enters_of Tryz.func81 (by kernel_rfl) rfl args w
theorem enter_loose (args:Array Value) (w:World):(callFunc 76 args).run Tryz.prog w= .ok (.enter 76 args) w:=enters_of Tryz.func76 (by kernel_rfl) rfl args w
def Told1 (M:Files) (N:Nat) (q:Fil→Bool) (w:World) (e:Ending) (w':World):Prop:= ∃ks a c,e= .returned (.slice a ks.length c)∧NamesOf M q ks∧StrRow w' w.heap.size ks (.slice a ks.length c)∧Below w.heap.size w w'∧ks.length≤N
theorem names_all (g B N:Nat) (o:Tags) (M:Files) (w:World) (hd:DiskAt w B o g M N) (hN:N<1000000000) (hn: ∀l f,M l=some f→f.later.length<1000000000):Calls Tryz.prog 52 #[.pointer (some ⟨g,0,none⟩)] w (Told1 M N (fun f=>f.now.there) w):=by
 have H:=hid (names_any _ enter_names _ asks_names g B N o M w hd hN hn);clear hd hn;go_enter Tryz.func52,Tryz.ntmps52
 go_wp2_with fail
 refine H.out.mono ?_;rintro e w1 ⟨ks,v,rfl,h1,h2,h3,h4⟩;obtain⟨a,c,rfl,_⟩:=slice_shape h2;have HE:=hid h1;have HR:=hid h2;clear h1 h2;go_wp2
 go_ret
 exact⟨ks,a,c,rfl,HE.out,HR.out,h3,h4⟩
theorem loose_all (g B N:Nat) (o:Tags) (M:Files) (w:World) (hd:DiskAt w B o g M N) (hN:N<1000000000) (hn: ∀l f,M l=some f→f.later.length<1000000000):Calls Tryz.prog 43 #[.pointer (some ⟨g,0,none⟩)] w (Told1 M N (fun f=>f.loose) w):=by
 have H:=hid (names_any _ enter_loose _ asks_loose g B N o M w hd hN hn);clear hd hn;go_enter Tryz.func43,Tryz.ntmps43
 go_wp2_with fail
 refine H.out.mono ?_;rintro e w1 ⟨ks,v,rfl,h1,h2,h3,h4⟩;obtain⟨a,c,rfl,_⟩:=slice_shape h2;have HE:=hid h1;have HR:=hid h2;clear h1 h2;go_wp2
 go_ret
 exact⟨ks,a,c,rfl,HE.out,HR.out,h3,h4⟩
theorem StepX.plain {x:Value} {o o':Tags} {w w':World} (h:StepX x o w o' w') (hx: ∀k,x.ownBlock=some k→o k≠none):Step o w o' w':=
 ⟨h.os,h.tape,h.output,h.size,h.block,fun k hk e _=>h.free k hk e fun e'=>hx k e' e⟩
theorem settle_of (g B N:Nat) (o:Tags) (M:Files) (l:Name) (v:Ver) (a:Option Addr) (c:Nat) (w:World) (hd:DiskAt w B o g M N) (hM:(M l).isSome=true) (hs:Row w B v.bs (.slice a v.bs.length c)) (hz:v.bs.length≤1048576) (hr: ∀x∈v.bs,0≤x∧x≤255)
  (hso: ∀k,(Value.slice a v.bs.length c).ownBlock=some k→ ∃j,o k=some (.file l j)) (hl:l.length≤64) (hN:N<4611686018427387904):
  Calls Tryz.prog 47 #[.pointer (some ⟨g,0,none⟩),.string ⟨l.toArray⟩,.agg #[.bool v.there,.slice a v.bs.length c,.int .i64 v.whole]] w fun e w'=>e= .returned (.tuple #[])∧
   ∃o',DiskAt w' B o' g (upd M l (settled v)) N∧Step o w o' w':=by
 obtain⟨t,zs,wh⟩:=v;cases t
 ·refine(settle_gone g B N o M l _ _ w hd hl).mono ?_
  rintro e w' ⟨rfl,o',h1,h2⟩;exact⟨rfl,o',by simpa [settled] using h1,h2⟩
 ·refine(settle_there g B N o M l _ zs _ w hd hM hs hz hr (fun k e=> .inr (hso k e)) hl hN).mono ?_
  rintro e w' ⟨rfl,o',h1,h2⟩;exact⟨rfl,o',by simpa [settled] using h1,h2.plain fun k e=>by obtain⟨j,hj⟩:=hso k e;rw[hj];simp⟩
set_option maxRecDepth 100000 in
set_option maxHeartbeats 1000000 in
theorem sync_any (g B N:Nat) (o:Tags) (M:Files) (l:Name) (w:World) (hd:DiskAt w B o g M N) (hM:(M l).isSome=true) (h1:1≤l.length) (h2:l.length≤64) (hN:N<1000000000) (hn:(M.at l).later.length<1000000000):
  Calls Tryz.prog 19 #[.pointer (some ⟨g,0,none⟩),.string ⟨l.toArray⟩] w fun e w'=>e= .returned (.int .i64 0)∧ ∃o',DiskAt w' B o' g (upd M l (settled (M.at l).now)) N∧Step o w o' w':=by
 obtain⟨b,D,hd⟩:=hd;have hcell:=hd.cell;obtain⟨⟨t,sa,sn,sc,wh,la,ln,lc,ls⟩,hf,_,hrun⟩:=hd.look l (by unfold maxLen;omega);rw[hM] at hrun;simp only[mkV] at hrun;have hb2:Below w.heap.size w (w.alloc (.cells #[.bool t,.slice sa sn sc,.int .i64 wh,.slice la ln lc,.bool ls] 98)):=(Below.refl _ _).alloc (Nat.le_refl _) _;have hH:Held (w.alloc (.cells #[.bool t,.slice sa sn sc,.int .i64 wh,.slice la ln lc,.bool ls] 98)) w.heap.size ⟨t,sa,sn,sc,wh,la,ln,lc,ls⟩:=heap_alloc_new _ _;obtain⟨P,q,a,cp,j,hnow,c0,c1,c2,hby⟩:=now_any hH (hf.below hb2 (fun k e=>(hd.own k e).2)) hn;have hok:=Fil.now_ok hf.ok;obtain⟨v,hv⟩: ∃v,v=(M.at l).now:=⟨_,rfl⟩;rw[←hv] at c0 c1 c2 hby hok ⊢;have HR:=hid (refusal_ok g b l w hcell h1 h2);have HN:=hid hnow;have HS:=hid (settle_of g B N o M l v a cp _ ⟨b,D,hd.below hb2⟩ hM hby.1 hok.2.1 hok.2.2 (fun k e=>⟨j,hby.2 k e⟩) h2 (by omega));have HB:=hid hb2;clear hnow hby hok hv hf hd hM hn hH hb2;go_enter Tryz.func19,Tryz.ntmps19
 go_wp2_with fail
 refine HR.out.mono ?_;rintro e w1 ⟨rfl,rfl⟩;go_wp2_with fail
 refine HN.out.mono ?_;rintro e w1 ⟨rfl,rfl⟩;go_wp2_with fail
 refine HS.out.mono ?_;rintro e w1 ⟨rfl,o',hd',hst⟩;have HD:=hid hd';have HST:=hid ((Step.of_below o HB.out).trans hst);clear hd' hst;go_wp2
 go_ret
 exact⟨rfl,o',HD.out,HST.out⟩
set_option maxRecDepth 100000 in
set_option maxHeartbeats 1000000 in
theorem remove_any (g B N:Nat) (o:Tags) (M:Files) (l:Name) (w:World) (hd:DiskAt w B o g M N) (ht:(M.at l).now.there=true) (h1:1≤l.length) (h2:l.length≤64) (hN:N<1000000000) (hn:(M.at l).later.length<1000000000) (hBw:B≤w.heap.size):
  Calls Tryz.prog 79 #[.pointer (some ⟨g,0,none⟩),.string ⟨l.toArray⟩] w fun e w'=>e= .returned (.int .i64 0)∧ ∃o',DiskAt w' B o' g (upd M l (some ((M.at l).chg Ver.zero))) (cntN M l N)∧Step o w o' w':=by
 obtain⟨b,D,hd⟩:=hd;have hcell:=hd.cell;obtain⟨⟨t,sa,sn,sc,wh,la,ln,lc,ls⟩,hf,hrun,_⟩:=hd.look l (by unfold maxLen;omega);simp only[mkV] at hrun;have hb2:Below w.heap.size w (w.alloc (.cells #[.bool t,.slice sa sn sc,.int .i64 wh,.slice la ln lc,.bool ls] 98)):=(Below.refl _ _).alloc (Nat.le_refl _) _;have hH:Held (w.alloc (.cells #[.bool t,.slice sa sn sc,.int .i64 wh,.slice la ln lc,.bool ls] 98)) w.heap.size ⟨t,sa,sn,sc,wh,la,ln,lc,ls⟩:=heap_alloc_new _ _;obtain⟨P,q,a,cp,j,hnow,c0,c1,c2,hby⟩:=now_any hH (hf.below hb2 (fun k e=>(hd.own k e).2)) hn;rw[ht] at c0;have HR:=hid (refusal_ok g b l w hcell h1 h2);have HN:=hid hnow;have HS:=hid (change_any g B N o M l false none 0 0 0 [] _ ⟨b,D,hd.below hb2⟩ (World.ownsRow_nil _ _ _ _) Ver.zero_ok (fun k e=>by cases e) h2 (by omega) hn (Nat.le_trans hBw hb2.size));have HB:=hid hb2;clear hnow hby hf hd hn hH hb2 ht hBw;go_enter Tryz.func79,Tryz.ntmps79
 go_wp2_with fail
 refine HR.out.mono ?_;rintro e w1 ⟨rfl,rfl⟩;go_wp2_with fail
 refine HN.out.mono ?_;rintro e w1 ⟨rfl,rfl⟩;go_wp2_with fail
 refine HS.out.mono ?_;rintro e w1 ⟨rfl,o',hd',hst⟩;have HD:=hid hd';have HST:=hid ((Step.of_below o HB.out).trans hst);clear hd' hst;go_wp2
 go_ret
 exact⟨rfl,o',HD.out,HST.out⟩
end Go.Proofs.YtalfbcbnljhldaaGreatDoor

namespace Go.Proofs.YtalfbcbnljhldaaGreatDoor
open Go.Lib (hid)
open Go.RowKit Go.Maps Dsk
set_option maxRecDepth 100000 in
set_option maxHeartbeats 2000000 in
theorem replace_any (g B N:Nat) (o:Tags) (M:Files) (l:Name) (a:Option Addr) (len cap:Nat) (zs:List Int) (w:World) (hd:DiskAt w B o g M N) (hz:len=zs.length) (hp:Reads w a zs) (hna:a=none→cap=0) (hzl:zs.length≤1048576)
  (hroom:(M.at l).now.there=true∨N<64) (h1:1≤l.length) (h2:l.length≤64) (hN:N<1000000000) (hn: ∀l f,M l=some f→f.later.length<1000000000) (hBw:B≤w.heap.size):
  Calls Tryz.prog 17 #[.pointer (some ⟨g,0,none⟩),.string ⟨l.toArray⟩,.slice a len cap] w fun e w'=>e= .returned (.int .i64 0)∧ ∃o',DiskAt w' B o' g (upd M l (some ((M.at l).chg ⟨true,zs,zs.length⟩))) (cntN M l N)∧Step o w o' w':=by
 subst hz;have hn1:(M.at l).later.length<1000000000:=by
  unfold Files.at;cases h:M l with
  | none=>simp [Fil.zero]
  | some f=>exact hn l f h
 have HD0:=hid hd;obtain⟨b,D,hd⟩:=hd;have hcell:=hd.cell;obtain⟨⟨t,sa,sn,sc,wh,la,ln,lc,ls⟩,hf,hrun,_⟩:=hd.look l (by unfold maxLen;omega);simp only[mkV] at hrun;have hb2:Below w.heap.size w (w.alloc (.cells #[.bool t,.slice sa sn sc,.int .i64 wh,.slice la ln lc,.bool ls] 98)):=(Below.refl _ _).alloc (Nat.le_refl _) _;have hH:Held (w.alloc (.cells #[.bool t,.slice sa sn sc,.int .i64 wh,.slice la ln lc,.bool ls] 98)) w.heap.size ⟨t,sa,sn,sc,wh,la,ln,lc,ls⟩:=heap_alloc_new _ _;obtain⟨P,q,na,cp,j,hnow,c0,c1,c2,hby⟩:=now_any hH (hf.below hb2 (fun k e=>(hd.own k e).2)) hn1;have HR:=hid (refusal_ok g b l w hcell h1 h2);have HN:=hid hnow;have HB:=hid hb2;have HOWN:=hid hd.own;have HF:=hid (names_all g B N o M _ ⟨b,D,hd.below hb2⟩ hN hn);have HC:=hid (fun W (hw:Below w.heap.size w W)=>clone_reads a zs.length cap zs W rfl (hp.below hw) (by omega) hna);have HS:=hid (fun(W:World) (hw:Below w.heap.size w W) a' c' (hr:Row W w.heap.size zs (.slice a' zs.length c'))=>change_any g B N o M l true a' zs.length c' zs.length zs W ⟨b,D,hd.below hw⟩
  (hr.less hBw) ⟨Nat.le_refl _,hzl,hp.hr⟩ (fun k e=>by
   have hk:w.heap.size≤k:=(hr.own k e).1;cases ho:o k with
   | none=>rfl
   | some t'=>have:=(hd.own k (by rw[ho];simp)).2;omega) h2 (by omega) hn1 (Nat.le_trans hBw hw.size))
 have hzd:decide (1048576<(zs.length:Int))=false:=by simp;omega
 clear hnow hf hd hH hb2 hby hp hna hzl hBw hn hn1;go_enter Tryz.func17,Tryz.ntmps17
 go_wp2_with fail
 refine HR.out.mono ?_;rintro e w1 ⟨rfl,rfl⟩;go_wp2_with fail
 refine HN.out.mono ?_;rintro e w1 ⟨rfl,rfl⟩;by_cases ht:(M.at l).now.there=true
 ·rw[ht] at c0
  go_wp2_with fail
  refine(HC.out _ HB.out).mono ?_;rintro e w3 ⟨v,rfl,hr,hb3⟩;have hb:=HB.out.trans (hb3.mono HB.out.size);replace hr:=hr.less HB.out.size;obtain⟨a',c',rfl⟩:=hr.shape;have HK:=hid (HS.out w3 hb a' c' hr);have HB3:=hid hb;have HRO:=hid (fun k e=>(hr.own k e).1);clear hr hb3 hb;go_wp2_with fail
  refine HK.out.mono ?_;rintro e w5 ⟨rfl,o',hd',hst⟩;have HD:=hid hd';have HST:=hid (hst.behind HB3.out HRO.out);clear hd' hst;go_wp2
  go_ret
  exact⟨rfl,o',HD.out,HST.out⟩
 ·have ht':(M.at l).now.there=false:=by simpa using ht
  rw[ht'] at c0;have hN64:N<64:=hroom.elim (fun h=>absurd h ht) id;go_wp2_with fail
  refine HF.out.mono ?_;rintro e w4 ⟨ks,ka,kc,rfl,hks,_,hb4,hkl⟩;have hd64:decide (64≤(ks.length:Int))=false:=by simp;omega
  have HB4:=hid (HB.out.trans (hb4.mono HB.out.size));clear hks hb4 hkl hN64;go_wp2_with fail
  refine(HC.out _ HB4.out).mono ?_;rintro e w3 ⟨v,rfl,hr,hb3⟩;have hb:=HB4.out.trans (hb3.mono HB4.out.size);replace hr:=hr.less HB4.out.size;obtain⟨a',c',rfl⟩:=hr.shape;have HK:=hid (HS.out w3 hb a' c' hr);have HB3:=hid hb;have HRO:=hid (fun k e=>(hr.own k e).1);clear hr hb3 hb;go_wp2_with fail
  refine HK.out.mono ?_;rintro e w5 ⟨rfl,o',hd',hst⟩;have HD:=hid hd';have HST:=hid (hst.behind HB3.out HRO.out);clear hd' hst;go_wp2
  go_ret
  exact⟨rfl,o',HD.out,HST.out⟩
end Go.Proofs.YtalfbcbnljhldaaGreatDoor

namespace Go.Proofs.YtalfbcbnljhldaaGreatDoor
open Go.RowKit Go.Maps Dsk
section
variable {w w' W:World} {B:Nat} {o o':Tags} {g b N:Nat} {D:DataW Value} {M:Files} {l:Name}
theorem own_old {x y:Value} {t:Tag} (hx: ∀k,x.ownBlock=some k→o k=some t) (hl:y.ownBlock=x.ownBlock∨ ∃k,y.ownBlock=some k∧w.heap.size≤k) (ho: ∀k,o k≠none→B≤k∧k<w.heap.size): ∀k t',o k=some t'→o.own y t k=some t':=fun k t' e=>by
 unfold Tags.own;by_cases e1:y.ownBlock=some k
 ·rw[if_pos e1]
  rcases hl with h1 | ⟨j,h1,h2⟩
  ·rw[h1] at e1
   rw[←hx k e1,e]
  ·rw[h1] at e1
   cases e1;have:=(ho k (by rw[e];simp)).2;omega
 ·rw[if_neg e1];exact e
theorem own_free {x y:Value} {t:Tag} (hx: ∀k,x.ownBlock=some k→o k=some t) (hl:y.ownBlock=x.ownBlock∨ ∃k,y.ownBlock=some k∧w.heap.size≤k): ∀k,k<w.heap.size→o k=none→o.own y t k=none:=fun k hk e=>by
 unfold Tags.own;by_cases e1:y.ownBlock=some k
 ·rcases hl with h1 | ⟨j,h1,h2⟩
  ·rw[h1] at e1
   rw[hx k e1] at e;cases e
  ·rw[h1] at e1
   cases e1;omega
 ·rw[if_neg e1];exact e
theorem Ver.app_ok {v:Ver} {zs:List Int} (h:v.ok) (hz:v.bs.length+zs.length≤1048576) (hr: ∀x∈zs,0≤x∧x≤255):(v.app zs).ok:=
 ⟨by have:=h.1;simp [Ver.app];omega,by simp [Ver.app];omega,fun x hx=>by
  rcases List.mem_append.1 (show x∈v.bs++zs from hx) with hx | hx
  ·exact h.2.2 x hx
  ·exact hr x hx⟩
theorem DiskIn.appSure (h:DiskIn w B o g b D M N none) {c:FV} {f:Fil} (hf:FileAt w B o l c f) (hl:f.later= []) {zs:List Int} (hv:(f.sure.app zs).ok) {a':Option Addr} {n' c':Nat}
  (hg:w.grownBy W c.sb.ownBlock) (hrow:Row W B (f.sure.bs++zs) (.slice a' n' c')) (hlies:(Value.slice a' n' c').ownBlock=c.sb.ownBlock∨ ∃k,(Value.slice a' n' c').ownBlock=some k∧w.heap.size≤k):
  ∃o',DiskIn W B o' g b D M N (some l)∧FileAt W B o' l {c with sa:=a',sn:=n',sc:=c',ls:=true} (f.app zs)∧ ∀k,k<w.heap.size→o k=none→o' k=none:=by
 have hold:=own_old (w:=w) hf.sb.2 hlies h.own;have hsame: ∀k t',o k=some t'→t'≠ .file l 0→W.heap[k]?=w.heap[k]?:=fun k t' e hne=>
  hg.block k (h.own k (by rw[e];simp)).2 fun e'=>by
   rw[hf.sb.2 k e'.symm] at e;cases e;exact hne rfl
 refine⟨o.own (.slice a' n' c') (.file l 0),(h.but l).keep (fun _ e=>e) (h.but l).here (fun k t' e ht=>hsame k t' e fun e'=>ht l 0 e' rfl) (fun k t' e _=>hold k t' e) (fun k e=>?_),?_,own_free hf.sb.2 hlies⟩
 ·unfold Tags.own at e
  by_cases e1:(Value.slice a' n' c').ownBlock=some k
  ·exact hrow.own k e1
  ·rw[if_neg e1] at e
   exact⟨(h.own k e).1,Nat.lt_of_lt_of_le (h.own k e).2 hg.size⟩
 ·rw[Fil.app_nil hl]
  obtain⟨ss,k1,k2,k3,_⟩:=hf.lt;rw[hl] at k1 k2;exact⟨hf.t,hf.wh,rfl,⟨hrow,fun k e=>by simp [Tags.own,show(Value.slice a' n' c').ownBlock=some k from e]⟩,⟨hv,fun v hv=>by cases hv⟩,ss,k1,ownsRow_keep k2 fun k e=>hsame k _ (k3 k e) (by simp),fun k e=>hold k _ (k3 k e),fun i hi=>absurd hi (by simp)⟩
theorem ownsRow_set {e:TypeId} {size n:Nat} {xs:List Value} {gl:Nat} {cp:Nat} (h:w.ownsRow B e size (.slice (some ⟨gl,0,none⟩) n cp) n xs) (i:Nat) (u:Value):(w.setCell ⟨gl,i,none⟩ u).ownsRow B e size (.slice (some ⟨gl,0,none⟩) n cp) n (xs.set i u):=by
 refine⟨by simp [h.1],?_⟩;rcases h.2 with⟨hv,_⟩ | ⟨g',cap,cur,hv,hB,hg,h1,h2,h3,h4⟩
 ·cases hv
 ·simp only[Value.slice.injEq,Option.some.injEq,Addr.mk.injEq] at hv
  obtain⟨⟨rfl,_⟩,_,rfl⟩:=hv;refine .inr ⟨gl,cp,cur.setIfInBounds i u,rfl,hB,cells_set hg i u,h1,h2,by simpa using h3,?_⟩;rw[Array.toList_setIfInBounds,List.take_set,h4]
theorem DiskIn.appLater (h:DiskIn w B o g b D M N none) {c:FV} {f:Fil} (hf:FileAt w B o l c f) {r:List Ver} {v:Ver} (hl:f.later=r++ [v]) {zs:List Int} (hv:(v.app zs).ok) {s:Value} {gl:Nat} {ss0:List Value} (hla:c.lt= .slice (some ⟨gl,0,none⟩) (r.length+1) c.lc)
  (hss:ss0.length=r.length) (hrl:w.ownsRow B 95 3 c.lt (r.length+1) (verCells r ss0++ [.bool v.there,s,.int .i64 v.whole])) (hlo: ∀k,c.lt.ownBlock=some k→o k=some (.file l 1)) (hbs: ∀i (h:i<r.length),BytesAt w B o (.file l (i+2)) r[i].bs (ss0.getD i undef)) (hso: ∀k,s.ownBlock=some k→o k=some (.file l (r.length+2)))
  {W0:World} (hg:w.grownBy W0 s.ownBlock) {a':Option Addr} {n' c':Nat} (hrow:Row W0 B (v.bs++zs) (.slice a' n' c')) (hlies:(Value.slice a' n' c').ownBlock=s.ownBlock∨ ∃k,(Value.slice a' n' c').ownBlock=some k∧w.heap.size≤k)
  {fb:Nat} (hfb:w.heap.size≤fb) (hnf:(Value.slice a' n' c').ownBlock≠some fb) (hW:(W0.setCell ⟨gl,r.length*3+1,none⟩ (.slice a' n' c')).grownBy W (some fb)):
  ∃o',DiskIn W B o' g b D M N (some l)∧FileAt W B o' l {c with ls:=true} (f.app zs)∧ ∀k,k<w.heap.size→o k=none→o' k=none:=by
 have hgl:o gl=some (.file l 1):=hlo gl (by rw[hla];rfl);have hgs:=(h.own gl (by rw[hgl];simp)).2;have hold:=own_old (w:=w) hso hlies h.own;have h0: ∀k t',o k=some t'→t'≠ .file l (r.length+2)→W0.heap[k]?=w.heap[k]?:=fun k t' e hne=>
  hg.block k (h.own k (by rw[e];simp)).2 fun e'=>by
   rw[hso k e'.symm] at e;cases e;exact hne rfl
 have hz0:W0.heap.size≤W.heap.size:=by have:=hW.size;simpa [World.setCell] using this
 have h1: ∀k,k<W0.heap.size→k≠gl→k≠fb→W.heap[k]?=W0.heap[k]?:=fun k hk hne hnb=>(hW.block k (by simpa [World.setCell] using hk) (by simpa using hnb)).trans (Below.heap_setCell _ _ _ _ hne);have hsame: ∀k t',o k=some t'→t'≠ .file l (r.length+2)→t'≠ .file l 1→W.heap[k]?=w.heap[k]?:=fun k t' e hne hne1=>
  (h1 k (Nat.lt_of_lt_of_le (h.own k (by rw[e];simp)).2 hg.size) (fun e'=>by subst e';rw[hgl] at e;cases e;exact hne1 rfl) (by have:=(h.own k (by rw[e];simp)).2;omega)).trans (h0 k t' e hne)
 have hrow2:Row W B (v.bs++zs) (.slice a' n' c'):=hrow.keep fun k e=>h1 k (hrow.own k e).2 (fun e'=>by
  subst e';rcases hlies with hh | ⟨j,hh,h2⟩
  ·rw[hh] at e
   rw[hso k e] at hgl;cases hgl
  ·rw[hh] at e
   cases e;omega) (fun e'=>by subst e';exact hnf e)
 refine⟨o.own (.slice a' n' c') (.file l (r.length+2)),(h.but l).keep (fun _ e=>e) (h.but l).here (fun k t' e ht=>hsame k t' e (fun e'=>ht l _ e' rfl) (fun e'=>ht l _ e' rfl)) (fun k t' e _=>hold k t' e) (fun k e=>?_),?_,own_free hso hlies⟩
 ·unfold Tags.own at e
  by_cases e1:(Value.slice a' n' c').ownBlock=some k
  ·exact hrow2.own k e1
  ·rw[if_neg e1] at e
   exact⟨(h.own k e).1,Nat.lt_of_lt_of_le (h.own k e).2 (Nat.le_trans hg.size hz0)⟩
 ·rw[Fil.app_some hl]
  have hokl:=hf.ok.2;rw[hl] at hokl;refine⟨hf.t,hf.wh,rfl,hf.sb.keep (fun k e=>hsame k _ e (by simp) (by simp)) (fun k e=>hold k _ e),⟨hf.ok.1,fun x hx=>?_⟩,ss0++ [.slice a' n' c'],by simp [hss],?_,fun k e=>hold k _ (hlo k e),fun i hi=>?_⟩
  ·rcases List.mem_append.1 hx with hx | hx
   ·exact hokl x (List.mem_append_left _ hx)
   ·simp at hx;subst hx;exact hv
  ·show W.ownsRow B _ 3 c.lt (r++ [v.app zs]).length (verCells (r++ [v.app zs]) (ss0++ [.slice a' n' c']))
   rw[verCells_snoc _ _ _ _ hss,List.length_append];rw[hla] at hrl;have hrl0:=ownsRow_keep (w':=W0) hrl fun k e=>h0 k _ (hlo k (by rw[hla];exact e)) (by simp);have hset:=ownsRow_set hrl0 (r.length*3+1) (.slice a' n' c');have hcs:(verCells r ss0++ [.bool v.there,s,.int .i64 v.whole]).set (r.length*3+1) (.slice a' n' c')=verCells r ss0++ [.bool (v.app zs).there,.slice a' n' c',.int .i64 (v.app zs).whole]:=by
    rw[List.set_append,verCells_len _ _ hss,if_neg (by omega),show r.length*3+1 - r.length*3=1 by omega];rfl
   rw[hcs] at hset;rw[hla];exact hset.kept hW (.inr (by simp [Value.ownBlock];omega))
  ·simp only[List.length_append,List.length_cons,List.length_nil] at hi
   by_cases hin:i<r.length
   ·have e1:(r++ [v.app zs])[i]'(by simp;omega)=r[i]:=by simp [hin]
    have e2:(ss0++ [Value.slice a' n' c']).getD i undef=ss0.getD i undef:=by simp [List.getD,List.getElem?_append,show i<ss0.length by omega]
    show BytesAt W B _ _ ((r++ [v.app zs])[i]'(by simp;omega)).bs _;rw[e1,e2];exact(hbs i hin).keep (fun k e=>hsame k _ e (by simp;omega) (by simp)) (fun k e=>hold k _ e)
   ·obtain rfl:i=r.length:=by omega
    have e1:(r++ [v.app zs])[r.length]'(by simp)=v.app zs:=by simp
    have e2:(ss0++ [Value.slice a' n' c']).getD r.length undef= .slice a' n' c':=by simp [List.getD,←hss]
    show BytesAt W B _ _ ((r++ [v.app zs])[r.length]'(by simp)).bs _;rw[e1,e2];exact⟨hrow2,fun k e=>by simp [Tags.own,show(Value.slice a' n' c').ownBlock=some k from e]⟩
end
end Go.Proofs.YtalfbcbnljhldaaGreatDoor

namespace Go.Proofs.YtalfbcbnljhldaaGreatDoor
open Go.Lib (hid)
open Go.RowKit Go.Maps Dsk
theorem Reads.bytes {w:World} {a:Option Addr} {zs:List Int} (h:Reads w a zs): ∀ad,a=some ad→ ∀j u,(zs.map (Value.int .u8))[j]?=some u→w.cell? (ad.add j)=some u:=fun ad e=>by
 subst e;exact h.news
theorem Reads.none_len {w:World} {a:Option Addr} {zs:List Int} (h:Reads w a zs) (ha:a=none):zs.length=0:=by
 cases zs with
 | nil=>rfl
 | cons z zs=>
  obtain⟨x,hx,_⟩:=h.cell 0 (by simp);rw[ha] at hx;cases hx
set_option maxRecDepth 100000 in
set_option maxHeartbeats 2000000 in
theorem append_sure (g B N:Nat) (o:Tags) (M:Files) (l:Name) (a:Option Addr) (cap:Nat) (zs:List Int) (w:World) (hd:DiskAt w B o g M N) (hp:Reads w a zs) (hna:a=none→cap=0) (hl:(M.at l).later= []) (ht:(M.at l).sure.there=true)
  (hzl:(M.at l).sure.bs.length+zs.length≤1048576) (h1:1≤l.length) (h2:l.length≤64) (hN:N<1000000000) (hBw:B≤w.heap.size):
  Calls Tryz.prog 71 #[.pointer (some ⟨g,0,none⟩),.string ⟨l.toArray⟩,.slice a zs.length cap] w fun e w'=>e= .returned (.int .i64 0)∧ ∃o',DiskAt w' B o' g (upd M l (some ((M.at l).app zs))) (cntN M l N)∧Step o w o' w':=by
 obtain⟨b,D,hd⟩:=hd;obtain⟨i0,hi,hz0,hz1,hz2⟩:=info_parts info5;have hcell:=hd.cell;obtain⟨⟨t,sa,sn,sc,wh,la,ln,lc,ls⟩,hf,hrun,_⟩:=hd.look l (by unfold maxLen;omega);simp only[mkV] at hrun;have hb2:Below w.heap.size w (w.alloc (.cells #[.bool t,.slice sa sn sc,.int .i64 wh,.slice la ln lc,.bool ls] 98)):=(Below.refl _ _).alloc (Nat.le_refl _) _;have hH:Held (w.alloc (.cells #[.bool t,.slice sa sn sc,.int .i64 wh,.slice la ln lc,.bool ls] 98)) w.heap.size ⟨t,sa,sn,sc,wh,la,ln,lc,ls⟩:=heap_alloc_new _ _;have htt:t=true:=hf.t.trans ht;have hsn:sn=(M.at l).sure.bs.length:=hf.sn;have hln:ln=0:=by have:=hf.ln;rw[hl] at this;exact this
 subst htt hln;obtain⟨bs,hbs⟩: ∃bs,bs=(M.at l).sure.bs:=⟨_,rfl⟩;rw[←hbs] at hsn hzl;subst hsn;have hrow:Row (w.alloc (.cells #[.bool true,.slice sa bs.length sc,.int .i64 wh,.slice la 0 lc,.bool ls] 98)) B bs (.slice sa bs.length sc):=by
  rw[hbs];have:=hf.sb.1.below hb2;rwa [FV.sb,hbs] at this
 have HR:=hid (refusal_ok g b l w hcell h1 h2);have HNW:=hid (now_sure w.heap.size la lc _ hH.cells.2.2.2.1);have HB:=hid hb2;have HH:=hid hH;have hpb:=(hp.below hb2).bytes;have hpn:a=none→zs.length=0∧cap=0:=fun e=>⟨hp.none_len e,hna e⟩;have HF:=hid hf;have HD:=hid hd;have HL:=hid hl;have HBS:=hid hbs;have HPR:=hid hp.hr;have hzd:decide (1048576 - (bs.length:Int)<(zs.length:Int))=false:=by simp;omega
 obtain⟨c0,c1,c2,c3,c4⟩:=hH.cells;dsimp only at c0 c1 c2 c3 c4;clear hf hd hl hbs hp hna hH hb2 ht;go_enter Tryz.func71,Tryz.ntmps71
 go_wp2_with fail
 refine HR.out.mono ?_;rintro e w1 ⟨rfl,rfl⟩;go_wp2_with fail
 refine HNW.out.mono ?_;rintro e w1 ⟨rfl,rfl⟩;generalize hw2:(w.alloc (.cells #[.bool true,.slice sa bs.length sc,.int .i64 wh,.slice la 0 lc,.bool ls] 98))=w2 at*;have HW2:=hid hw2;have hsz:w2.heap.size=w.heap.size+1:=by rw[←hw2];simp
 have HSZ:=hid hsz;clear hw2 hsz hrun hcell;go_wp2_with (at_builtin;go_loud (refine wpList_append_lies _ rfl _ _ 39 rfl B 5 i0 (.int .u8 0) 1 1 Tryz.underlying39 hi hz0 hz1 hz2 rfl (by decide) _ _ _ rfl hrow a zs.length cap (zs.map (Value.int .u8)) rfl (by simp) hpn hpb (ints_oneCell .u8 _) (by unfold maxLen;omega) (by omega) (by have:=HB.out.size;omega) ?_))
 intro v' w3 hown hg3 hlies;obtain⟨a',c',rfl,_⟩:=slice_shape hown;have hb1:(some w.heap.size:Option Nat)≠(Value.slice sa bs.length sc).ownBlock:=fun e=>by
  have h3:=HF.out.sb.2 w.heap.size e.symm;have:=(HD.out.own w.heap.size (by rw[h3];simp)).2;omega
 have hx3:Held w3 w.heap.size ⟨true,sa,bs.length,sc,wh,la,0,lc,ls⟩:=(hg3.block _ (by rw[HSZ.out];omega) hb1).trans HH.out;obtain⟨d0,d1,d2,d3,d4⟩:=hx3.cells;dsimp only at d0 d1 d2 d3 d4;have f1:=frozen_row (i:=1) hx3;have f4:=frozen_row (i:=4) hx3;have HX3:=hid hx3;have HOWN:=hid hown;have HG3:=hid hg3;have HLIES:=hid hlies;have HB1:=hid hb1;clear hx3 hown hg3 hlies hb1 hrow hpb hpn c0 c1 c2 c3 c4;go_wp2
 obtain⟨W5,hW5⟩: ∃W5,W5=((w3.setCell ⟨w.heap.size,1,none⟩ (.slice a' (bs.length+zs.length) c')).setCell ⟨w.heap.size,4,none⟩ (.bool true)):=⟨_,rfl⟩;rw[←hW5];have hx5:Held W5 w.heap.size ⟨true,a',bs.length+zs.length,c',wh,la,0,lc,true⟩:=by
  rw[hW5];exact cells_set (cells_set HX3.out 1 _) 4 _
 have hg35:w3.grownBy W5 (some w.heap.size):=by
  rw[hW5];exact(World.grownBy_setCell _ _ _ _).andThen (World.grownBy_setCell _ _ _ _) (fun j e=> .inr e)
 have hgw:w.grownBy W5 (Value.slice sa bs.length sc).ownBlock:=
  ((World.grownBy_below HB.out _).andThen HG3.out (fun j e=> .inr e)).andThen hg35 (fun j e=>by cases e;exact .inl (Nat.le_refl _))
 have hrow5:W5.ownsRow B 5 1 (.slice a' (bs.length+zs.length) c') (bs.length+zs.length) (bs.map (Value.int .u8)++zs.map (Value.int .u8)):=
  HOWN.out.kept hg35 (.inr fun e=>by
   rcases HLIES.out with h1 | h1
   ·exact HB1.out (by rw[←h1,e])
   ·rw[e,HSZ.out] at h1;simp at h1)
 have HTAG:=hid (fun k (e:(Value.slice sa bs.length sc).ownBlock=some k)=>HF.out.sb.2 k e);have hok5:((M.at l).sure.app zs).ok:=Ver.app_ok HF.out.ok.1 (by rw[←HBS.out];exact hzl) HPR.out;obtain⟨o',hd5,hf5,hfree⟩:=HD.out.appSure HF.out HL.out hok5 (W:=W5.drew) (hgw.andThen (World.grownBy_drew W5 none) (fun j e=>by cases e))
  (show Row W5.drew B ((M.at l).sure.bs++zs) (.slice a' (bs.length+zs.length) c') by rw[←HBS.out];unfold Row;simpa using ownsRow_keep (w':=W5.drew) hrow5 (fun k e=>rfl)) (HLIES.out.imp id fun h=>⟨_,h,by rw[HSZ.out];omega⟩)
 clear hrow5 hg35 hok5;obtain⟨w',hrun5,hd',hg',hs'⟩:=hd5.store hf5 (by unfold maxLen;omega) (by unfold maxLen;omega);simp only[mkV] at hrun5;obtain⟨c0,c1,c2,c3,c4⟩:=hx5.cells;dsimp only at c0 c1 c2 c3 c4;have cg:W5.cell? ⟨g,0,none⟩=some (.map (some b)):=hd5.cell;have HDD:=hid hd';have HG':=hid hg';have HGW:=hid (hgw.andThen (World.grownBy_drew W5 none) (fun j e=>by cases e));have HFR:=hid hfree;clear hd' hg' hgw hfree hs' hd5 hf5 hx5 hW5;go_still_tail 6,(by kernel_rfl)
 change wpList _ _ _ _ _ W5.drew;generalize hWd:W5.drew=W6 at hrun5 HG' HGW ⊢;clear hWd c0 c1 c2 c3 c4 cg;go_wp2
 go_ret
 exact⟨rfl,o',⟨b,_,HDD.out⟩,.turned HGW.out (fun k e=>by rw[HTAG.out k e];simp) HG'.out HD.out.ob (fun k hk e _=>HFR.out k hk e)⟩
end Go.Proofs.YtalfbcbnljhldaaGreatDoor
