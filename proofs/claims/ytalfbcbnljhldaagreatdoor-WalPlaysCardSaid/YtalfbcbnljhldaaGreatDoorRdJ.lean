/-  -/
import Derived.Test.YtalfbcbnljhldaaGreatDoorMaj
import Derived.Test.YtalfbcbnljhldaaGreatDoorMae
import Derived.Laws.Slices
import Derived.Sort.Walk0
import Derived.Lib.Bytes
set_option linter.unusedSimpArgs false
namespace Go.Proofs.YtalfbcbnljhldaaGreatDoor
open Go.Lib (hid)
open Go.RowKit Go.Maps Dsk Rd
namespace Rd
theorem addNone (b q i:Nat):(⟨b,q,none⟩:Addr).add i=⟨b,q+i,none⟩:=by
 unfold Addr.add;split
 ·subst i;rfl
 ·rfl
def FilesAt (W:World) (a:Option Addr) (G:List FC):Prop:= ∃q o,(G≠ []→a=some ⟨q,o,none⟩)∧ ∀j u,(fileCells G)[j]?=some u→q<W.heap.size∧W.cell? ⟨q,o+j,none⟩=some u
theorem FilesAt.below {W W':World} {a:Option Addr} {G:List FC} (h:FilesAt W a G) (hb:Below W.heap.size W W'):FilesAt W' a G:=by
 obtain⟨q,o,h1,h2⟩:=h;exact⟨q,o,h1,fun j u hu=>⟨Nat.lt_of_lt_of_le (h2 j u hu).1 hb.size,(hb.cell (p:=⟨q,o+j,none⟩) (h2 j u hu).1).trans (h2 j u hu).2⟩⟩
theorem undF:Tryz.prog.underlying 27=some (.slice (Tryz.prog.elem 27)):=by kernel_rfl
theorem sizeF (W:World):(sizeOf (Tryz.prog.elem 27)).run Tryz.prog W= .ok 5 W:=by
 have h:(Tryz.prog.info? 106).map (fun i=>i.size)=some 5:=by kernel_rfl
 obtain⟨i,hi,hs⟩:=Option.map_eq_some_iff.1 h;simp [sizeOf,typeInfo,hi,hs,go_sem]
def restA (a:Option Addr) (c lo:Nat):Option Addr:=if c=lo then a else a.map (·.add (lo*5))
theorem cutF_h {a:Option Addr} {n c hi:Nat} (hh:hi≤c) (W:World):
  (Instr.slice 27 (.slice a n c) none (some (.int .i64 (hi:Int))) none).run Tryz.prog W= .ok (.slice a hi c) W:=by
 rw[run_slice_h _ _ _ _ _ undF _ _ (by omega) (by omega),sizeF];simp [go_sem]
theorem cutF_l {a:Option Addr} {n c lo:Nat} (hh:lo≤n) (W:World):
  (Instr.slice 27 (.slice a n c) (some (.int .i64 (lo:Int))) none none).run Tryz.prog W= .ok (.slice (restA a c lo) (n - lo) (c - lo)) W:=by
 rw[run_slice_l _ _ _ _ _ undF _ _ (by omega) (by omega),sizeF];simp [go_sem,restA]
theorem FilesAt.take {W:World} {a:Option Addr} {F:List FC} (h:FilesAt W a F) (i:Nat):FilesAt W a (F.take i):=by
 obtain⟨q,o,h1,h2⟩:=h;refine⟨q,o,fun hne=>h1 fun e=>hne (by rw[e,List.take_nil]),fun j u hu=>h2 j u ?_⟩;rw[←fileCells_take] at hu;rw[List.getElem?_take] at hu;split at hu
 ·exact hu
 ·cases hu
theorem FilesAt.drop {W:World} {a:Option Addr} {F:List FC} {c:Nat} (h:FilesAt W a F) (i:Nat) (hc:F.length≤c):FilesAt W (restA a c i) (F.drop i):=by
 obtain⟨q,o,h1,h2⟩:=h;refine⟨q,o+i*5,fun hne=>?_,fun j u hu=>?_⟩
 ·have hl:i<F.length:=by
   rcases Nat.lt_or_ge i F.length with h | h
   ·exact h
   ·exact absurd (List.drop_eq_nil_of_le h) hne
  have e:=h1 fun e=>by rw[e] at hl;simp at hl
  unfold restA;rw[if_neg (by omega),e,Option.map_some,addNone]
 ·rw[←fileCells_drop] at hu
  rw[List.getElem?_drop] at hu;have:=h2 _ u hu;rw[show o+i*5+j=o+(i*5+j) by omega];exact this
theorem run_filesA {W:World} {B0:Nat} {v:Value} {F G:List FC} (h:W.ownsRow B0 106 5 v F.length (fileCells F)) (hl:F.length+G.length≤1000000000) (hB:B0≤W.heap.size) {ao:Option Addr} {m c:Nat} (hm:m=G.length)
  (hone: ∀c∈G,c.vb.oneCell'=true∧c.vl.oneCell'=true) (hz:FilesAt W ao G) (hn:ao=none→m=0∧c=0):
  ∃v' W',(Builtin.append_ #[27,27] 27 #[v,.slice ao m c]).run Tryz.prog W= .ok v' W'∧W'.ownsRow B0 106 5 v' (F++G).length (fileCells (F++G))∧W.grownBy W' v.ownBlock:=by
 subst hm;obtain⟨i0,hi,hz0,hz1,hz2⟩:=info_parts info_file;obtain⟨v',W',hrun,hown,hg,_⟩:=run_append_lies (P:=Tryz.prog) W B0 27 27 106 i0 _ 5 80 Tryz.underlying27 hi hz0 hz1 hz2 rfl (by decide) v F.length _ h ao G.length c (fileCells G) (fileCells_len G) hn (fun ad e j u hu=>by
  obtain⟨q,o,h1,h2⟩:=hz;have hne:G≠ []:=fun e2=>by rw[e2] at hu;simp [fileCells] at hu
  rw[h1 hne] at e;cases e;rw[addNone];exact(h2 j u hu).2) (oneF G hone) (by unfold maxLen;omega) (by omega) hB
 refine⟨v',W',hrun,?_,hg⟩;rw[List.length_append,fileCells_append];exact hown
section
variable {w w':World} {B g:Nat} {S:Nat→Prop} {F F':List FC}
def FC.zero (nm:Name):FC:=⟨nm,RFil.zero,.slice none 0 0,.slice none 0 0⟩
theorem FC.zero_at (nm:Name) (w:World) (B:Nat) (S:Nat→Prop):(FC.zero nm).At w B S:=
 ⟨⟨World.ownsRow_nil _ _ _ _,fun k e=>by cases e⟩,⟨[],rfl,World.ownsRow_nil _ _ _ _,fun i hi=>absurd hi (by simp [FC.zero,RFil.zero])⟩,fun k e=>by cases e⟩
theorem RDisk.renew {v:Value} {base:Nat} (h:RDisk w B S g F) (hap:Apart S w w') (hd:w'.heap[g]?=some (.cells #[v] 29 (0,0))) (hbase:w.heap.size≤base)
  (hrow:w'.ownsRow base 106 5 v F'.length (fileCells F')) (hk: ∀k,k<w.heap.size→k≠g→w'.heap[k]?=w.heap[k]?) (hF: ∀c∈F',c∈F∨ ∃nm,c=FC.zero nm) (hp:F'.Pairwise fun c d=> ∀k,c.vl.ownBlock=some k→d.vl.ownBlock≠some k):
  RDisk w' B (More S w w') g F':=by
 have hg:=h.hS g h.hg;have hgc: ∃v0,w.heap[g]?=some (.cells #[v0] 29 (0,0)):=by obtain⟨v0,h1,_⟩:=h.disk;exact⟨v0,h1⟩
 obtain⟨v0,hgc⟩:=hgc;refine⟨⟨v,hd,ownsRow_less hrow (by omega),fun k e=> .inr ?_⟩,fun c hc=>?_,hp,fun k hs=>?_,.inl h.hg⟩
 ·have:=World.ownsRow.lt hrow k e;omega
 ·rcases hF c hc with hc | ⟨nm,rfl⟩
  ·refine(h.files c hc).keepT (fun k cs ty fr hs hcs hty=>hk k (h.hS k hs).2 fun e=>?_) fun k hs=> .inl hs
   subst e;rw[hgc] at hcs;cases hcs;rcases hty with h | h<;>cases h
  ·exact FC.zero_at nm _ _ _
 ·rcases hs with hs | ⟨h1,h2⟩
  ·exact⟨(h.hS k hs).1,Nat.lt_of_lt_of_le (h.hS k hs).2 hap.size⟩
  ·exact⟨by omega,h2⟩
def insF (F:List FC) (nm:Name):List FC:=F.take (posL (absF F) nm)++ [FC.zero nm]++F.drop (posL (absF F) nm)
theorem insF_abs (F:List FC) (nm:Name):absF (insF F nm)=insL (absF F) nm:=by
 unfold insF insL absF FC.zero;simp [List.map_take,List.map_drop]
theorem insF_mem {F:List FC} {nm:Name} {c:FC} (h:c∈insF F nm):c∈F∨ ∃n,c=FC.zero n:=by
 unfold insF at h;rcases List.mem_append.1 h with h | h
 ·rcases List.mem_append.1 h with h | h
  ·exact .inl (List.mem_of_mem_take h)
  ·simp at h;exact .inr ⟨nm,h⟩
 ·exact .inl (List.mem_of_mem_drop h)
theorem insF_apart {F:List FC} (nm:Name) (h:F.Pairwise fun c d=> ∀k,c.vl.ownBlock=some k→d.vl.ownBlock≠some k):(insF F nm).Pairwise fun c d=> ∀k,c.vl.ownBlock=some k→d.vl.ownBlock≠some k:=by
 unfold insF;have h2:=h;rw[←List.take_append_drop (posL (absF F) nm) F,List.pairwise_append] at h2;rw[List.pairwise_append,List.pairwise_append];refine⟨⟨h2.1,by simp,fun a _ b hb k _ e=>by simp at hb;subst hb;cases e⟩,h2.2.1,fun a ha b hb k e1 e2=>?_⟩;rcases List.mem_append.1 ha with ha | ha
 ·exact h2.2.2 a ha b hb k e1 e2
 ·simp at ha;subst ha;cases e1
theorem RDisk.rowA (h:RDisk w B S g F): ∃a c,w.heap[g]?=some (.cells #[.slice a F.length c] 29 (0,0))∧FilesAt w a F∧(a=none→F.length=0∧c=0)∧F.length≤c∧(∀x,a=some x→S x.block):=by
 obtain⟨v,h1,h2,h3⟩:=h.disk;rcases h2.2 with⟨rfl,hn⟩ | ⟨q,cap,cur,rfl,hB,hg,hc,_,_,ht⟩
 ·have hF:F= []:=List.eq_nil_of_length_eq_zero hn
  refine⟨none,0,by rw[hn];exact h1,⟨0,0,fun e=>absurd hF e,fun j u hu=>?_⟩,fun _=>⟨hn,rfl⟩,by omega,fun x e=>by cases e⟩;rw[hF] at hu;simp [fileCells] at hu
 ·refine⟨some ⟨q,0,none⟩,cap,h1,⟨q,0,fun _=>rfl,fun j u hu=>⟨(Array.getElem?_eq_some_iff.1 hg).1,?_⟩⟩,(fun e=>by cases e),hc,fun x e=>by cases e;exact h3 q rfl⟩
  rw[Nat.zero_add,cell_of_row _ _ j _ _ _ hg];have hj:j<F.length*5:=by
   have:=(List.getElem?_eq_some_iff.1 hu).1;rw[fileCells_len] at this;exact this
  rw[←ht,List.getElem?_take_of_lt hj] at hu;rw[←Array.getElem?_toList];exact hu
theorem less_of {a b:Name} (h:a<b):Op.bytesLess a b=true:=by
 rw[Go.Proofs.bytesLess_eq];exact decide_eq_true h
theorem less_not {a b:Name} (h: ¬a<b):Op.bytesLess a b=false:=by
 rw[Go.Proofs.bytesLess_eq];exact decide_eq_false h
theorem at_end {w u3:World} {B g base:Nat} {S:Nat→Prop} {F:List FC} {nm:Name} {v2 v00:Value} (h:RDisk w B S g F) (hb:Below w.heap.size w u3) (hgd:w.heap[g]?=some (.cells #[v00] 29 (0,0)))
  (hr:u3.ownsRow base 106 5 v2 (insF F nm).length (fileCells (insF F nm))) (hbase:w.heap.size≤base):
  Apart S w (u3.setCell ⟨g,0,none⟩ v2)∧RDisk (u3.setCell ⟨g,0,none⟩ v2) B (More S w (u3.setCell ⟨g,0,none⟩ v2)) g (insF F nm):=by
 have hg:=h.hS g h.hg;have hne: ∀k,k≠g→(u3.setCell ⟨g,0,none⟩ v2).heap[k]?=u3.heap[k]?:=fun k hk=>Below.heap_setCell _ _ _ _ hk;have hsz:(u3.setCell ⟨g,0,none⟩ v2).heap.size=u3.heap.size:=by simp [World.setCell]
 have hap:Apart S w (u3.setCell ⟨g,0,none⟩ v2):=⟨hb.os,hb.tape,hb.output,by rw[hsz];exact hb.size,fun k hk hn=>(hne k fun e=>hn (e ▸ h.hg)).trans (hb.block k hk)⟩;have hg3:Boxed u3 g 29 v00:=(hb.block g hg.2).trans hgd;refine⟨hap,h.renew hap (Boxed.set v2 hg3) hbase (ownsRow_keepT hr fun k cs fr e hc=>hne k fun e2=>?_) (fun k hk hkg=>(hne k hkg).trans (hb.block k hk)) (fun c hc=>insF_mem hc) (insF_apart nm h.apart)⟩;subst e2;have:=(World.ownsRow.lt hr k e).1;omega
set_option maxRecDepth 100000 in
set_option maxHeartbeats 8000000 in
theorem at_new (h:RDisk w B S g F) (hF:F.length≤900000000) (nm:Name) (hp:placeOf F nm= -1):
  Calls Tryz.prog 55 #[.pointer (some ⟨g,0,none⟩),.string ⟨nm.toArray⟩] w fun e w'=>e= .returned (.int .i64 (posL (absF F) nm:Int))∧Apart S w w'∧RDisk w' B (More S w w') g (insF F nm):=by
 have HPL:=hid (place_any h (by omega) nm);rw[hp] at HPL;obtain⟨p,hpos⟩: ∃p,p=posL (absF F) nm:=⟨_,rfl⟩;have hle:p≤F.length:=by have:=posL_le (absF F) nm;rw[hpos];simpa [absF] using this
 have HLT:=hid (show∀j (hj:j<F.length),j<p→F[j].n<nm from fun j hj hjp=>by
  have:=posL_lt (absF F) nm (j:=j) (by omega) (by simpa [absF] using hj);simpa [absF] using this)
 have HNOT:=hid (show∀(hj:p<F.length),¬F[p].n<nm from fun hj=>by
  subst hpos;have:=posL_not (absF F) nm (by simpa [absF] using hj);simpa [absF] using this)
 obtain⟨a,c,hd,hfa,hna,hfc,hSa⟩:=h.rowA;obtain⟨n,hn⟩: ∃n,n=F.length:=⟨_,rfl⟩;have hcell:w.cell? ⟨g,0,none⟩=some (.slice a n c):=by rw[cell_of_row _ _ 0 _ _ _ hd,hn];rfl
 have HD:=hid h;have HFA:=hid hfa;have HNA:=hid hna;have HGD:=hid hd;have HC:=hid hcell;have HN:=hid hn;have HFC:=hid hfc;have HPOS:=hid hpos;have HN9:=hid (show n≤900000000 by omega);have HLE:=hid (show p≤n by omega);have hg:=h.hS g h.hg;rw[←hpos];have HGW:=hid hg;clear h hfa hna hd hn hfc hpos hF hle hSa hg hp;go_enter Tryz.func55,Tryz.ntmps55
 go_wp2_with fail
 refine HPL.out.mono ?_;rintro e w1 ⟨rfl,rfl⟩;clear HPL;go_wp2_with fail
 go_loopw [5] (fun v5 wr=> ∃i:Nat,v5= .int .i64 (i:Int)∧i≤p∧wr=w1) (fun v5 _=>p - (intOf v5).toNat)
 case atStart=>exact⟨0,rfl,Nat.zero_le _,rfl⟩
 case round=>
  obtain⟨i,rfl,hi,rfl⟩:=hrel;by_cases hip:i<p
  ·have hin:i<F.length:=by have:=HLE.out;have:=HN.out;omega
   have d1:decide ((i:Int)<(n:Int))=true:=decide_eq_true (by have:=HN.out;omega);have d2:i<n:=by have:=HN.out;omega
   obtain⟨q,o,h1,h2⟩:=HFA.out;have ea:=h1 fun e=>by rw[e] at hin;simp at hin
   have hx:=(h2 _ _ (fileCells_at F i hin).1).2;have hlx:=less_of (HLT.out i hin hip);obtain⟨y,hy⟩: ∃y,y=F[i].n:=⟨_,rfl⟩;rw[←hy] at hx hlx;have hc:=HC.out;rw[ea] at hc;have hb0:(0:Int)≤i:=by omega
   have hb1:(i:Int)≤900000000:=by have:=HN9.out;omega
   clear hy h1 h2 ea hcell;go_wp2_with fail
   go_roundw
   case rel=>exact⟨i+1,by go_num,hip,trivial⟩
   case measure=>simp [intOf];omega
  ·obtain rfl:i=p:=by omega
   by_cases hin:i<n
   ·have hinF:i<F.length:=by rw[←HN.out];exact hin
    have d1:decide ((i:Int)<(n:Int))=true:=decide_eq_true (by omega);obtain⟨q,o,h1,h2⟩:=HFA.out;have ea:=h1 fun e=>by rw[e] at hinF;simp at hinF
    subst ea;have hx:=(h2 _ _ (fileCells_at F i hinF).1).2;have hlx:=less_not (HNOT.out hinF);obtain⟨y,hy⟩: ∃y,y=F[i].n:=⟨_,rfl⟩;rw[←hy] at hx hlx;have hc:=HC.out;have hb0:(0:Int)≤i:=by omega
    have hb1:(i:Int)≤900000000:=by have:=HN9.out;omega
    clear hy h1 h2 hcell;go_wp2_with fail
    obtain⟨u,hu⟩: ∃u,u=wr.drew:=⟨_,rfl⟩;have HBu:=hid (show Below wr.heap.size wr u by rw[hu];exact(Below.refl _ _).drew);refine wp_region_heldM_drew 22 (S:=fun W=>W.cell? ⟨g,0,none⟩=some (.slice (some ⟨q,o,none⟩) n c)) (by kernel_rfl) (by rw[←hu];exact stays' HBu.out HC.out) (fun hHeld=>?_);rw[←hu] at hHeld ⊢;clear hu;have HCH:=hid (fun W=>cutF_h (a:=(some ⟨q,o,none⟩)) (n:=n) (c:=c) (hi:=i) (by have:=HFC.out;have:=HLE.out;have:=HN.out;omega) W);have HCL:=hid (fun W=>cutF_l (a:=(some ⟨q,o,none⟩)) (n:=n) (c:=c) (lo:=i) HLE.out W);obtain⟨ra,hra⟩: ∃x,x=restA (some ⟨q,o,none⟩) c i:=⟨_,rfl⟩;rw[←hra] at HCL;have HRA:=hid hra;have HUu:=hid (Below.refl u.heap.size u);have HCK:=hid (fun W (hW:Below u.heap.size u W)=>stays' hW (stays' HBu.out HC.out));have HFU:=hid (fun W (hW:Below u.heap.size u W)=>(HFA.out.below HBu.out).below hW);have HONE:=hid (show∀d∈F,d.vb.oneCell'=true∧d.vl.oneCell'=true from fun d hd=>by
     obtain⟨a1,c1,z1,_⟩:=slice_shape (HD.out.files d hd).row.choose_spec.2.1;obtain⟨a2,c2,z2,_⟩:=slice_shape (HD.out.files d hd).bts.1;rw[z1,z2];exact⟨rfl,rfl⟩)
    clear hra hc;refine zkM 0 (v:=?_) (h2:=?_) (h:=?_);rotate_left;focus (intro W hS;(try dsimp only at hS);go_simp;(try with_reducible rfl))
    try simp only[Act.put,zsA,zsS,zsZ]
    refine zkM 2 (v:=?_) (h2:=?_) (h:=?_);rotate_left;focus (intro W hS;(try dsimp only at hS);go_simp;(try with_reducible rfl))
    try simp only[Act.put,zsA,zsS,zsZ]
    refine zkM 3 (v:=?_) (h2:=?_) (h:=?_);rotate_left;focus (intro W hS;(try dsimp only at hS);go_simp;(try with_reducible rfl))
    try simp only[Act.put,zsA,zsS,zsZ]
    refine zkM 4 (v:=?_) (h2:=?_) (h:=?_);rotate_left;focus (intro W hS;(try dsimp only at hS);go_simp;(try with_reducible rfl))
    try simp only[Act.put,zsA,zsS,zsZ]
    refine zkM 5 (v:=?_) (h2:=?_) (h:=?_);rotate_left;focus (intro W hS;(try dsimp only at hS);go_simp;(try with_reducible rfl))
    try simp only[Act.put,zsA,zsS,zsZ]
    refine zkM 6 (v:=?_) (h2:=?_) (h:=?_);rotate_left;focus (intro W hS;(try dsimp only at hS);go_simp;(try with_reducible rfl))
    try simp only[Act.put,zsA,zsS,zsZ]
    refine zkM 7 (v:=?_) (h2:=?_) (h:=?_);rotate_left;focus (intro W hS;(try dsimp only at hS);have e1:=HCH.out W;go_simp;(try with_reducible rfl))
    try simp only[Act.put,zsA,zsS,zsZ]
    refine zkM 9 (v:=?_) (h2:=?_) (h:=?_);rotate_left;focus (intro W hS;(try dsimp only at hS);go_simp;(try with_reducible rfl))
    try simp only[Act.put,zsA,zsS,zsZ]
    refine zkM 10 (v:=?_) (h2:=?_) (h:=?_);rotate_left;focus (intro W hS;(try dsimp only at hS);go_simp;(try with_reducible rfl))
    try simp only[Act.put,zsA,zsS,zsZ]
    refine zkM 13 (v:=?_) (h2:=?_) (h:=?_);rotate_left;focus (intro W hS;(try dsimp only at hS);go_simp;(try with_reducible rfl))
    try simp only[Act.put,zsA,zsS,zsZ]
    refine zkM 14 (v:=?_) (h2:=?_) (h:=?_);rotate_left;focus (intro W hS;(try dsimp only at hS);go_simp;(try with_reducible rfl))
    try simp only[Act.put,zsA,zsS,zsZ]
    refine zkM 15 (v:=?_) (h2:=?_) (h:=?_);rotate_left;focus (intro W hS;(try dsimp only at hS);go_simp;(try with_reducible rfl))
    try simp only[Act.put,zsA,zsS,zsZ]
    refine zkM 16 (v:=?_) (h2:=?_) (h:=?_);rotate_left;focus (intro W hS;(try dsimp only at hS);go_simp;(try with_reducible rfl))
    try simp only[Act.put,zsA,zsS,zsZ]
    refine zkM 17 (v:=?_) (h2:=?_) (h:=?_);rotate_left;focus (intro W hS;(try dsimp only at hS);go_simp;(try with_reducible rfl))
    try simp only[Act.put,zsA,zsS,zsZ]
    refine zkM 18 (v:=?_) (h2:=?_) (h:=?_);rotate_left;focus (intro W hS;(try dsimp only at hS);have e1:=HCL.out W;go_simp;(try with_reducible rfl))
    try simp only[Act.put,zsA,zsS,zsZ]
    refine wpAnyM_ready (rs:= [1,11]) (by kernel_rfl) (by simp) ?_;refine AllReadyM.cons (o:=?_) ?_ rfl (fun K hK=>?_) ?_;rotate_left;focus (simp only[zgT,zgS,zgZ];rfl)
    rw[if_pos (by rfl)]
    ·go_simp
     obtain⟨g0,hg0⟩: ∃x,x=u.heap.size:=⟨_,rfl⟩;obtain⟨ue,he⟩: ∃x,x=u.alloc (.cells #[] 106):=⟨_,rfl⟩;have hr0:ue.ownsRow u.heap.size 106 5 (.slice (some ⟨g0,0,none⟩) 0 0) ([]:List FC).length (fileCells []):=by rw[he,hg0];exact World.ownsRow_lit u #[] 0 HUu.out.size (Nat.zero_le _) rfl
     have hal:Below u.heap.size u ue:=by rw[he];exact(Below.refl _ _).alloc (Nat.le_refl _) _
     have hb1:Below u.heap.size u ue:=HUu.out.trans (hal.mono HUu.out.size);rw[←hg0,←he];have HR0:=hid hr0;have HUue:=hid hb1;have hs:=HCK.out _ hb1;clear hr0 hal hb1 hg0 he;refine hK.out _ _ hs (fun hHeld=>?_);clear hK K;try simp only[Act.put,zsA,zsS,zsZ]
     refine wpAnyM_ready (rs:= [8,11]) (by kernel_rfl) (by simp) ?_;refine AllReadyM.cons (o:=?_) ?_ rfl (fun K hK=>?_) ?_;rotate_left;focus (simp only[zgT,zgS,zgZ];rfl)
     rw[if_pos (by rfl)]
     ·obtain⟨v1,uep,hrun,hr1,hg1⟩:=run_filesA (ao:=(some ⟨q,o,none⟩)) (m:=i) (c:=c) HR0.out (G:=F.take i) (by rw[List.length_take];have:=HN.out;have:=HN9.out;simp;omega) HUue.out.size (by rw[List.length_take];have:=HLE.out;have:=HN.out;omega) (fun d hd=>HONE.out d (List.mem_of_mem_take hd)) ((HFU.out _ HUue.out).take i) (fun e=>by have:=HNA.out e;have:=HLE.out;have:=HN.out;omega)
      rw[List.nil_append] at hr1;refine wp_append_runR rfl rfl rfl hrun ?_;have hb1:=HUue.out.grown hg1 HUue.out.size fun k e=>(World.ownsRow.lt HR0.out k e).1;have HUuep:=hid hb1;have HR1:=hid hr1;have hs:=HCK.out _ hb1;clear hrun hr1 hg1 hb1;refine hK.out _ _ hs (fun hHeld=>?_);clear hK K;try simp only[Act.put,zsA,zsS,zsZ]
      refine zrM 11 (h:=fun K hK=>?_);rw[if_pos (by rfl)];go_simp
      obtain⟨gl,hgl⟩: ∃x,x=uep.heap.size:=⟨_,rfl⟩;obtain⟨uepl,he⟩: ∃x,x=uep.alloc (.cells #[.string ⟨nm.toArray⟩,.bool false,.slice none 0 0,.slice none 0 0,.bool false] 106):=⟨_,rfl⟩;have hal:Below uep.heap.size uep uepl:=by rw[he];exact(Below.refl _ _).alloc (Nat.le_refl _) _
      have hb1:Below u.heap.size u uepl:=HUuep.out.trans (hal.mono HUuep.out.size);have hl:FilesAt uepl (some ⟨gl,0,none⟩) [FC.zero nm]:=⟨gl,0,fun _=>rfl,fun j x hj=>by
       have hrow:uepl.heap[gl]?=some (.cells #[.string ⟨nm.toArray⟩,.bool false,.slice none 0 0,.slice none 0 0,.bool false] 106 (0,0)):=by rw[he,hgl];exact heap_alloc_new uep _
       refine⟨(Array.getElem?_eq_some_iff.1 hrow).1,?_⟩;rw[Nat.zero_add,cell_of_row _ _ j _ _ _ hrow,←hj,List.getElem?_toArray];rfl⟩
      have HGL:=hid (show gl<uepl.heap.size by rw[he,hgl];simp);rw[←hgl,←he];have HLuepl:=hid hl;have HUuepl:=hid hb1;have hs:=HCK.out _ hb1;have HR1:=hid (ownsRow_keep HR1.out fun k e=>hal.block k (World.ownsRow.lt HR1.out k e).2);clear hal hb1 hl hgl he;refine hK.out _ _ hs (fun hHeld=>?_);clear hK K;try simp only[Act.put,zsA,zsS,zsZ]
      refine zrM 12 (h:=fun K hK=>?_);rw[if_pos (by rfl)];obtain⟨v2,ueplq,hrun,hr2,hg2⟩:=run_filesA (ao:=some ⟨gl,0,none⟩) (m:=1) (c:=1) HR1.out (G:= [FC.zero nm]) (by rw[List.length_take];have:=HN.out;have:=HN9.out;simp;omega) HUuepl.out.size rfl (fun d hd=>by simp at hd;subst hd;exact⟨rfl,rfl⟩) HLuepl.out (fun e=>by cases e);refine wp_append_runR rfl rfl rfl hrun ?_;have hb1:=HUuepl.out.grown hg2 HUuepl.out.size fun k e=>(World.ownsRow.lt HR1.out k e).1;have HUueplq:=hid hb1;have HR2:=hid hr2;have hs:=HCK.out _ hb1;clear hrun hr2 hg2 hb1;refine hK.out _ _ hs (fun hHeld=>?_);clear hK K;try simp only[Act.put,zsA,zsS,zsZ]
      refine zrM 19 (h:=fun K hK=>?_);rw[if_pos (by rfl)];obtain⟨v3,ueplqr,hrun,hr3,hg3⟩:=run_filesA (ao:=ra) (m:=n - i) (c:=c - i) HR2.out (G:=F.drop i) (by rw[List.length_append,List.length_take,List.length_drop];have:=HN.out;have:=HN9.out;have:=HLE.out;simp;omega) HUueplq.out.size (by rw[List.length_drop,HN.out]) (fun d hd=>HONE.out d (List.mem_of_mem_drop hd)) (by rw[HRA.out];exact(HFU.out _ HUueplq.out).drop i HFC.out) (fun e=>by
       rw[HRA.out] at e;unfold restA at e;have:=HFC.out;have:=HLE.out;have:=HN.out;split at e
       ·omega
       ·have:=HNA.out (Option.map_eq_none_iff.1 e)
        omega)
      refine wp_append_runR rfl rfl rfl hrun ?_;have hb1:=HUueplq.out.grown hg3 HUueplq.out.size fun k e=>(World.ownsRow.lt HR2.out k e).1;have HUueplqr:=hid hb1;have hins:insF F nm=F.take i++ [FC.zero nm]++F.drop i:=by rw[HPOS.out];rfl
      rw[←hins] at hr3;have HR3:=hid hr3;obtain⟨a3,c3,hv3,_⟩:=slice_shape hr3;have hs:=HCK.out _ hb1;clear hrun hr3 hg3 hb1 hins;refine hK.out _ _ hs (fun hHeld=>?_);clear hK K;try simp only[Act.put,zsA,zsS,zsZ]
      refine zrM 20 (h:=fun K hK=>?_);rw[if_pos (by rfl)];go_simp
      have hs2:=HCK.out _ HUueplqr.out;refine hK.out _ _ hs2 (fun hHeld=>?_);clear hK K;try simp only[Act.put,zsA,zsS,zsZ]
      refine zkM 21 (v:=?_) (h2:=?_) (h:=?_);rotate_left;focus (intro W hS;(try dsimp only at hS);go_simp;(try with_reducible rfl))
      try simp only[Act.put,zsA,zsS,zsZ]
      refine zrL 22 (h:=fun K hK=>?_);rw[if_pos (by rfl)];have hbw:=HBu.out.trans (HUueplqr.out.mono HBu.out.size);have hgf:ueplqr.frozen? ⟨g,0,none⟩=false:=by
       have h1:=(hbw.block g HGW.out.2).trans HGD.out;simp [World.frozen?,h1]
      have hgc:=HCK.out _ HUueplqr.out;have HEND:=hid (at_end HD.out hbw HGD.out HR3.out HBu.out.size);subst hv3;obtain⟨n3,hn3⟩: ∃x,(insF F nm).length=x:=⟨_,rfl⟩;rw[hn3] at HEND ⊢;go_simp
      clear hgf hgc hn3 hbw;refine hK.out _ _ ?_;clear hK K;try simp only[Act.put,zsA,zsS,zsZ]
      go_wp2_with fail
      go_ret
      exact⟨rfl,HEND.out.1,HEND.out.2⟩
     refine AllReadyM.cons (o:=?_) ?_ rfl (fun K hK=>?_) AllReadyM.nil;rotate_left;focus (simp only[zgT,zgS,zgZ];rfl)
     rw[if_pos (by rfl)];go_simp
     obtain⟨gl,hgl⟩: ∃x,x=ue.heap.size:=⟨_,rfl⟩;obtain⟨uel,he⟩: ∃x,x=ue.alloc (.cells #[.string ⟨nm.toArray⟩,.bool false,.slice none 0 0,.slice none 0 0,.bool false] 106):=⟨_,rfl⟩;have hal:Below ue.heap.size ue uel:=by rw[he];exact(Below.refl _ _).alloc (Nat.le_refl _) _
     have hb1:Below u.heap.size u uel:=HUue.out.trans (hal.mono HUue.out.size);have hl:FilesAt uel (some ⟨gl,0,none⟩) [FC.zero nm]:=⟨gl,0,fun _=>rfl,fun j x hj=>by
      have hrow:uel.heap[gl]?=some (.cells #[.string ⟨nm.toArray⟩,.bool false,.slice none 0 0,.slice none 0 0,.bool false] 106 (0,0)):=by rw[he,hgl];exact heap_alloc_new ue _
      refine⟨(Array.getElem?_eq_some_iff.1 hrow).1,?_⟩;rw[Nat.zero_add,cell_of_row _ _ j _ _ _ hrow,←hj,List.getElem?_toArray];rfl⟩
     have HGL:=hid (show gl<uel.heap.size by rw[he,hgl];simp);rw[←hgl,←he];have HLuel:=hid hl;have HUuel:=hid hb1;have hs:=HCK.out _ hb1;have HNE:=hid (show(Value.slice (some ⟨g0,0,none⟩) 0 0).ownBlock≠some gl from fun e=>by have:=(World.ownsRow.lt HR0.out _ e).2;omega);have HR0:=hid (ownsRow_keep HR0.out fun k e=>hal.block k (World.ownsRow.lt HR0.out k e).2);clear hal hb1 hl hgl he;refine hK.out _ _ hs (fun hHeld=>?_);clear hK K;try simp only[Act.put,zsA,zsS,zsZ]
     refine zrM 8 (h:=fun K hK=>?_);rw[if_pos (by rfl)];obtain⟨v1,uelp,hrun,hr1,hg1⟩:=run_filesA (ao:=(some ⟨q,o,none⟩)) (m:=i) (c:=c) HR0.out (G:=F.take i) (by rw[List.length_take];have:=HN.out;have:=HN9.out;simp;omega) HUuel.out.size (by rw[List.length_take];have:=HLE.out;have:=HN.out;omega) (fun d hd=>HONE.out d (List.mem_of_mem_take hd)) ((HFU.out _ HUuel.out).take i) (fun e=>by have:=HNA.out e;have:=HLE.out;have:=HN.out;omega);rw[List.nil_append] at hr1;refine wp_append_runR rfl rfl rfl hrun ?_;have hb1:=HUuel.out.grown hg1 HUuel.out.size fun k e=>(World.ownsRow.lt HR0.out k e).1;have HUuelp:=hid hb1;have HR1:=hid hr1;have hs:=HCK.out _ hb1;have HLuelp:=hid (show FilesAt uelp (some ⟨gl,0,none⟩) [FC.zero nm] from by
      obtain⟨q1,o1,h1,h2⟩:=HLuel.out;have e1:=h1 (by simp);cases e1;refine⟨gl,0,fun _=>rfl,fun j x hj=>?_⟩;obtain⟨r1,r2⟩:=h2 j x hj;have hblk:=hg1.block gl r1 (fun e=>HNE.out e.symm);exact⟨Nat.lt_of_lt_of_le r1 hg1.size,by rw[←r2];exact World.cell?_of_block (w:=uel) (a:=⟨gl,0+j,none⟩) hblk⟩)
     clear hrun hr1 hg1 hb1;refine hK.out _ _ hs (fun hHeld=>?_);clear hK K;try simp only[Act.put,zsA,zsS,zsZ]
     refine zrM 12 (h:=fun K hK=>?_);rw[if_pos (by rfl)];obtain⟨v2,uelpq,hrun,hr2,hg2⟩:=run_filesA (ao:=some ⟨gl,0,none⟩) (m:=1) (c:=1) HR1.out (G:= [FC.zero nm]) (by rw[List.length_take];have:=HN.out;have:=HN9.out;simp;omega) HUuelp.out.size rfl (fun d hd=>by simp at hd;subst hd;exact⟨rfl,rfl⟩) HLuelp.out (fun e=>by cases e);refine wp_append_runR rfl rfl rfl hrun ?_;have hb1:=HUuelp.out.grown hg2 HUuelp.out.size fun k e=>(World.ownsRow.lt HR1.out k e).1;have HUuelpq:=hid hb1;have HR2:=hid hr2;have hs:=HCK.out _ hb1;clear hrun hr2 hg2 hb1;refine hK.out _ _ hs (fun hHeld=>?_);clear hK K;try simp only[Act.put,zsA,zsS,zsZ]
     refine zrM 19 (h:=fun K hK=>?_);rw[if_pos (by rfl)];obtain⟨v3,uelpqr,hrun,hr3,hg3⟩:=run_filesA (ao:=ra) (m:=n - i) (c:=c - i) HR2.out (G:=F.drop i) (by rw[List.length_append,List.length_take,List.length_drop];have:=HN.out;have:=HN9.out;have:=HLE.out;simp;omega) HUuelpq.out.size (by rw[List.length_drop,HN.out]) (fun d hd=>HONE.out d (List.mem_of_mem_drop hd)) (by rw[HRA.out];exact(HFU.out _ HUuelpq.out).drop i HFC.out) (fun e=>by
      rw[HRA.out] at e;unfold restA at e;have:=HFC.out;have:=HLE.out;have:=HN.out;split at e
      ·omega
      ·have:=HNA.out (Option.map_eq_none_iff.1 e)
       omega)
     refine wp_append_runR rfl rfl rfl hrun ?_;have hb1:=HUuelpq.out.grown hg3 HUuelpq.out.size fun k e=>(World.ownsRow.lt HR2.out k e).1;have HUuelpqr:=hid hb1;have hins:insF F nm=F.take i++ [FC.zero nm]++F.drop i:=by rw[HPOS.out];rfl
     rw[←hins] at hr3;have HR3:=hid hr3;obtain⟨a3,c3,hv3,_⟩:=slice_shape hr3;have hs:=HCK.out _ hb1;clear hrun hr3 hg3 hb1 hins;refine hK.out _ _ hs (fun hHeld=>?_);clear hK K;try simp only[Act.put,zsA,zsS,zsZ]
     refine zrM 20 (h:=fun K hK=>?_);rw[if_pos (by rfl)];go_simp
     have hs2:=HCK.out _ HUuelpqr.out;refine hK.out _ _ hs2 (fun hHeld=>?_);clear hK K;try simp only[Act.put,zsA,zsS,zsZ]
     refine zkM 21 (v:=?_) (h2:=?_) (h:=?_);rotate_left;focus (intro W hS;(try dsimp only at hS);go_simp;(try with_reducible rfl))
     try simp only[Act.put,zsA,zsS,zsZ]
     refine zrL 22 (h:=fun K hK=>?_);rw[if_pos (by rfl)];have hbw:=HBu.out.trans (HUuelpqr.out.mono HBu.out.size);have hgf:uelpqr.frozen? ⟨g,0,none⟩=false:=by
      have h1:=(hbw.block g HGW.out.2).trans HGD.out;simp [World.frozen?,h1]
     have hgc:=HCK.out _ HUuelpqr.out;have HEND:=hid (at_end HD.out hbw HGD.out HR3.out HBu.out.size);subst hv3;obtain⟨n3,hn3⟩: ∃x,(insF F nm).length=x:=⟨_,rfl⟩;rw[hn3] at HEND ⊢;go_simp
     clear hgf hgc hn3 hbw;refine hK.out _ _ ?_;clear hK K;try simp only[Act.put,zsA,zsS,zsZ]
     go_wp2_with fail
     go_ret
     exact⟨rfl,HEND.out.1,HEND.out.2⟩
    refine AllReadyM.cons (o:=?_) ?_ rfl (fun K hK=>?_) AllReadyM.nil;rotate_left;focus (simp only[zgT,zgS,zgZ];rfl)
    rw[if_pos (by rfl)];go_simp
    obtain⟨gl,hgl⟩: ∃x,x=u.heap.size:=⟨_,rfl⟩;obtain⟨ul,he⟩: ∃x,x=u.alloc (.cells #[.string ⟨nm.toArray⟩,.bool false,.slice none 0 0,.slice none 0 0,.bool false] 106):=⟨_,rfl⟩;have hal:Below u.heap.size u ul:=by rw[he];exact(Below.refl _ _).alloc (Nat.le_refl _) _
    have hb1:Below u.heap.size u ul:=HUu.out.trans (hal.mono HUu.out.size);have hl:FilesAt ul (some ⟨gl,0,none⟩) [FC.zero nm]:=⟨gl,0,fun _=>rfl,fun j x hj=>by
     have hrow:ul.heap[gl]?=some (.cells #[.string ⟨nm.toArray⟩,.bool false,.slice none 0 0,.slice none 0 0,.bool false] 106 (0,0)):=by rw[he,hgl];exact heap_alloc_new u _
     refine⟨(Array.getElem?_eq_some_iff.1 hrow).1,?_⟩;rw[Nat.zero_add,cell_of_row _ _ j _ _ _ hrow,←hj,List.getElem?_toArray];rfl⟩
    have HGL:=hid (show gl<ul.heap.size by rw[he,hgl];simp);rw[←hgl,←he];have HLul:=hid hl;have HUul:=hid hb1;have hs:=HCK.out _ hb1;clear hal hb1 hl hgl he;refine hK.out _ _ hs (fun hHeld=>?_);clear hK K;try simp only[Act.put,zsA,zsS,zsZ]
    refine zrM 1 (h:=fun K hK=>?_);rw[if_pos (by rfl)];go_simp
    obtain⟨g0,hg0⟩: ∃x,x=ul.heap.size:=⟨_,rfl⟩;obtain⟨ule,he⟩: ∃x,x=ul.alloc (.cells #[] 106):=⟨_,rfl⟩;have hr0:ule.ownsRow u.heap.size 106 5 (.slice (some ⟨g0,0,none⟩) 0 0) ([]:List FC).length (fileCells []):=by rw[he,hg0];exact World.ownsRow_lit ul #[] 0 HUul.out.size (Nat.zero_le _) rfl
    have hal:Below ul.heap.size ul ule:=by rw[he];exact(Below.refl _ _).alloc (Nat.le_refl _) _
    have hb1:Below u.heap.size u ule:=HUul.out.trans (hal.mono HUul.out.size);rw[←hg0,←he];have HR0:=hid hr0;have HUule:=hid hb1;have hs:=HCK.out _ hb1;have HLule:=hid (HLul.out.below hal);have HNE:=hid (show(Value.slice (some ⟨g0,0,none⟩) 0 0).ownBlock≠some gl from fun e=>by have:=HGL.out;simp [Value.ownBlock] at e;omega);clear hr0 hal hb1 hg0 he;refine hK.out _ _ hs (fun hHeld=>?_);clear hK K;try simp only[Act.put,zsA,zsS,zsZ]
    refine zrM 8 (h:=fun K hK=>?_);rw[if_pos (by rfl)];obtain⟨v1,ulep,hrun,hr1,hg1⟩:=run_filesA (ao:=(some ⟨q,o,none⟩)) (m:=i) (c:=c) HR0.out (G:=F.take i) (by rw[List.length_take];have:=HN.out;have:=HN9.out;simp;omega) HUule.out.size (by rw[List.length_take];have:=HLE.out;have:=HN.out;omega) (fun d hd=>HONE.out d (List.mem_of_mem_take hd)) ((HFU.out _ HUule.out).take i) (fun e=>by have:=HNA.out e;have:=HLE.out;have:=HN.out;omega);rw[List.nil_append] at hr1;refine wp_append_runR rfl rfl rfl hrun ?_;have hb1:=HUule.out.grown hg1 HUule.out.size fun k e=>(World.ownsRow.lt HR0.out k e).1;have HUulep:=hid hb1;have HR1:=hid hr1;have hs:=HCK.out _ hb1;have HLulep:=hid (show FilesAt ulep (some ⟨gl,0,none⟩) [FC.zero nm] from by
     obtain⟨q1,o1,h1,h2⟩:=HLule.out;have e1:=h1 (by simp);cases e1;refine⟨gl,0,fun _=>rfl,fun j x hj=>?_⟩;obtain⟨r1,r2⟩:=h2 j x hj;have hblk:=hg1.block gl r1 (fun e=>HNE.out e.symm);exact⟨Nat.lt_of_lt_of_le r1 hg1.size,by rw[←r2];exact World.cell?_of_block (w:=ule) (a:=⟨gl,0+j,none⟩) hblk⟩)
    clear hrun hr1 hg1 hb1;refine hK.out _ _ hs (fun hHeld=>?_);clear hK K;try simp only[Act.put,zsA,zsS,zsZ]
    refine zrM 12 (h:=fun K hK=>?_);rw[if_pos (by rfl)];obtain⟨v2,ulepq,hrun,hr2,hg2⟩:=run_filesA (ao:=some ⟨gl,0,none⟩) (m:=1) (c:=1) HR1.out (G:= [FC.zero nm]) (by rw[List.length_take];have:=HN.out;have:=HN9.out;simp;omega) HUulep.out.size rfl (fun d hd=>by simp at hd;subst hd;exact⟨rfl,rfl⟩) HLulep.out (fun e=>by cases e);refine wp_append_runR rfl rfl rfl hrun ?_;have hb1:=HUulep.out.grown hg2 HUulep.out.size fun k e=>(World.ownsRow.lt HR1.out k e).1;have HUulepq:=hid hb1;have HR2:=hid hr2;have hs:=HCK.out _ hb1;clear hrun hr2 hg2 hb1;refine hK.out _ _ hs (fun hHeld=>?_);clear hK K;try simp only[Act.put,zsA,zsS,zsZ]
    refine zrM 19 (h:=fun K hK=>?_);rw[if_pos (by rfl)];obtain⟨v3,ulepqr,hrun,hr3,hg3⟩:=run_filesA (ao:=ra) (m:=n - i) (c:=c - i) HR2.out (G:=F.drop i) (by rw[List.length_append,List.length_take,List.length_drop];have:=HN.out;have:=HN9.out;have:=HLE.out;simp;omega) HUulepq.out.size (by rw[List.length_drop,HN.out]) (fun d hd=>HONE.out d (List.mem_of_mem_drop hd)) (by rw[HRA.out];exact(HFU.out _ HUulepq.out).drop i HFC.out) (fun e=>by
     rw[HRA.out] at e;unfold restA at e;have:=HFC.out;have:=HLE.out;have:=HN.out;split at e
     ·omega
     ·have:=HNA.out (Option.map_eq_none_iff.1 e)
      omega)
    refine wp_append_runR rfl rfl rfl hrun ?_;have hb1:=HUulepq.out.grown hg3 HUulepq.out.size fun k e=>(World.ownsRow.lt HR2.out k e).1;have HUulepqr:=hid hb1;have hins:insF F nm=F.take i++ [FC.zero nm]++F.drop i:=by rw[HPOS.out];rfl
    rw[←hins] at hr3;have HR3:=hid hr3;obtain⟨a3,c3,hv3,_⟩:=slice_shape hr3;have hs:=HCK.out _ hb1;clear hrun hr3 hg3 hb1 hins;refine hK.out _ _ hs (fun hHeld=>?_);clear hK K;try simp only[Act.put,zsA,zsS,zsZ]
    refine zrM 20 (h:=fun K hK=>?_);rw[if_pos (by rfl)];go_simp
    have hs2:=HCK.out _ HUulepqr.out;refine hK.out _ _ hs2 (fun hHeld=>?_);clear hK K;try simp only[Act.put,zsA,zsS,zsZ]
    refine zkM 21 (v:=?_) (h2:=?_) (h:=?_);rotate_left;focus (intro W hS;(try dsimp only at hS);go_simp;(try with_reducible rfl))
    try simp only[Act.put,zsA,zsS,zsZ]
    refine zrL 22 (h:=fun K hK=>?_);rw[if_pos (by rfl)];have hbw:=HBu.out.trans (HUulepqr.out.mono HBu.out.size);have hgf:ulepqr.frozen? ⟨g,0,none⟩=false:=by
     have h1:=(hbw.block g HGW.out.2).trans HGD.out;simp [World.frozen?,h1]
    have hgc:=HCK.out _ HUulepqr.out;have HEND:=hid (at_end HD.out hbw HGD.out HR3.out HBu.out.size);subst hv3;obtain⟨n3,hn3⟩: ∃x,(insF F nm).length=x:=⟨_,rfl⟩;rw[hn3] at HEND ⊢;go_simp
    clear hgf hgc hn3 hbw;refine hK.out _ _ ?_;clear hK K;try simp only[Act.put,zsA,zsS,zsZ]
    go_wp2_with fail
    go_ret
    exact⟨rfl,HEND.out.1,HEND.out.2⟩
   ·have d1:decide ((i:Int)<(n:Int))=false:=decide_eq_false (by omega)
    have hc:=HC.out;go_wp2_with fail
    obtain⟨u,hu⟩: ∃u,u=wr.drew:=⟨_,rfl⟩;have HBu:=hid (show Below wr.heap.size wr u by rw[hu];exact(Below.refl _ _).drew);refine wp_region_heldM_drew 22 (S:=fun W=>W.cell? ⟨g,0,none⟩=some (.slice a n c)) (by kernel_rfl) (by rw[←hu];exact stays' HBu.out HC.out) (fun hHeld=>?_);rw[←hu] at hHeld ⊢;clear hu;have HCH:=hid (fun W=>cutF_h (a:=a) (n:=n) (c:=c) (hi:=i) (by have:=HFC.out;have:=HLE.out;have:=HN.out;omega) W);have HCL:=hid (fun W=>cutF_l (a:=a) (n:=n) (c:=c) (lo:=i) HLE.out W);obtain⟨ra,hra⟩: ∃x,x=restA a c i:=⟨_,rfl⟩;rw[←hra] at HCL;have HRA:=hid hra;have HUu:=hid (Below.refl u.heap.size u);have HCK:=hid (fun W (hW:Below u.heap.size u W)=>stays' hW (stays' HBu.out HC.out));have HFU:=hid (fun W (hW:Below u.heap.size u W)=>(HFA.out.below HBu.out).below hW);have HONE:=hid (show∀d∈F,d.vb.oneCell'=true∧d.vl.oneCell'=true from fun d hd=>by
     obtain⟨a1,c1,z1,_⟩:=slice_shape (HD.out.files d hd).row.choose_spec.2.1;obtain⟨a2,c2,z2,_⟩:=slice_shape (HD.out.files d hd).bts.1;rw[z1,z2];exact⟨rfl,rfl⟩)
    clear hra hc;refine zkM 0 (v:=?_) (h2:=?_) (h:=?_);rotate_left;focus (intro W hS;(try dsimp only at hS);go_simp;(try with_reducible rfl))
    try simp only[Act.put,zsA,zsS,zsZ]
    refine zkM 2 (v:=?_) (h2:=?_) (h:=?_);rotate_left;focus (intro W hS;(try dsimp only at hS);go_simp;(try with_reducible rfl))
    try simp only[Act.put,zsA,zsS,zsZ]
    refine zkM 3 (v:=?_) (h2:=?_) (h:=?_);rotate_left;focus (intro W hS;(try dsimp only at hS);go_simp;(try with_reducible rfl))
    try simp only[Act.put,zsA,zsS,zsZ]
    refine zkM 4 (v:=?_) (h2:=?_) (h:=?_);rotate_left;focus (intro W hS;(try dsimp only at hS);go_simp;(try with_reducible rfl))
    try simp only[Act.put,zsA,zsS,zsZ]
    refine zkM 5 (v:=?_) (h2:=?_) (h:=?_);rotate_left;focus (intro W hS;(try dsimp only at hS);go_simp;(try with_reducible rfl))
    try simp only[Act.put,zsA,zsS,zsZ]
    refine zkM 6 (v:=?_) (h2:=?_) (h:=?_);rotate_left;focus (intro W hS;(try dsimp only at hS);go_simp;(try with_reducible rfl))
    try simp only[Act.put,zsA,zsS,zsZ]
    refine zkM 7 (v:=?_) (h2:=?_) (h:=?_);rotate_left;focus (intro W hS;(try dsimp only at hS);have e1:=HCH.out W;go_simp;(try with_reducible rfl))
    try simp only[Act.put,zsA,zsS,zsZ]
    refine zkM 9 (v:=?_) (h2:=?_) (h:=?_);rotate_left;focus (intro W hS;(try dsimp only at hS);go_simp;(try with_reducible rfl))
    try simp only[Act.put,zsA,zsS,zsZ]
    refine zkM 10 (v:=?_) (h2:=?_) (h:=?_);rotate_left;focus (intro W hS;(try dsimp only at hS);go_simp;(try with_reducible rfl))
    try simp only[Act.put,zsA,zsS,zsZ]
    refine zkM 13 (v:=?_) (h2:=?_) (h:=?_);rotate_left;focus (intro W hS;(try dsimp only at hS);go_simp;(try with_reducible rfl))
    try simp only[Act.put,zsA,zsS,zsZ]
    refine zkM 14 (v:=?_) (h2:=?_) (h:=?_);rotate_left;focus (intro W hS;(try dsimp only at hS);go_simp;(try with_reducible rfl))
    try simp only[Act.put,zsA,zsS,zsZ]
    refine zkM 15 (v:=?_) (h2:=?_) (h:=?_);rotate_left;focus (intro W hS;(try dsimp only at hS);go_simp;(try with_reducible rfl))
    try simp only[Act.put,zsA,zsS,zsZ]
    refine zkM 16 (v:=?_) (h2:=?_) (h:=?_);rotate_left;focus (intro W hS;(try dsimp only at hS);go_simp;(try with_reducible rfl))
    try simp only[Act.put,zsA,zsS,zsZ]
    refine zkM 17 (v:=?_) (h2:=?_) (h:=?_);rotate_left;focus (intro W hS;(try dsimp only at hS);go_simp;(try with_reducible rfl))
    try simp only[Act.put,zsA,zsS,zsZ]
    refine zkM 18 (v:=?_) (h2:=?_) (h:=?_);rotate_left;focus (intro W hS;(try dsimp only at hS);have e1:=HCL.out W;go_simp;(try with_reducible rfl))
    try simp only[Act.put,zsA,zsS,zsZ]
    refine wpAnyM_ready (rs:= [1,11]) (by kernel_rfl) (by simp) ?_;refine AllReadyM.cons (o:=?_) ?_ rfl (fun K hK=>?_) ?_;rotate_left;focus (simp only[zgT,zgS,zgZ];rfl)
    rw[if_pos (by rfl)]
    ·go_simp
     obtain⟨g0,hg0⟩: ∃x,x=u.heap.size:=⟨_,rfl⟩;obtain⟨ue,he⟩: ∃x,x=u.alloc (.cells #[] 106):=⟨_,rfl⟩;have hr0:ue.ownsRow u.heap.size 106 5 (.slice (some ⟨g0,0,none⟩) 0 0) ([]:List FC).length (fileCells []):=by rw[he,hg0];exact World.ownsRow_lit u #[] 0 HUu.out.size (Nat.zero_le _) rfl
     have hal:Below u.heap.size u ue:=by rw[he];exact(Below.refl _ _).alloc (Nat.le_refl _) _
     have hb1:Below u.heap.size u ue:=HUu.out.trans (hal.mono HUu.out.size);rw[←hg0,←he];have HR0:=hid hr0;have HUue:=hid hb1;have hs:=HCK.out _ hb1;clear hr0 hal hb1 hg0 he;refine hK.out _ _ hs (fun hHeld=>?_);clear hK K;try simp only[Act.put,zsA,zsS,zsZ]
     refine wpAnyM_ready (rs:= [8,11]) (by kernel_rfl) (by simp) ?_;refine AllReadyM.cons (o:=?_) ?_ rfl (fun K hK=>?_) ?_;rotate_left;focus (simp only[zgT,zgS,zgZ];rfl)
     rw[if_pos (by rfl)]
     ·obtain⟨v1,uep,hrun,hr1,hg1⟩:=run_filesA (ao:=a) (m:=i) (c:=c) HR0.out (G:=F.take i) (by rw[List.length_take];have:=HN.out;have:=HN9.out;simp;omega) HUue.out.size (by rw[List.length_take];have:=HLE.out;have:=HN.out;omega) (fun d hd=>HONE.out d (List.mem_of_mem_take hd)) ((HFU.out _ HUue.out).take i) (fun e=>by have:=HNA.out e;have:=HLE.out;have:=HN.out;omega)
      rw[List.nil_append] at hr1;refine wp_append_runR rfl rfl rfl hrun ?_;have hb1:=HUue.out.grown hg1 HUue.out.size fun k e=>(World.ownsRow.lt HR0.out k e).1;have HUuep:=hid hb1;have HR1:=hid hr1;have hs:=HCK.out _ hb1;clear hrun hr1 hg1 hb1;refine hK.out _ _ hs (fun hHeld=>?_);clear hK K;try simp only[Act.put,zsA,zsS,zsZ]
      refine zrM 11 (h:=fun K hK=>?_);rw[if_pos (by rfl)];go_simp
      obtain⟨gl,hgl⟩: ∃x,x=uep.heap.size:=⟨_,rfl⟩;obtain⟨uepl,he⟩: ∃x,x=uep.alloc (.cells #[.string ⟨nm.toArray⟩,.bool false,.slice none 0 0,.slice none 0 0,.bool false] 106):=⟨_,rfl⟩;have hal:Below uep.heap.size uep uepl:=by rw[he];exact(Below.refl _ _).alloc (Nat.le_refl _) _
      have hb1:Below u.heap.size u uepl:=HUuep.out.trans (hal.mono HUuep.out.size);have hl:FilesAt uepl (some ⟨gl,0,none⟩) [FC.zero nm]:=⟨gl,0,fun _=>rfl,fun j x hj=>by
       have hrow:uepl.heap[gl]?=some (.cells #[.string ⟨nm.toArray⟩,.bool false,.slice none 0 0,.slice none 0 0,.bool false] 106 (0,0)):=by rw[he,hgl];exact heap_alloc_new uep _
       refine⟨(Array.getElem?_eq_some_iff.1 hrow).1,?_⟩;rw[Nat.zero_add,cell_of_row _ _ j _ _ _ hrow,←hj,List.getElem?_toArray];rfl⟩
      have HGL:=hid (show gl<uepl.heap.size by rw[he,hgl];simp);rw[←hgl,←he];have HLuepl:=hid hl;have HUuepl:=hid hb1;have hs:=HCK.out _ hb1;have HR1:=hid (ownsRow_keep HR1.out fun k e=>hal.block k (World.ownsRow.lt HR1.out k e).2);clear hal hb1 hl hgl he;refine hK.out _ _ hs (fun hHeld=>?_);clear hK K;try simp only[Act.put,zsA,zsS,zsZ]
      refine zrM 12 (h:=fun K hK=>?_);rw[if_pos (by rfl)];obtain⟨v2,ueplq,hrun,hr2,hg2⟩:=run_filesA (ao:=some ⟨gl,0,none⟩) (m:=1) (c:=1) HR1.out (G:= [FC.zero nm]) (by rw[List.length_take];have:=HN.out;have:=HN9.out;simp;omega) HUuepl.out.size rfl (fun d hd=>by simp at hd;subst hd;exact⟨rfl,rfl⟩) HLuepl.out (fun e=>by cases e);refine wp_append_runR rfl rfl rfl hrun ?_;have hb1:=HUuepl.out.grown hg2 HUuepl.out.size fun k e=>(World.ownsRow.lt HR1.out k e).1;have HUueplq:=hid hb1;have HR2:=hid hr2;have hs:=HCK.out _ hb1;clear hrun hr2 hg2 hb1;refine hK.out _ _ hs (fun hHeld=>?_);clear hK K;try simp only[Act.put,zsA,zsS,zsZ]
      refine zrM 19 (h:=fun K hK=>?_);rw[if_pos (by rfl)];obtain⟨v3,ueplqr,hrun,hr3,hg3⟩:=run_filesA (ao:=ra) (m:=n - i) (c:=c - i) HR2.out (G:=F.drop i) (by rw[List.length_append,List.length_take,List.length_drop];have:=HN.out;have:=HN9.out;have:=HLE.out;simp;omega) HUueplq.out.size (by rw[List.length_drop,HN.out]) (fun d hd=>HONE.out d (List.mem_of_mem_drop hd)) (by rw[HRA.out];exact(HFU.out _ HUueplq.out).drop i HFC.out) (fun e=>by
       rw[HRA.out] at e;unfold restA at e;have:=HFC.out;have:=HLE.out;have:=HN.out;split at e
       ·omega
       ·have:=HNA.out (Option.map_eq_none_iff.1 e)
        omega)
      refine wp_append_runR rfl rfl rfl hrun ?_;have hb1:=HUueplq.out.grown hg3 HUueplq.out.size fun k e=>(World.ownsRow.lt HR2.out k e).1;have HUueplqr:=hid hb1;have hins:insF F nm=F.take i++ [FC.zero nm]++F.drop i:=by rw[HPOS.out];rfl
      rw[←hins] at hr3;have HR3:=hid hr3;obtain⟨a3,c3,hv3,_⟩:=slice_shape hr3;have hs:=HCK.out _ hb1;clear hrun hr3 hg3 hb1 hins;refine hK.out _ _ hs (fun hHeld=>?_);clear hK K;try simp only[Act.put,zsA,zsS,zsZ]
      refine zrM 20 (h:=fun K hK=>?_);rw[if_pos (by rfl)];go_simp
      have hs2:=HCK.out _ HUueplqr.out;refine hK.out _ _ hs2 (fun hHeld=>?_);clear hK K;try simp only[Act.put,zsA,zsS,zsZ]
      refine zkM 21 (v:=?_) (h2:=?_) (h:=?_);rotate_left;focus (intro W hS;(try dsimp only at hS);go_simp;(try with_reducible rfl))
      try simp only[Act.put,zsA,zsS,zsZ]
      refine zrL 22 (h:=fun K hK=>?_);rw[if_pos (by rfl)];have hbw:=HBu.out.trans (HUueplqr.out.mono HBu.out.size);have hgf:ueplqr.frozen? ⟨g,0,none⟩=false:=by
       have h1:=(hbw.block g HGW.out.2).trans HGD.out;simp [World.frozen?,h1]
      have hgc:=HCK.out _ HUueplqr.out;have HEND:=hid (at_end HD.out hbw HGD.out HR3.out HBu.out.size);subst hv3;obtain⟨n3,hn3⟩: ∃x,(insF F nm).length=x:=⟨_,rfl⟩;rw[hn3] at HEND ⊢;go_simp
      clear hgf hgc hn3 hbw;refine hK.out _ _ ?_;clear hK K;try simp only[Act.put,zsA,zsS,zsZ]
      go_wp2_with fail
      go_ret
      exact⟨rfl,HEND.out.1,HEND.out.2⟩
     refine AllReadyM.cons (o:=?_) ?_ rfl (fun K hK=>?_) AllReadyM.nil;rotate_left;focus (simp only[zgT,zgS,zgZ];rfl)
     rw[if_pos (by rfl)];go_simp
     obtain⟨gl,hgl⟩: ∃x,x=ue.heap.size:=⟨_,rfl⟩;obtain⟨uel,he⟩: ∃x,x=ue.alloc (.cells #[.string ⟨nm.toArray⟩,.bool false,.slice none 0 0,.slice none 0 0,.bool false] 106):=⟨_,rfl⟩;have hal:Below ue.heap.size ue uel:=by rw[he];exact(Below.refl _ _).alloc (Nat.le_refl _) _
     have hb1:Below u.heap.size u uel:=HUue.out.trans (hal.mono HUue.out.size);have hl:FilesAt uel (some ⟨gl,0,none⟩) [FC.zero nm]:=⟨gl,0,fun _=>rfl,fun j x hj=>by
      have hrow:uel.heap[gl]?=some (.cells #[.string ⟨nm.toArray⟩,.bool false,.slice none 0 0,.slice none 0 0,.bool false] 106 (0,0)):=by rw[he,hgl];exact heap_alloc_new ue _
      refine⟨(Array.getElem?_eq_some_iff.1 hrow).1,?_⟩;rw[Nat.zero_add,cell_of_row _ _ j _ _ _ hrow,←hj,List.getElem?_toArray];rfl⟩
     have HGL:=hid (show gl<uel.heap.size by rw[he,hgl];simp);rw[←hgl,←he];have HLuel:=hid hl;have HUuel:=hid hb1;have hs:=HCK.out _ hb1;have HNE:=hid (show(Value.slice (some ⟨g0,0,none⟩) 0 0).ownBlock≠some gl from fun e=>by have:=(World.ownsRow.lt HR0.out _ e).2;omega);have HR0:=hid (ownsRow_keep HR0.out fun k e=>hal.block k (World.ownsRow.lt HR0.out k e).2);clear hal hb1 hl hgl he;refine hK.out _ _ hs (fun hHeld=>?_);clear hK K;try simp only[Act.put,zsA,zsS,zsZ]
     refine zrM 8 (h:=fun K hK=>?_);rw[if_pos (by rfl)];obtain⟨v1,uelp,hrun,hr1,hg1⟩:=run_filesA (ao:=a) (m:=i) (c:=c) HR0.out (G:=F.take i) (by rw[List.length_take];have:=HN.out;have:=HN9.out;simp;omega) HUuel.out.size (by rw[List.length_take];have:=HLE.out;have:=HN.out;omega) (fun d hd=>HONE.out d (List.mem_of_mem_take hd)) ((HFU.out _ HUuel.out).take i) (fun e=>by have:=HNA.out e;have:=HLE.out;have:=HN.out;omega);rw[List.nil_append] at hr1;refine wp_append_runR rfl rfl rfl hrun ?_;have hb1:=HUuel.out.grown hg1 HUuel.out.size fun k e=>(World.ownsRow.lt HR0.out k e).1;have HUuelp:=hid hb1;have HR1:=hid hr1;have hs:=HCK.out _ hb1;have HLuelp:=hid (show FilesAt uelp (some ⟨gl,0,none⟩) [FC.zero nm] from by
      obtain⟨q1,o1,h1,h2⟩:=HLuel.out;have e1:=h1 (by simp);cases e1;refine⟨gl,0,fun _=>rfl,fun j x hj=>?_⟩;obtain⟨r1,r2⟩:=h2 j x hj;have hblk:=hg1.block gl r1 (fun e=>HNE.out e.symm);exact⟨Nat.lt_of_lt_of_le r1 hg1.size,by rw[←r2];exact World.cell?_of_block (w:=uel) (a:=⟨gl,0+j,none⟩) hblk⟩)
     clear hrun hr1 hg1 hb1;refine hK.out _ _ hs (fun hHeld=>?_);clear hK K;try simp only[Act.put,zsA,zsS,zsZ]
     refine zrM 12 (h:=fun K hK=>?_);rw[if_pos (by rfl)];obtain⟨v2,uelpq,hrun,hr2,hg2⟩:=run_filesA (ao:=some ⟨gl,0,none⟩) (m:=1) (c:=1) HR1.out (G:= [FC.zero nm]) (by rw[List.length_take];have:=HN.out;have:=HN9.out;simp;omega) HUuelp.out.size rfl (fun d hd=>by simp at hd;subst hd;exact⟨rfl,rfl⟩) HLuelp.out (fun e=>by cases e);refine wp_append_runR rfl rfl rfl hrun ?_;have hb1:=HUuelp.out.grown hg2 HUuelp.out.size fun k e=>(World.ownsRow.lt HR1.out k e).1;have HUuelpq:=hid hb1;have HR2:=hid hr2;have hs:=HCK.out _ hb1;clear hrun hr2 hg2 hb1;refine hK.out _ _ hs (fun hHeld=>?_);clear hK K;try simp only[Act.put,zsA,zsS,zsZ]
     refine zrM 19 (h:=fun K hK=>?_);rw[if_pos (by rfl)];obtain⟨v3,uelpqr,hrun,hr3,hg3⟩:=run_filesA (ao:=ra) (m:=n - i) (c:=c - i) HR2.out (G:=F.drop i) (by rw[List.length_append,List.length_take,List.length_drop];have:=HN.out;have:=HN9.out;have:=HLE.out;simp;omega) HUuelpq.out.size (by rw[List.length_drop,HN.out]) (fun d hd=>HONE.out d (List.mem_of_mem_drop hd)) (by rw[HRA.out];exact(HFU.out _ HUuelpq.out).drop i HFC.out) (fun e=>by
      rw[HRA.out] at e;unfold restA at e;have:=HFC.out;have:=HLE.out;have:=HN.out;split at e
      ·omega
      ·have:=HNA.out (Option.map_eq_none_iff.1 e)
       omega)
     refine wp_append_runR rfl rfl rfl hrun ?_;have hb1:=HUuelpq.out.grown hg3 HUuelpq.out.size fun k e=>(World.ownsRow.lt HR2.out k e).1;have HUuelpqr:=hid hb1;have hins:insF F nm=F.take i++ [FC.zero nm]++F.drop i:=by rw[HPOS.out];rfl
     rw[←hins] at hr3;have HR3:=hid hr3;obtain⟨a3,c3,hv3,_⟩:=slice_shape hr3;have hs:=HCK.out _ hb1;clear hrun hr3 hg3 hb1 hins;refine hK.out _ _ hs (fun hHeld=>?_);clear hK K;try simp only[Act.put,zsA,zsS,zsZ]
     refine zrM 20 (h:=fun K hK=>?_);rw[if_pos (by rfl)];go_simp
     have hs2:=HCK.out _ HUuelpqr.out;refine hK.out _ _ hs2 (fun hHeld=>?_);clear hK K;try simp only[Act.put,zsA,zsS,zsZ]
     refine zkM 21 (v:=?_) (h2:=?_) (h:=?_);rotate_left;focus (intro W hS;(try dsimp only at hS);go_simp;(try with_reducible rfl))
     try simp only[Act.put,zsA,zsS,zsZ]
     refine zrL 22 (h:=fun K hK=>?_);rw[if_pos (by rfl)];have hbw:=HBu.out.trans (HUuelpqr.out.mono HBu.out.size);have hgf:uelpqr.frozen? ⟨g,0,none⟩=false:=by
      have h1:=(hbw.block g HGW.out.2).trans HGD.out;simp [World.frozen?,h1]
     have hgc:=HCK.out _ HUuelpqr.out;have HEND:=hid (at_end HD.out hbw HGD.out HR3.out HBu.out.size);subst hv3;obtain⟨n3,hn3⟩: ∃x,(insF F nm).length=x:=⟨_,rfl⟩;rw[hn3] at HEND ⊢;go_simp
     clear hgf hgc hn3 hbw;refine hK.out _ _ ?_;clear hK K;try simp only[Act.put,zsA,zsS,zsZ]
     go_wp2_with fail
     go_ret
     exact⟨rfl,HEND.out.1,HEND.out.2⟩
    refine AllReadyM.cons (o:=?_) ?_ rfl (fun K hK=>?_) AllReadyM.nil;rotate_left;focus (simp only[zgT,zgS,zgZ];rfl)
    rw[if_pos (by rfl)];go_simp
    obtain⟨gl,hgl⟩: ∃x,x=u.heap.size:=⟨_,rfl⟩;obtain⟨ul,he⟩: ∃x,x=u.alloc (.cells #[.string ⟨nm.toArray⟩,.bool false,.slice none 0 0,.slice none 0 0,.bool false] 106):=⟨_,rfl⟩;have hal:Below u.heap.size u ul:=by rw[he];exact(Below.refl _ _).alloc (Nat.le_refl _) _
    have hb1:Below u.heap.size u ul:=HUu.out.trans (hal.mono HUu.out.size);have hl:FilesAt ul (some ⟨gl,0,none⟩) [FC.zero nm]:=⟨gl,0,fun _=>rfl,fun j x hj=>by
     have hrow:ul.heap[gl]?=some (.cells #[.string ⟨nm.toArray⟩,.bool false,.slice none 0 0,.slice none 0 0,.bool false] 106 (0,0)):=by rw[he,hgl];exact heap_alloc_new u _
     refine⟨(Array.getElem?_eq_some_iff.1 hrow).1,?_⟩;rw[Nat.zero_add,cell_of_row _ _ j _ _ _ hrow,←hj,List.getElem?_toArray];rfl⟩
    have HGL:=hid (show gl<ul.heap.size by rw[he,hgl];simp);rw[←hgl,←he];have HLul:=hid hl;have HUul:=hid hb1;have hs:=HCK.out _ hb1;clear hal hb1 hl hgl he;refine hK.out _ _ hs (fun hHeld=>?_);clear hK K;try simp only[Act.put,zsA,zsS,zsZ]
    refine zrM 1 (h:=fun K hK=>?_);rw[if_pos (by rfl)];go_simp
    obtain⟨g0,hg0⟩: ∃x,x=ul.heap.size:=⟨_,rfl⟩;obtain⟨ule,he⟩: ∃x,x=ul.alloc (.cells #[] 106):=⟨_,rfl⟩;have hr0:ule.ownsRow u.heap.size 106 5 (.slice (some ⟨g0,0,none⟩) 0 0) ([]:List FC).length (fileCells []):=by rw[he,hg0];exact World.ownsRow_lit ul #[] 0 HUul.out.size (Nat.zero_le _) rfl
    have hal:Below ul.heap.size ul ule:=by rw[he];exact(Below.refl _ _).alloc (Nat.le_refl _) _
    have hb1:Below u.heap.size u ule:=HUul.out.trans (hal.mono HUul.out.size);rw[←hg0,←he];have HR0:=hid hr0;have HUule:=hid hb1;have hs:=HCK.out _ hb1;have HLule:=hid (HLul.out.below hal);have HNE:=hid (show(Value.slice (some ⟨g0,0,none⟩) 0 0).ownBlock≠some gl from fun e=>by have:=HGL.out;simp [Value.ownBlock] at e;omega);clear hr0 hal hb1 hg0 he;refine hK.out _ _ hs (fun hHeld=>?_);clear hK K;try simp only[Act.put,zsA,zsS,zsZ]
    refine zrM 8 (h:=fun K hK=>?_);rw[if_pos (by rfl)];obtain⟨v1,ulep,hrun,hr1,hg1⟩:=run_filesA (ao:=a) (m:=i) (c:=c) HR0.out (G:=F.take i) (by rw[List.length_take];have:=HN.out;have:=HN9.out;simp;omega) HUule.out.size (by rw[List.length_take];have:=HLE.out;have:=HN.out;omega) (fun d hd=>HONE.out d (List.mem_of_mem_take hd)) ((HFU.out _ HUule.out).take i) (fun e=>by have:=HNA.out e;have:=HLE.out;have:=HN.out;omega);rw[List.nil_append] at hr1;refine wp_append_runR rfl rfl rfl hrun ?_;have hb1:=HUule.out.grown hg1 HUule.out.size fun k e=>(World.ownsRow.lt HR0.out k e).1;have HUulep:=hid hb1;have HR1:=hid hr1;have hs:=HCK.out _ hb1;have HLulep:=hid (show FilesAt ulep (some ⟨gl,0,none⟩) [FC.zero nm] from by
     obtain⟨q1,o1,h1,h2⟩:=HLule.out;have e1:=h1 (by simp);cases e1;refine⟨gl,0,fun _=>rfl,fun j x hj=>?_⟩;obtain⟨r1,r2⟩:=h2 j x hj;have hblk:=hg1.block gl r1 (fun e=>HNE.out e.symm);exact⟨Nat.lt_of_lt_of_le r1 hg1.size,by rw[←r2];exact World.cell?_of_block (w:=ule) (a:=⟨gl,0+j,none⟩) hblk⟩)
    clear hrun hr1 hg1 hb1;refine hK.out _ _ hs (fun hHeld=>?_);clear hK K;try simp only[Act.put,zsA,zsS,zsZ]
    refine zrM 12 (h:=fun K hK=>?_);rw[if_pos (by rfl)];obtain⟨v2,ulepq,hrun,hr2,hg2⟩:=run_filesA (ao:=some ⟨gl,0,none⟩) (m:=1) (c:=1) HR1.out (G:= [FC.zero nm]) (by rw[List.length_take];have:=HN.out;have:=HN9.out;simp;omega) HUulep.out.size rfl (fun d hd=>by simp at hd;subst hd;exact⟨rfl,rfl⟩) HLulep.out (fun e=>by cases e);refine wp_append_runR rfl rfl rfl hrun ?_;have hb1:=HUulep.out.grown hg2 HUulep.out.size fun k e=>(World.ownsRow.lt HR1.out k e).1;have HUulepq:=hid hb1;have HR2:=hid hr2;have hs:=HCK.out _ hb1;clear hrun hr2 hg2 hb1;refine hK.out _ _ hs (fun hHeld=>?_);clear hK K;try simp only[Act.put,zsA,zsS,zsZ]
    refine zrM 19 (h:=fun K hK=>?_);rw[if_pos (by rfl)];obtain⟨v3,ulepqr,hrun,hr3,hg3⟩:=run_filesA (ao:=ra) (m:=n - i) (c:=c - i) HR2.out (G:=F.drop i) (by rw[List.length_append,List.length_take,List.length_drop];have:=HN.out;have:=HN9.out;have:=HLE.out;simp;omega) HUulepq.out.size (by rw[List.length_drop,HN.out]) (fun d hd=>HONE.out d (List.mem_of_mem_drop hd)) (by rw[HRA.out];exact(HFU.out _ HUulepq.out).drop i HFC.out) (fun e=>by
     rw[HRA.out] at e;unfold restA at e;have:=HFC.out;have:=HLE.out;have:=HN.out;split at e
     ·omega
     ·have:=HNA.out (Option.map_eq_none_iff.1 e)
      omega)
    refine wp_append_runR rfl rfl rfl hrun ?_;have hb1:=HUulepq.out.grown hg3 HUulepq.out.size fun k e=>(World.ownsRow.lt HR2.out k e).1;have HUulepqr:=hid hb1;have hins:insF F nm=F.take i++ [FC.zero nm]++F.drop i:=by rw[HPOS.out];rfl
    rw[←hins] at hr3;have HR3:=hid hr3;obtain⟨a3,c3,hv3,_⟩:=slice_shape hr3;have hs:=HCK.out _ hb1;clear hrun hr3 hg3 hb1 hins;refine hK.out _ _ hs (fun hHeld=>?_);clear hK K;try simp only[Act.put,zsA,zsS,zsZ]
    refine zrM 20 (h:=fun K hK=>?_);rw[if_pos (by rfl)];go_simp
    have hs2:=HCK.out _ HUulepqr.out;refine hK.out _ _ hs2 (fun hHeld=>?_);clear hK K;try simp only[Act.put,zsA,zsS,zsZ]
    refine zkM 21 (v:=?_) (h2:=?_) (h:=?_);rotate_left;focus (intro W hS;(try dsimp only at hS);go_simp;(try with_reducible rfl))
    try simp only[Act.put,zsA,zsS,zsZ]
    refine zrL 22 (h:=fun K hK=>?_);rw[if_pos (by rfl)];have hbw:=HBu.out.trans (HUulepqr.out.mono HBu.out.size);have hgf:ulepqr.frozen? ⟨g,0,none⟩=false:=by
     have h1:=(hbw.block g HGW.out.2).trans HGD.out;simp [World.frozen?,h1]
    have hgc:=HCK.out _ HUulepqr.out;have HEND:=hid (at_end HD.out hbw HGD.out HR3.out HBu.out.size);subst hv3;obtain⟨n3,hn3⟩: ∃x,(insF F nm).length=x:=⟨_,rfl⟩;rw[hn3] at HEND ⊢;go_simp
    clear hgf hgc hn3 hbw;refine hK.out _ _ ?_;clear hK K;try simp only[Act.put,zsA,zsS,zsZ]
    go_wp2_with fail
    go_ret
    exact⟨rfl,HEND.out.1,HEND.out.2⟩
end
end Rd
end Go.Proofs.YtalfbcbnljhldaaGreatDoor
