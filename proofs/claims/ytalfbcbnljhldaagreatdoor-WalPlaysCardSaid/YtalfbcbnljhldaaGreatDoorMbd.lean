/-  -/
import Derived.Test.YtalfbcbnljhldaaGreatDoorMbc
import Derived.Test.YtalfbcbnljhldaaGreatDoorRlS
import Derived.Test.YtalfbcbnljhldaaGreatDoorMab
import Derived.Test.YtalfbcbnljhldaaGreatDoorMar
import Derived.Test.YtalfbcbnljhldaaGreatDoorMap
import Derived.Test.YtalfbcbnljhldaaGreatDoorMas
import Derived.Deep.RegionHeld
import Derived.Test.YtalfbcbnljhldaaGreatDoorMae
import Derived.Test.YtalfbcbnljhldaaGreatDoorMba
import Derived.BigQuiet
import Derived.Deep.Draws
namespace Go.Proofs.YtalfbcbnljhldaaGreatDoor
open Go.RowKit Go.Maps Go.Sort Dsk Wl
namespace Pz
structure SgOk (s:Sg):Prop where
 ok: ∀e∈s.recs,e.ok
 good:s.good=(flatE s.recs).length
 bytes:s.bs.take s.good=flatE s.recs
 le:s.good≤s.bs.length
theorem readGo_ok: ∀(l:List (Nat×List Int)) (E:List Ent),(∀x∈l,∀z∈x.2,0≤z∧z≤255)→(∀s∈(readGo l E).1,SgOk s)∧chain E ((readGo l E).1.map Sg.recs).flatten=some (readGo l E).2
 | [],E,_=>⟨fun s hs=>by simp [readGo] at hs,by simp [readGo,chain]⟩
 | x::r,E,hr=>by
  have hw0:=walked (x.2.length+1) (bs:=x.2) 0 [] E (hr x (by simp));rcases hw:walk (x.2.length+1) x.2 0 [] E with⟨good,recs,E',b⟩
  rw[hw] at hw0;obtain⟨l',h1,h2,h3,h4,h5,h6⟩:=hw0.more;dsimp only at h1 h2 h3 h4 h5 h6;rw[List.nil_append] at h1;subst h1;rw[Nat.zero_add] at h5;rw[List.drop_zero] at h4;have hs:SgOk ⟨x.1,x.2,good,recs⟩:=⟨h2,h5,by rw[h5];exact h4,by dsimp only;omega⟩;by_cases h:b=true∧recs≠ []
  ·obtain⟨rfl,hrn⟩:=h
   obtain⟨k1,k2⟩:=readGo_ok r E' fun y hy=>hr y (by simp [hy]);rw[readGo_more r hw hrn];refine⟨fun s hs'=>?_,?_⟩
   ·rcases List.mem_cons.1 hs' with rfl | hs'
    ·exact hs
    ·exact k1 s hs'
   ·rw[List.map_cons,List.flatten_cons,chain_append _ _ _ h3]
    exact k2
  ·rw[readGo_stop r hw (by
    by_cases hb:b=true
    ·exact .inr (Classical.byContradiction fun e=>h ⟨hb,e⟩)
    ·exact .inl (by simpa using hb))]
   refine⟨fun s hs'=>?_,?_⟩
   ·rcases List.mem_cons.1 hs' with rfl | hs'
    ·exact hs
    ·obtain⟨y,_,rfl⟩:=List.mem_map.1 hs'
     exact⟨(fun e he=>by cases he),rfl,rfl,Nat.zero_le _⟩
   ·have hz:((r.map fun y=>(⟨y.1,[],0,[]⟩:Sg)).map Sg.recs).flatten= []:=by simp
    rw[List.map_cons,List.flatten_cons,hz,List.append_nil];exact h3
def logL (l:List Sg):List (Nat×List Ent):=(l.filter fun s=>decide (s.recs≠ [])).map fun s=>(s.num,s.recs)
theorem logL_flat: ∀l:List Sg,((logL l).map Prod.snd).flatten=(l.map Sg.recs).flatten
 | []=>rfl
 | s::l=>by
  have ih:=logL_flat l;unfold logL at ih ⊢;by_cases h:s.recs= []
  ·simpa [h] using ih
  ·simpa [h] using ih
theorem logL_append (a b:List Sg):logL (a++b)=logL a++logL b:=by simp [logL]
theorem logL_mem {l:List Sg} {x:Nat×List Ent} :x∈logL l↔ ∃s∈l,s.recs≠ []∧x=(s.num,s.recs):=by
 unfold logL;rw[List.mem_map];constructor
 ·rintro⟨s,hs,rfl⟩
  rw[List.mem_filter] at hs;exact⟨s,hs.1,by simpa using hs.2,rfl⟩
 ·rintro⟨s,hs,hn,rfl⟩
  exact⟨s,List.mem_filter.2 ⟨hs,by simpa using hn⟩,rfl⟩
theorem cutAll_at: ∀(l:List Sg) {M:Files},l.Pairwise (fun a b=>nameOf a.num≠nameOf b.num)→ ∀s∈l,(cutAll M l) (nameOf s.num)=(cutSeg M s) (nameOf s.num)
 | [],_,_,s,hs=>by cases hs
 | x::r,M,hp,s,hs=>by
  obtain⟨h1,h2⟩:=List.pairwise_cons.1 hp;show(cutAll (cutSeg M x) r) (nameOf s.num)=_;rcases List.mem_cons.1 hs with rfl | hs
  ·exact cutAll_other r fun s' hs'=>h1 s' hs'
  ·rw[cutAll_at r h2 s hs]
   have hne:nameOf s.num≠nameOf x.num:=fun e=>h1 s hs e.symm;have hx:=cutSeg_other (M:=M) hne;unfold cutSeg at hx ⊢;split
   ·rw[upd_same,upd_same]
   ·split
    ·rw[upd_same,upd_same]
    ·exact hx
theorem nums_pair {l:List Sg} {ns:List Nat} (h:l.map Sg.num=ns) (hr:ns.Pairwise (· < ·)) (hb: ∀k∈ns,1≤k∧k≤99999999):l.Pairwise (fun a b=>nameOf a.num≠nameOf b.num):=by
 subst h;rw[List.pairwise_map] at hr;refine List.Pairwise.imp_of_mem ?_ hr;intro a b ha hb' hab e;have:=name_inj (hb a.num (List.mem_map.2 ⟨a,ha,rfl⟩)) (hb b.num (List.mem_map.2 ⟨b,hb',rfl⟩)) e;omega
theorem segs_range {M:Files} (hi:Inv M) {ks:List Name} : ∀x∈segsOf M (numsOf ks),∀z∈x.2,0≤z∧z≤255:=fun x hx z hz=>by
 unfold segsOf at hx;obtain⟨k,_,rfl⟩:=List.mem_map.1 hx;exact(Fil.now_ok (hi.at_ok (nameOf k))).2.2 z hz
theorem cut_file {M:Files} {s:Sg} (hs:SgOk s) (hbs:s.recs≠ []→s.bs=(M.at (nameOf s.num)).now.bs∧(M.at (nameOf s.num)).now.there=true):
  (s.recs= []∧(cutSeg M s) (nameOf s.num)=none)∨(s.recs≠ []∧((cutSeg M s).at (nameOf s.num)).now.there=true∧((cutSeg M s).at (nameOf s.num)).now.bs=flatE s.recs∧((cutSeg M s) (nameOf s.num)=M (nameOf s.num)∨(cutSeg M s) (nameOf s.num)=some ⟨⟨true,flatE s.recs,(flatE s.recs).length⟩,[],false⟩)):=by
 by_cases hn:s.recs= []
 ·refine .inl ⟨hn,?_⟩
  have h0:s.good=0:=by rw[hs.good,hn];rfl
  unfold cutSeg;rw[if_pos h0,upd_same]
 ·refine .inr ⟨hn,?_⟩
  obtain⟨h1,h2⟩:=hbs hn;have hpos:s.good≠0:=by
   have:=(flatE_len hs.ok).1;have h3:0<s.recs.length:=List.length_pos_iff.2 hn;rw[hs.good];omega
  unfold cutSeg;rw[if_neg hpos];by_cases hlt:s.good<s.bs.length
  ·rw[if_pos hlt,hs.bytes,upd_at,upd_same]
   exact⟨rfl,rfl,.inr rfl⟩
  ·rw[if_neg hlt]
   refine⟨h2,?_,.inl rfl⟩;rw[←h1,←hs.bytes,List.take_of_length_le (by omega)]
theorem readGo_bs: ∀(l:List (Nat×List Int)) (E:List Ent),(∀x∈l,∀z∈x.2,0≤z∧z≤255)→ ∀s∈(readGo l E).1,s.recs≠ []→(s.num,s.bs)∈l:=fun l E hr s hs hn=>by
 rcases(readGo_in l E hr s hs).2 with h | h
 ·have hk:=((readGo_ok l E hr).1 s hs)
  have h1:=hk.bytes;rw[h,List.take_nil] at h1;exfalso;have h2:=(flatE_len hk.ok).1;rw[←h1] at h2;have h3:0<s.recs.length:=List.length_pos_iff.2 hn;simp only[List.length_nil] at h2;omega
 ·exact h
theorem open_whole_any {M:Files} (hi:Inv M) {ks:List Name} (hks:Here1 M ks):Inv (openOf M ks)∧Whole (openOf M ks) (logL (readGo (segsOf M (numsOf ks)) []).1) (readGo (segsOf M (numsOf ks)) []).2:=by
 have hr:=segs_range hi (ks:=ks);obtain⟨k1,k2⟩:=readGo_ok (segsOf M (numsOf ks)) [] hr;have kb:=readGo_bs (segsOf M (numsOf ks)) [] hr;have hnum:=seg_nums M ks;unfold openOf;generalize hsg:(readGo (segsOf M (numsOf ks)) []).1=segs at k1 k2 kb hnum;generalize (readGo (segsOf M (numsOf ks)) []).2=E at k2;have hrise:(numsOf ks).Pairwise (· < ·):=nums_rise hks.1;have hbound: ∀k∈numsOf ks,1≤k∧k≤99999999:=fun k hk=>(nums_ok hk).2;have hp:=nums_pair hnum hrise hbound;have hat: ∀s∈segs,s.recs≠ []→s.bs=(M.at (nameOf s.num)).now.bs∧(M.at (nameOf s.num)).now.there=true:=fun s hs hn=>by
  have h1:=kb s hs hn;have h2:=((segs_of hks).2 s.num s.bs).1 h1;exact⟨h2.2.2,h2.2.1⟩
 have hcut: ∀s∈segs,(cutAll M segs) (nameOf s.num)=(cutSeg M s) (nameOf s.num):=cutAll_at segs hp;have hcat: ∀s∈segs,(cutAll M segs).at (nameOf s.num)=(cutSeg M s).at (nameOf s.num):=fun s hs=>by unfold Files.at;rw[hcut s hs]
 have hoth: ∀n,(∀s∈segs,n≠nameOf s.num)→(cutAll M segs) n=M n:=fun n hn=>cutAll_other segs hn;have hin: ∀k,1≤k→k≤99999999→(M.at (nameOf k)).now.there=true→ ∃s∈segs,s.num=k:=fun k h1 h2 h3=>by
  have:k∈numsOf ks:=nums_mem.2 ⟨(names_iff hks _).2 h3,h1,h2⟩;rw[←hnum] at this;obtain⟨s,hs,he⟩:=List.mem_map.1 this;exact⟨s,hs,he⟩
 have hinv:Inv (cutAll M segs):=by
  refine⟨fun n f hf=>?_,?_⟩
  ·by_cases hn: ∃s∈segs,n=nameOf s.num
   ·obtain⟨s,hs,rfl⟩:=hn
    rw[hcut s hs] at hf;rcases cut_file (M:=M) (k1 s hs) (hat s hs) with⟨_,h2⟩ | ⟨h1,h2,h3,h4⟩
    ·rw[h2] at hf;cases hf
    ·rcases h4 with h4 | h4
     ·rw[h4] at hf
      exact hi.file _ _ hf
     ·rw[h4] at hf
      cases hf;have hsz:=(hi.at_size (nameOf s.num)).1;have hb:=hat s hs h1;have hk:=k1 s hs;have hle:(flatE s.recs).length≤20000:=by
       rw[←hb.1] at hsz;have:=hk.le;rw[hk.good] at this;omega
      exact⟨⟨⟨Nat.le_refl _,by dsimp only;omega,flatE_range hk.ok⟩,fun v hv=>by cases hv⟩,rfl,by simp,hle,(fun v hv=>by cases hv),by rw[name_len];decide⟩
   ·rw[hoth n fun s hs e=>hn ⟨s,hs,e⟩] at hf
    exact hi.file _ _ hf
  ·obtain⟨ks0,h1,h2⟩:=hi.fin
   obtain⟨ks',h3,h4⟩:=names_sub (M':=cutAll M segs) h1 fun n hn=>by
    by_cases hx: ∃s∈segs,n=nameOf s.num
    ·obtain⟨s,hs,rfl⟩:=hx
     rw[hcat s hs] at hn;rcases cut_file (M:=M) (k1 s hs) (hat s hs) with⟨_,h2⟩ | ⟨h1,h2,h3,h4⟩
     ·rw[at_none h2] at hn
      simp [Fil.zero,Fil.now,Ver.zero] at hn
     ·exact(hat s hs h1).2
    ·unfold Files.at at hn ⊢
     rw[hoth n fun s hs e=>hx ⟨s,hs,e⟩] at hn;exact hn
   exact⟨ks',h3,by omega⟩
 refine⟨hinv,⟨⟨?_,fun k bs=>?_⟩,fun x hx=>?_,fun x hx=>?_,?_,fun k _ _ hg=>hinv.gone hg⟩⟩
 ·have hr2:segs.Pairwise (fun a b=>a.num<b.num):=by rw[←hnum,List.pairwise_map] at hrise;exact hrise
  unfold logL;rw[List.map_map,List.pairwise_map];exact hr2.filter _
 ·rw[List.mem_map]
  constructor
  ·rintro⟨x,hx,he⟩
   obtain⟨s,hs,hn,rfl⟩:=logL_mem.1 hx;cases he;have hk:s.num∈numsOf ks:=by rw[←hnum];exact List.mem_map.2 ⟨s,hs,rfl⟩
   rcases cut_file (M:=M) (k1 s hs) (hat s hs) with⟨h1,_⟩ | ⟨h1,h2,h3,_⟩
   ·exact absurd h1 hn
   ·rw[hcat s hs]
    exact⟨hbound _ hk,h2,h3.symm⟩
  ·rintro⟨h1,h2,h3⟩
   have hM:(M.at (nameOf k)).now.there=true:=by
    by_cases hx: ∃s∈segs,nameOf k=nameOf s.num
    ·obtain⟨s,hs,e⟩:=hx
     rw[e] at h2 ⊢;rw[hcat s hs] at h2;rcases cut_file (M:=M) (k1 s hs) (hat s hs) with⟨_,h4⟩ | ⟨h4,_⟩
     ·rw[at_none h4] at h2
      simp [Fil.zero,Fil.now,Ver.zero] at h2
     ·exact(hat s hs h4).2
    ·unfold Files.at at h2 ⊢
     rw[hoth _ fun s hs e=>hx ⟨s,hs,e⟩] at h2;exact h2
   obtain⟨s,hs,rfl⟩:=hin k h1.1 h1.2 hM;rw[hcat s hs] at h2 h3;rcases cut_file (M:=M) (k1 s hs) (hat s hs) with⟨_,h4⟩ | ⟨h4,h5,h6,_⟩
   ·rw[at_none h4] at h2
    simp [Fil.zero,Fil.now,Ver.zero] at h2
   ·exact⟨(s.num,s.recs),logL_mem.2 ⟨s,hs,h4,rfl⟩,by rw[h3,h6]⟩
 ·obtain⟨s,hs,hn,rfl⟩:=logL_mem.1 hx
  exact hn
 ·obtain⟨s,hs,hn,rfl⟩:=logL_mem.1 hx
  exact(k1 s hs).ok
 ·rw[logL_flat]
  exact k2
end Pz
end Go.Proofs.YtalfbcbnljhldaaGreatDoor

namespace Go.Proofs.YtalfbcbnljhldaaGreatDoor
open Go.Lib (hid)
open Go.RowKit Go.Maps Go.Sort Dsk Rd Wl
namespace Rl
theorem short_at {es:List EV} (h:short (es.map Prod.fst)=false): ¬ ∀j (hj:j<es.length),es[j].1.body.length≤2000:=fun hall=>by
 unfold short at h;rw[←Bool.not_eq_true] at h;refine h (List.all_eq_true.2 fun e he=>?_);obtain⟨p,hp,rfl⟩:=List.mem_map.1 he;obtain⟨j,hj,rfl⟩:=List.mem_iff_getElem.1 hp;exact decide_eq_true (hall j hj)
set_option maxRecDepth 1000000 in
set_option maxHeartbeats 16000000 in
theorem append_no2 {w:World} {B n h g:Nat} {S T K:Nat→Prop} {M:Files} {L:List SV} {E:List Ent} (r:RS w B n h g S T K M L) (hi:Inv M) (hW:Whole M (logOf L) E) (es:List EV) (a:Option Addr) (c:Nat) (hes:SegK w K ⟨0,.slice a es.length c,es⟩)
  (hc:chain E (es.map Prod.fst)=none) (hel:es.length≤1000):
  Calls Tryz.prog 10 #[.pointer (some ⟨h,0,none⟩),.slice a es.length c] w fun e w'=>e= .returned (.int .i64 2)∧Below w.heap.size w w':=by
 obtain⟨N,hN⟩: ∃x,x=es.length:=⟨_,rfl⟩;rw[←hN] at hes hel ⊢;obtain⟨hL64,hLs,hLr⟩:=whole_small hW hi;obtain⟨ea,ec,hv,⟨eg,eo,hea,hecell⟩,hena,hefi,hebo⟩:=id hes;dsimp only at hv hea hecell hena hefi hebo;rw[←hN] at hv hena;cases hv;have hchn:chain [] ((recsOf L++es).map Prod.fst)=none:=by
  have h1:=hW.ents;rw[logOf_flat] at h1;rw[List.map_append,chain_append _ _ _ h1];exact hc
 have HCH:=hid hchn;have HN:=hid hN;have HENA:=hid hena;have HEF:=hid hefi;have HLR:=hid hLr;have HEL:=hid (show es.length≤1000 by rw[←hN];exact hel);have HREC:=hid (fun W (hW:Below w.heap.size w W)=>records_any (r.below hW).log.logR (by omega) (by omega));have HRP:=hid (fun W (hW:Below w.heap.size w W)=>(⟨eg,eo,hea,fun j u hu=>⟨Nat.lt_of_lt_of_le (hecell j u hu).2.1 hW.size,stays' hW (hecell j u hu).2.2⟩⟩:ReadsP W a es));have HFR:=hid (r.log.logR.fine L fun _ hs=>hs);have hNm:(N:Int)≤1000:=by omega
 clear hes hN hea hecell hena hefi hebo r hi hW hc hLs hLr hchn;go_enter Tryz.func10,Tryz.ntmps10
 go_wp2_with fail
 refine(HREC.out _ (Below.refl _ _)).mono ?_;rintro e w1 ⟨ra,rc,rfl,hr1,hb1⟩;obtain⟨v2,w2,hrun2,hr2,hg2,-⟩:=run_appP hr1 (by have:=HLR.out;omega) hb1.size HN.out (HRP.out _ hb1) HEF.out (by have:=HEL.out;omega) HENA.out;have HB2:=hid (hb1.grown hg2 hb1.size fun k e=>(World.ownsRow.lt hr1 k e).1);have HR2:=hid hr2;clear hr1 hb1 hr2 hg2;go_wp2_with (at_builtin;go_loud (refine Lib.wpList_append_run _ rfl _ _ _ _ rfl _ _ rfl rfl _ _ hrun2 ?_))
 obtain⟨a2,c2,hv2,-⟩:=slice_shape HR2.out;subst hv2;refine(row_any (RowP.reads HR2.out).1 (HFR.out.append HEF.out) (by have:=HLR.out;have:=HEL.out;simp;omega) c2).mono ?_;rintro e w3 ⟨la,lc,l3,k3,rfl,hri,-,hb3⟩;have hk3:=hri.none HCH.out;have HB3:=hid (HB2.out.trans (hb3.mono HB2.out.size));clear hri hb3 hrun2;go_wp2_with fail
 refine(HREC.out _ HB3.out).mono ?_;rintro e w4 ⟨ra4,rc4,rfl,-,hb4⟩;have HB4:=hid (HB3.out.trans (hb4.mono HB3.out.size));have hk3':(k3:Int)≠((recsOf L).length:Int)+(N:Int):=by
  intro e;refine hk3 ?_;rw[List.length_append,←HN.out];omega
 have hkne:((k3:Int) != ((recsOf L).length:Int)+(N:Int))=true:=by simpa using hk3'
 have hkm:((recsOf L).length:Int)≤142208:=by have:=HLR.out;omega
 clear hb4 HREC hk3 hk3';go_wp2_with fail
 go_ret
 exact⟨rfl,HB4.out⟩
set_option maxRecDepth 1000000 in
set_option maxHeartbeats 16000000 in
theorem append_no3 {w:World} {B n h g:Nat} {S T K:Nat→Prop} {M:Files} {L:List SV} {E:List Ent} (r:RS w B n h g S T K M L) (hi:Inv M) (hW:Whole M (logOf L) E) (es:List EV) (a:Option Addr) (c:Nat) (hes:SegK w K ⟨0,.slice a es.length c,es⟩)
  (hc: ∃E',chain E (es.map Prod.fst)=some E') (hsh:short (es.map Prod.fst)=false) (hel:es.length≤1000):
  Calls Tryz.prog 10 #[.pointer (some ⟨h,0,none⟩),.slice a es.length c] w fun e w'=>e= .returned (.int .i64 3)∧Below w.heap.size w w':=by
 obtain⟨N,hN⟩: ∃x,x=es.length:=⟨_,rfl⟩;rw[←hN] at hes hel ⊢;obtain⟨hL64,hLs,hLr⟩:=whole_small hW hi;obtain⟨ea,ec,hv,⟨eg,eo,hea,hecell⟩,hena,hefi,hebo⟩:=id hes;dsimp only at hv hea hecell hena hefi hebo;rw[←hN] at hv hena;cases hv;have hchn: ∃E',chain [] ((recsOf L++es).map Prod.fst)=some E':=by
  obtain⟨E',hE⟩:=hc;have h1:=hW.ents;rw[logOf_flat] at h1;rw[List.map_append,chain_append _ _ _ h1];exact⟨E',hE⟩
 have HCH:=hid hchn;have HSH:=hid hsh;have HN:=hid hN;have HEA:=hid hea;have HEC:=hid hecell;have HENA:=hid hena;have HEF:=hid hefi;have HEB:=hid hebo;have HLR:=hid hLr;have HEL:=hid (show es.length≤1000 by rw[←hN];exact hel);have HREC:=hid (fun W (hW:Below w.heap.size w W)=>records_any (r.below hW).log.logR (by omega) (by omega));have HRP:=hid (fun W (hW:Below w.heap.size w W)=>(⟨eg,eo,hea,fun j u hu=>⟨Nat.lt_of_lt_of_le (hecell j u hu).2.1 hW.size,stays' hW (hecell j u hu).2.2⟩⟩:ReadsP W a es));have HFR:=hid (r.log.logR.fine L fun _ hs=>hs);have hNm:(N:Int)≤1000:=by omega
 clear hsh hes hN hea hecell hena hefi hebo r hi hW hc hLs hLr hchn;go_enter Tryz.func10,Tryz.ntmps10
 go_wp2_with fail
 refine(HREC.out _ (Below.refl _ _)).mono ?_;rintro e w1 ⟨ra,rc,rfl,hr1,hb1⟩;obtain⟨v2,w2,hrun2,hr2,hg2,-⟩:=run_appP hr1 (by have:=HLR.out;omega) hb1.size HN.out (HRP.out _ hb1) HEF.out (by have:=HEL.out;omega) HENA.out;have HB2:=hid (hb1.grown hg2 hb1.size fun k e=>(World.ownsRow.lt hr1 k e).1);have HR2:=hid hr2;clear hr1 hb1 hr2 hg2;go_wp2_with (at_builtin;go_loud (refine Lib.wpList_append_run _ rfl _ _ _ _ rfl _ _ rfl rfl _ _ hrun2 ?_))
 obtain⟨a2,c2,hv2,-⟩:=slice_shape HR2.out;subst hv2;refine(row_any (RowP.reads HR2.out).1 (HFR.out.append HEF.out) (by have:=HLR.out;have:=HEL.out;simp;omega) c2).mono ?_;rintro e w3 ⟨la,lc,l3,k3,rfl,hri,-,hb3⟩;have hk3:k3=(recsOf L).length+N:=by rw[(hri.some HCH.out.choose_spec).1,HN.out,List.length_append]
 subst hk3;have HB3:=hid (HB2.out.trans (hb3.mono HB2.out.size));clear hri hb3 hrun2;go_wp2_with fail
 refine(HREC.out _ HB3.out).mono ?_;rintro e w4 ⟨ra4,rc4,rfl,-,hb4⟩;have HB4:=hid (HB3.out.trans (hb4.mono HB3.out.size));have hkne:(((recsOf L).length:Int)+(N:Int) != ((recsOf L).length:Int)+(N:Int))=false:=by simp
 have hkm:((recsOf L).length:Int)≤142208:=by have:=HLR.out;omega
 clear hb4 HREC;go_wp2_with fail
 go_loopw [7] (fun i wr=> ∃(j:Nat),i= .int .i64 (j:Int)∧j≤N∧(∀i (hi:i<es.length),i<j→es[i].1.body.length≤2000)∧Hid (Below w.heap.size w wr)) (fun i _=>N - (intOf i).toNat)
 case atStart=>exact⟨0,rfl,Nat.zero_le _,fun i _ h=>absurd h (Nat.not_lt_zero _),HB4⟩
 case round=>
  obtain⟨j,rfl,hj,hall,HB⟩:=hrel;have HALL:=hid hall;clear hall;by_cases hlt:j<N
  ·have hjl:j<es.length:=by rw[←HN.out];exact hlt
   obtain⟨-,-,e2⟩:=pcells_at es j hjl;have k2:=HEC.out _ _ e2;obtain⟨pa,pc,hpv,-,-,-⟩:=HEB.out es[j] (List.getElem_mem hjl);have hae:=HEA.out (fun e=>by rw[e] at hjl;simp at hjl);subst hae;rw[hpv,←Nat.add_assoc] at k2;have c2:=stays' HB.out k2.2.2;obtain⟨bl,hbl2⟩: ∃x,x=es[j].1.body.length:=⟨_,rfl⟩;rw[←hbl2] at c2;have HBL:=hid hbl2;have dk:decide ((j:Int)<(N:Int))=true:=decide_eq_true (by omega);have dk2:decide (j<N)=true:=decide_eq_true hlt;have dk3:decide ((j:Int)<0)=false:=by simp
   have hk0:(0:Int)≤j:=by omega
   have hk1:(j:Int)≤1000:=by omega
   have hk2:(j:Int)<(N:Int):=by omega
   clear k2 e2 hpv hbl2;by_cases hb:bl≤2000
   ·have dk4:decide ((2000:Int)<(bl:Int))=false:=decide_eq_false (by omega)
    go_wp2_with fail
    go_roundw
    case rel=>exact⟨j+1,by go_num,by omega,(fun i hi h=>by
     by_cases e:i=j
     ·subst e;rw[←HBL.out];exact hb
     ·exact HALL.out i hi (by omega)),HB⟩
    case measure=>simp [intOf];omega
   ·have dk4:decide ((2000:Int)<(bl:Int))=true:=decide_eq_true (by omega)
    go_wp2_with fail
    go_ret
    exact⟨rfl,HB.out⟩
  ·exfalso
   exact short_at HSH.out fun i hi=>HALL.out i hi (by have:=HN.out;omega)
theorem append_no {w:World} {B n h g:Nat} {S T K:Nat→Prop} {M:Files} {L:List SV} {E:List Ent} (r:RS w B n h g S T K M L) (hi:Inv M) (hW:Whole M (logOf L) E) (es:List EV) (a:Option Addr) (c:Nat) (hes:SegK w K ⟨0,.slice a es.length c,es⟩)
  (hr:refuse (lastIx E) (es.map Prod.fst)≠0) (hel:es.length≤1000):
  Calls Tryz.prog 10 #[.pointer (some ⟨h,0,none⟩),.slice a es.length c] w fun e w'=>e= .returned (.int .i64 (refuse (lastIx E) (es.map Prod.fst)))∧Below w.heap.size w w':=by
 by_cases hok:okIx (lastIx E) (es.map Prod.fst)=true
 ·have hsh:short (es.map Prod.fst)=false:=by
   cases hs:short (es.map Prod.fst) with
   | false=>rfl
   | true=>exact absurd (by unfold refuse;rw[if_pos hok,if_pos hs]) hr
  have he:refuse (lastIx E) (es.map Prod.fst)=3:=by unfold refuse;rw[if_pos hok,if_neg (by rw[hsh];decide)]
  rw[he];exact append_no3 r hi hW es a c hes (Pz.chain_okIx _ hok) hsh hel
 ·have he:refuse (lastIx E) (es.map Prod.fst)=2:=by unfold refuse;rw[if_neg hok]
  rw[he];refine append_no2 r hi hW es a c hes ?_ hel;cases hc:chain E (es.map Prod.fst) with
  | none=>rfl
  | some E'=>exact absurd (okIx_chain _ hc) hok
end Rl
end Go.Proofs.YtalfbcbnljhldaaGreatDoor

namespace Go.Proofs.YtalfbcbnljhldaaGreatDoor.Num
def val (l:List Int):Nat→Nat
 | 0=>0
 | k+1=>val l k+(l.getD k 0).toNat % 128*128 ^ k
theorem val_cons (c:Int) (r:List Int) (k:Nat):val (c::r) (k+1)=c.toNat % 128+128*val r k:=by
 induction k with
 | zero=>simp [val]
 | succ k ih=>
  rw[val,ih,val,List.getD_cons_succ,Nat.pow_succ,Nat.mul_add,Nat.add_assoc];congr 2
  rw[Nat.mul_comm (128 ^ k) 128,←Nat.mul_assoc,←Nat.mul_assoc];congr 1
  exact Nat.mul_comm _ _
theorem val_enc: ∀(f n:Nat) (rest:List Int),n<128 ^ (f+1)→val (enc f n++rest) (enc f n).length=n
 | 0,n,rest,h=>by
  simp at h;simp [enc,val];omega
 | f+1,n,rest,h=>by
  by_cases hn:n<128
  ·rw[enc_small _ _ hn]
   simp [val];omega
  ·rw[enc_big _ _ hn,List.cons_append,List.length_cons,val_cons,val_enc f (n / 128) rest (by rw[Nat.pow_succ] at h;exact Nat.div_lt_of_lt_mul (by rw[Nat.mul_comm];exact h))]
   have e:(((n % 128+128:Nat):Int)).toNat % 128=n % 128:=by omega
   rw[e];omega
theorem enc_shape: ∀(f n:Nat),n<128 ^ (f+1)→(∀i,i+1<(enc f n).length→128≤(enc f n).getD i 0)∧(enc f n).getD ((enc f n).length - 1) 0<128
 | 0,n,h=>by
  simp at h;simp [enc];omega
 | f+1,n,h=>by
  by_cases hn:n<128
  ·rw[enc_small _ _ hn]
   simp;omega
  ·rw[enc_big _ _ hn]
   have ih:=enc_shape f (n / 128) (by rw[Nat.pow_succ] at h;exact Nat.div_lt_of_lt_mul (by rw[Nat.mul_comm];exact h));have hl:=(enc_len f (n / 128)).1;refine⟨fun i hi=>?_,?_⟩
   ·cases i with
    | zero=>simp;omega
    | succ i=>
     rw[List.getD_cons_succ];exact ih.1 i (by simpa using hi)
   ·rw[List.length_cons,show(enc f (n / 128)).length+1 - 1=((enc f (n / 128)).length - 1)+1 by omega,List.getD_cons_succ]
    exact ih.2
theorem dec_where {l:List Int} {n j:Nat} (hr: ∀x∈l,0≤x∧x≤255) (h:dec 10 0 0 l=some (n,j)):
  val l j=n∧1≤j∧j≤10∧j≤l.length∧(∀i,i+1<j→128≤l.getD i 0)∧l.getD (j - 1) 0<128∧n<18446744073709551616∧l.take j=put n:=by
 obtain⟨ht,hj⟩:=dec_is hr h;obtain⟨h1,h2,h3⟩:=dec_lt 10 0 0 l n j (by omega) (by simp) hr h;have hl:=put_len n;have hb:n<128 ^ (9+1):=Nat.lt_of_lt_of_le h1 (by decide);have e:=List.take_append_drop j l;rw[ht] at e;have hs:=enc_shape 9 n hb;have hg: ∀i,i<j→l.getD i 0=(put n).getD i 0:=fun i hi=>by
  rw[←e];simp only[List.getD];rw[List.getElem?_append_left (by omega)]
 refine⟨?_,by omega,by omega,by omega,fun i hi=>?_,?_,h1,ht⟩
 ·rw[←e,hj]
  exact val_enc 9 n _ hb
 ·rw[hg i (by omega)]
  exact hs.1 i (by unfold put at hj;omega)
 ·rw[hg (j - 1) (by omega),hj]
  exact hs.2
theorem dec_tail {l:List Int} {k:Nat} (hr: ∀x∈l,0≤x∧x≤255) (hk: ∀i,i<k→128≤l.getD i 0) (he:l.length≤k∨10≤k):dec 10 0 0 l=none:=by
 cases h:dec 10 0 0 l with
 | none=>rfl
 | some p=>
  obtain⟨n,j⟩:=p;obtain⟨_,h1,h2,h3,_,h5,_⟩:=dec_where hr h;have:=hk (j - 1) (by omega);omega
theorem dec_stop {l:List Int} {k n:Nat} (hr: ∀x∈l,0≤x∧x≤255) (hk: ∀i,i<k→128≤l.getD i 0) (hc:l.getD k 0<128) (hkl:k<l.length) (hn:n=val l (k+1) % 18446744073709551616):
  dec 10 0 0 l=if put n=l.take (k+1) then some (n,k+1) else none:=by
 split
 ·next ht=>
  have e:=List.take_append_drop (k+1) l;rw[←ht] at e;have h:=dec_put n (by omega) (l.drop (k+1));rw[e] at h;rw[h,ht,List.length_take];congr 2
  omega
 ·next ht=>
  cases h:dec 10 0 0 l with
  | none=>rfl
  | some p=>
   obtain⟨m,j⟩:=p;obtain⟨h0,h1,h2,h3,h4,h5,h6,h7⟩:=dec_where hr h;have hj:j=k+1:=by
    rcases Nat.lt_trichotomy (j - 1) k with h' | h' | h'
    ·have:=hk (j - 1) h'
     omega
    ·omega
    ·have:=h4 k (by omega)
     omega
   subst hj;rw[h0,Nat.mod_eq_of_lt h6] at hn;subst hn;exact absurd h7.symm ht
theorem weight_next (q k:Nat) (h:q=128 ^ k % 18446744073709551616):q*128 % 18446744073709551616=128 ^ (k+1) % 18446744073709551616:=by
 rw[h,Nat.pow_succ,Nat.mod_mul_mod]
theorem val_next (l:List Int) (n q z k:Nat) (hn:n=val l k % 18446744073709551616) (hq:q=128 ^ k % 18446744073709551616) (hz:(l.getD k 0).toNat=z):
  (n+z % 128*q % 18446744073709551616) % 18446744073709551616=val l (k+1) % 18446744073709551616:=by
 rw[val,hz,hn,hq];have h1:z % 128*(128 ^ k % 18446744073709551616) % 18446744073709551616=z % 128*128 ^ k % 18446744073709551616:=by rw[Nat.mul_mod_mod]
 rw[h1,←Nat.add_mod]
end Go.Proofs.YtalfbcbnljhldaaGreatDoor.Num

set_option linter.unusedSimpArgs false
namespace Go.Proofs.YtalfbcbnljhldaaGreatDoor
open Go.Lib (hid)
open Go.RowKit
set_option maxRecDepth 100000 in
set_option maxHeartbeats 4000000 in
theorem refTake_any (a:Option Addr) (len cap p:Nat) (zs:List Int) (w:World) (hlies:Reads w a zs) (hz:len=zs.length) (hl:len≤1000000) (hp:p≤len) (hcap:len≤cap) (hcm:cap≤9223372036854775807):
  Calls Tryz.prog 65 #[.slice a len cap,.int .i64 (p:Int)] w fun e w'=>Took w w' p e (Num.dec 10 0 0 (zs.drop p)):=by
 have HC:=hid hlies;have HZ:=hid hz;have hrd: ∀x∈zs.drop p,0≤x∧x≤255:=fun x hx=>hlies.hr x (List.mem_of_mem_drop hx);have HRD:=hid hrd;have hdl:(zs.drop p).length=len - p:=by rw[List.length_drop,hz]
 have HDL:=hid hdl;clear hlies hz hrd hdl;obtain⟨l,hldef⟩: ∃l,l=zs.drop p:=⟨_,rfl⟩;rw[←hldef] at HRD HDL ⊢;have HLD:=hid hldef;clear hldef;go_enter Tryz.func65,Tryz.ntmps65
 go_wp2_with fail
 go_loop [7,8,9] (fun n q i=> ∃k n0 q0:Nat,k≤10∧p+k≤len∧n= .int .u64 (n0:Int)∧q= .int .u64 (q0:Int)∧i= .int .i64 ((p:Int)+(k:Int))∧Hid (n0=Num.val l k % 18446744073709551616)∧Hid (q0=128 ^ k % 18446744073709551616)∧n0<18446744073709551616∧q0<18446744073709551616∧Hid (∀j,j<k→128≤l.getD j 0)) (fun _ _ i=>len - (intOf i).toNat)
 case atStart=>exact⟨0,0,1,by omega,by omega,rfl,rfl,by simp,rfl,by simp [Hid],by omega,by omega,fun j hj=>by omega⟩
 case round=>
  obtain⟨k,n0,q0,hk,hpk,rfl,rfl,rfl,HN0,HQ0,hn0,hq0,HBIG⟩:=hrel;by_cases hend:p+k<len∧k<10
  ·have hlt:p+k<len:=hend.1
   have h10:k<10:=hend.2;have hcell0: ∃x,a=some x∧w.cell? (x.add (p+k))=some (.int .u8 (zs.getD (p+k) 0)):=by
    obtain⟨x,hx,_,hc⟩:=HC.out.cell (p+k) (by rw[←HZ.out];exact hlt);exact⟨x,hx,hc⟩
   obtain⟨x,rfl,hcell⟩:=hcell0;have hrange:=HC.out.range (p+k);have hgd:l.getD k 0=zs.getD (p+k) 0:=by rw[HLD.out];simp [List.getD,List.getElem?_drop]
   obtain⟨z,hzz⟩: ∃z:Nat,zs.getD (p+k) 0=(z:Int):=⟨(zs.getD (p+k) 0).toNat,by omega⟩;rw[hzz] at hcell hrange hgd;have hnext:=Num.val_next l n0 q0 z k HN0.out HQ0.out (by rw[hgd];simp);have hqn:=Num.weight_next q0 k HQ0.out;have HNX:=hid hnext;have HQN:=hid hqn;have HG:=hid hgd;clear hnext hqn hzz hgd;have hA:IntKind.u64.wrap ((z:Int) % 128*(q0:Int))=((z % 128*q0 % 18446744073709551616:Nat):Int):=by
    rw[show(z:Int) % 128*(q0:Int)=((z % 128*q0:Nat):Int) by rw[Int.natCast_mul,Int.natCast_emod];rfl,IntKind.wrap_u64];generalize z % 128*q0=y;omega
   have hB:IntKind.u64.wrap ((n0:Int)+((z % 128*q0 % 18446744073709551616:Nat):Int))=(((n0+z % 128*q0 % 18446744073709551616) % 18446744073709551616:Nat):Int):=by
    rw[IntKind.wrap_u64];generalize z % 128*q0=y;omega
   have hQ:IntKind.u64.wrap ((q0:Int)*128)=((q0*128 % 18446744073709551616:Nat):Int):=by rw[IntKind.wrap_u64];omega
   have hn1:(n0+z % 128*q0 % 18446744073709551616) % 18446744073709551616<18446744073709551616:=Nat.mod_lt _ (by decide);have hq1:q0*128 % 18446744073709551616<18446744073709551616:=Nat.mod_lt _ (by decide);generalize (n0+z % 128*q0 % 18446744073709551616) % 18446744073709551616=n1 at*;generalize q0*128 % 18446744073709551616=q1 at*;generalize z % 128*q0 % 18446744073709551616=t at*;by_cases h128:z<128
   ·have hz128:=h128
    have hw1:IntKind.i64.wrap ((p:Int)+(k:Int)+1)=(p:Int)+(k:Int)+1:=by rw[IntKind.wrap_i64];omega
    have c1:0≤(p:Int)+(k:Int)+1∧(p:Int)+(k:Int)+1≤(cap:Int):=by omega
    have c2:p≤((p:Int)+(k:Int)+1).toNat:=by omega
    have c3:((p:Int)+(k:Int)+1).toNat - p=k+1:=by omega
    have c4: ¬cap=p:=by omega
    have TXT: ∀W,Below w.heap.size w W→(convert 39 9 (.slice (some (x.add p)) (k+1) (cap - p))).run Tryz.prog W= .ok (.string (strOfNums (l.take (k+1)))) W:=fun W hW=>by
     have h1:=((HC.out.below hW).drop p).take (k+1);rw[←HLD.out] at h1;exact h1.text (k+1) (cap - p) (by rw[List.length_take,HDL.out];omega)
    have hstop:=Num.dec_stop (l:=l) (k:=k) (n:=n1) HRD.out HBIG.out (by rw[HG.out];omega) (by rw[HDL.out];omega) HNX.out;have hse:=str_eq (xs:=Num.enc 9 n1) (ys:=l.take (k+1)) (Num.enc_range 9 n1 (Nat.lt_of_lt_of_le hn1 (by decide))) (fun y hy=>HRD.out y (List.mem_of_mem_take hy));have HST:=hid hstop;have HSE:=hid hse;clear hstop hse;go_wp2_with fail
    refine wp_region_held_drew (S:=fun W=>Below w.heap.size w W) (by kernel_rfl) (Below.refl _ _).drew (fun hHeld=>?_);refine zkH 0 (v:=?_) (h2:=?_) (h:=?_);rotate_left;focus (intro W hS;(try dsimp only at hS);go_simp;(try with_reducible rfl))
    try simp only[Act.put,zsA,zsS,zsZ]
    refine zkH 3 (v:=?_) (h2:=?_) (h:=?_);rotate_left;focus (intro W hS;(try dsimp only at hS);go_simp;(try with_reducible rfl))
    try simp only[Act.put,zsA,zsS,zsZ]
    refine zkH 4 (v:=?_) (h2:=?_) (h:=?_);rotate_left;focus (intro W hS;(try dsimp only at hS);go_simp;(try with_reducible rfl))
    try simp only[Act.put,zsA,zsS,zsZ]
    refine zkH 5 (v:=?_) (h2:=?_) (h:=?_);rotate_left;focus (intro W hS;(try dsimp only at hS);go_simp;(try with_reducible rfl))
    try simp only[Act.put,zsA,zsS,zsZ]
    refine zkH 6 (v:=?_) (h2:=?_) (h:=?_);rotate_left;focus (intro W hS;(try dsimp only at hS);go_simp;(try with_reducible rfl))
    try simp only[Act.put,zsA,zsS,zsZ]
    refine zkH 7 (v:=?_) (h2:=?_) (h:=?_);rotate_left;focus (intro W hS;(try dsimp only at hS);go_simp;(try with_reducible rfl))
    try simp only[Act.put,zsA,zsS,zsZ]
    refine zkH 8 (v:=?_) (h2:=?_) (h:=?_);rotate_left;focus (intro W hS;(try dsimp only at hS);have q:=TXT W hS;go_simp;(try with_reducible rfl))
    try simp only[Act.put,zsA,zsS,zsZ]
    refine zrH 1 (h:=fun K hK=>?_);rw[if_pos (by rfl)];go_simp
    with_reducible refine(refPut_any 9 n1 _ (by omega) (Nat.lt_of_lt_of_le hn1 (by decide)) hn1).mono ?_
    rintro e w3 ⟨v3,rfl,hr3,hb3⟩;have h3:=(Below.refl w.heap.size w).drew.trans hb3;have HT3:=hid (fun W (h:Below w3.heap.size w3 W)=>Row.text hr3 h);clear hr3 hb3;go_wp2_with fail
    refine hK.out _ _ h3 (fun hHeld=>?_);clear hK K;try simp only[Act.put,zsA,zsS,zsZ]
    clear hHeld;refine wpAnyH_sharper (S':=fun W=>Below w3.heap.size w3 W) (fun W h=>h3.trans (h.mono h3.size)) _ _ _ _ ?_;have hHeld:=Below.refl w3.heap.size w3;refine zkH 2 (v:=?_) (h2:=?_) (h:=?_);rotate_left;focus (intro W hS;(try dsimp only at hS);have q:=HT3.out W hS;go_simp;(try with_reducible rfl))
    try simp only[Act.put,zsA,zsS,zsZ]
    refine zkH 9 (v:=?_) (h2:=?_) (h:=?_);rotate_left;focus (intro W hS;(try dsimp only at hS);go_simp;(try with_reducible rfl))
    try simp only[Act.put,zsA,zsS,zsZ]
    refine wpAnyH_done (by kernel_rfl) ?_ _;have hbb:=HSE.out;generalize ((strOfNums (Num.enc 9 n1)).toList == (strOfNums (l.take (k+1))).toList)=bb at hbb ⊢;by_cases heq:Num.enc 9 n1=l.take (k+1)
    ·rw[decide_eq_true heq] at hbb
     subst hbb;have h2:Num.dec 10 0 0 l=some (n1,k+1):=HST.out.trans (if_pos heq);have HD:=hid h2;clear heq h2 HST;go_wp2
     go_ret3
     rw[HD.out];exact⟨by go_num,h3⟩
    ·rw[decide_eq_false heq] at hbb
     subst hbb;have h2:Num.dec 10 0 0 l=none:=HST.out.trans (if_neg heq);have HD:=hid h2;clear heq h2 HST;go_wp2
     go_ret3
     rw[HD.out];exact⟨rfl,h3⟩
   ·go_wp2
    go_round
    case rel=>
     have hbig:Hid (∀j,j<k+1→128≤l.getD j 0):=fun j hj=>by
      by_cases hjk:j<k
      ·exact HBIG.out j hjk
      ·obtain rfl:j=k:=by omega
       rw[HG.out];omega
     exact⟨_,_,_,_,_,_,⟨k+1,by omega,by omega,n1,rfl,q1,rfl,rfl,HNX,HQN,hn1,hq1,hbig⟩,rfl,rfl,rfl,rfl,rfl,by go_num⟩
    case measure=>simp [intOf];omega
  ·have HE:=hid hend
   clear hend;by_cases hlt:p+k<len
   ·have h10:k=10:=by have:=HE.out;omega
    subst h10;go_wp2
    go_ret3
    rw[Num.dec_tail HRD.out HBIG.out (.inr (Nat.le_refl _))];exact⟨rfl,Below.refl _ _⟩
   ·go_wp2
    go_ret3
    rw[Num.dec_tail HRD.out HBIG.out (.inl (by rw[HDL.out];omega))];exact⟨rfl,Below.refl _ _⟩
end Go.Proofs.YtalfbcbnljhldaaGreatDoor

namespace Go.Proofs.YtalfbcbnljhldaaGreatDoor
open Go.Lib (hid)
open Go.RowKit
set_option maxRecDepth 100000 in
set_option maxHeartbeats 1000000 in
theorem refTakeText_any (a:Option Addr) (len cap p:Nat) (zs:List Int) (w:World) (hlies:Reads w a zs) (hz:len=zs.length) (hl:len≤1000000) (hp:p≤len) (hcap:len≤cap) (hcm:cap≤9223372036854775807):
  Calls Tryz.prog 66 #[.slice a len cap,.int .i64 (p:Int)] w fun e w'=>TookText w w' len p zs e (Num.dec 10 0 0 (zs.drop p)):=by
 have hlt:=fun n j h=>Num.dec_lt 10 0 0 (zs.drop p) n j (by omega) (by simp) (fun x hx=>hlies.hr x (List.mem_of_mem_drop hx)) h;have HT:=hid (refTake_any a len cap p zs w hlies hz hl hp hcap hcm);have HLT:=hid hlt;have HL:=hid hlies;have hzz:=hz;clear hlt hlies hz;have hdl:(zs.drop p).length=len - p:=by rw[List.length_drop];omega
 rw[hdl] at HLT;have HZ:=hid hzz;clear hzz hdl;obtain⟨D,hD⟩: ∃D,D=Num.dec 10 0 0 (zs.drop p):=⟨_,rfl⟩;rw[←hD] at HT HLT ⊢;clear hD;go_enter Tryz.func66,Tryz.ntmps66
 go_wp2_with fail
 with_reducible refine HT.out.mono ?_
 intro e w1 ht;clear HT;cases D with
 | none=>
  obtain⟨rfl,hb⟩:=ht;go_wp2_with fail
  go_ret3
  exact⟨rfl,hb⟩
 | some nk=>
  obtain⟨n,k⟩:=nk;obtain⟨rfl,hb⟩:=ht;obtain⟨hn,hk0,hk⟩:=HLT.out n k rfl;by_cases hbig:4096<n
  ·go_wp2_with fail
   go_ret3
   exact⟨hb,by rw[if_neg (by omega)];rfl⟩
  ·by_cases hfit:p+k+n≤len
   ·have HP:Hid (n≤4096∧p+k+n≤len):=⟨by omega,hfit⟩
    by_cases hc:cap=p+k
    ·obtain rfl:n=0:=by omega
     have hcv: ∀c:Nat,(convert 39 9 (.slice a 0 c)).run Tryz.prog w1= .ok (.string ByteArray.empty) w1:=fun c=>
      run_convert_bytes_zero w1 _ _ Tryz.underlying39 Tryz.underlying5 a c _ Tryz.underlying9
     go_wp2_with fail
     go_ret3
     exact⟨hb,by rw[if_pos HP.out];rfl⟩
    ·have hcv:(convert 39 9 (.slice (Option.map (fun x=>x.add (p+k)) a) n (cap - (p+k)))).run Tryz.prog w1= .ok (.string (strOfNums ((zs.drop (p+k)).take n))) w1:=
      (((HL.out.below hb).drop (p+k)).take n).text n _ (by have:=HZ.out;rw[List.length_take,List.length_drop];omega)
     go_wp2_with fail
     go_ret3
     exact⟨hb,by rw[if_pos HP.out];rfl⟩
   ·go_wp2_with fail
    go_ret3
    exact⟨hb,by rw[if_neg (by omega)];rfl⟩
theorem below_drewN (w:World) (n:Nat):Below w.heap.size w (w.drewN n):=⟨rfl,rfl,rfl,Nat.le_refl _,fun _ _=>rfl⟩
set_option maxRecDepth 100000 in
set_option maxHeartbeats 1000000 in
theorem refFirst_any (a:Option Addr) (len cap:Nat) (bs:List Int) (w:World) (hz:len=bs.length) (hp:Reads w a bs) (hl:len≤1000000) (hcap:len≤cap) (hcm:cap≤9223372036854775807):
  Calls Tryz.prog 64 #[.slice a len cap] w fun e w'=>ToldFirst w w' e (Frame.firstOf bs):=by
 by_cases h0:len=0
 ·have hbs:Frame.firstOf bs=none:=by
   cases bs with
   | nil=>rfl
   | cons b r=>simp at hz;omega
  rw[hbs];subst h0;clear hz hp hbs hcap hcm hl;go_enter Tryz.func64,Tryz.ntmps64
  go_wp2_with fail
  go_ret3
  exact⟨rfl,Below.refl _ _⟩
 ·obtain⟨x,rfl,_,hcell⟩:=hp.cell 0 (by omega)
  have hx0:x.add 0=x:=by unfold Addr.add;split<;>simp_all
  rw[hx0] at hcell;have hrange:=hp.range 0;obtain⟨z,hzz⟩: ∃z:Nat,bs.getD 0 0=(z:Int):=⟨(bs.getD 0 0).toNat,by omega⟩;rw[hzz] at hcell hrange;by_cases h90:z=90
  ·subst h90
   have T0:=refTakeText_any (some x) len cap 1 bs w hp hz hl (by omega) hcap hcm;rw[show((1:Nat):Int)=1 from rfl] at T0;have T:=hid T0;clear T0 hzz;have HD:=hid (fun h=>Frame.first_none_dec (bs:=bs) h);have HF:=hid (fun n k h=>Frame.first_none_fit (bs:=bs) (n:=n) (k:=k) h);have HB:=hid (fun zs n k=>Frame.first_by (bs:=bs) (zs:=zs) (n:=n) (k:=k) hp.hr);have HP:=hid hp;have HZ:=hid hz;clear hp hz;obtain⟨D,hD⟩: ∃D,D=Num.dec 10 0 0 (bs.drop 1):=⟨_,rfl⟩;rw[←hD] at T HD;have HDD:=hid hD;clear hD;go_enter Tryz.func64,Tryz.ntmps64
   go_wp2_with fail
   with_reducible refine T.out.mono ?_
   intro e w1 ht;clear T;cases D with
   | none=>
    obtain⟨rfl,hb⟩:=ht;go_wp2_with fail
    go_ret3
    rw[HD.out (by trivial)];exact⟨rfl,hb⟩
   | some nk=>
    obtain⟨n,k⟩:=nk;obtain⟨hb,ht⟩:=ht;by_cases hfit:n≤4096∧1+k+n≤len
    ·rw[if_pos hfit] at ht
     subst ht;obtain⟨zs,hzs⟩: ∃zs,zs=(bs.drop (1+k)).take n:=⟨_,rfl⟩;have hzr: ∀x∈zs,0≤x∧x≤255:=fun x hx=>by rw[hzs] at hx;exact HP.out.hr x (List.mem_of_mem_drop (List.mem_of_mem_take hx))
     have hzl:zs.length≤4096:=by rw[hzs,List.length_take];omega
     have HBY:=hid (HB.out zs n k HDD.out.symm hfit.1 hzs);rw[←hzs];clear hzs HB HF HD HDD hfit;have hcv:=fun W:World=>Lib.run_convert_string_bytes (P:=Tryz.prog) W 9 39 5 (strOfNums zs) Tryz.underlying9 Tryz.underlying39 Tryz.underlying5;have hsz:=strOfNums_size zs;rw[hsz] at hcv;have hb1:=below_bytes w1 5 (strOfNums zs);have hz1:=Lib.bytesWorld_size w1 5 (strOfNums zs);have hhere:=bytes_here w1 zs hzr (by omega);obtain⟨c1,hc1⟩: ∃c1,grownCap w1 zs.length 0 5=c1:=⟨_,rfl⟩;have hcv1:=hcv w1;rw[hc1] at hcv1;have HCV:=hid hcv;have HSZ:=hid hsz;have HZR:=hid hzr;clear hsz hc1 hzr hcv;generalize Lib.bytesWorld w1 5 (strOfNums zs)=W1 at*;go_wp2_with fail
     with_reducible refine(refFramePut_any (some ⟨w1.heap.size,0,none⟩) zs.length c1 zs _ rfl hhere.reads hzl).mono ?_
     rintro e w2 ⟨g,c,rfl,hr2,hb2⟩;have hbz:=hb.size;have hfl:=Frame.frame_len zs;have hpl:=Num.put_len zs.length;have hrd2:Reads w2 (some ⟨g,0,none⟩) (Frame.frameOf zs):=(hr2.here (Frame.frame_range hzl HZR.out) (by omega)).1.reads;obtain⟨fs,hfs⟩: ∃fs,fs=Frame.frameOf zs:=⟨_,rfl⟩;rw[←hfs] at hr2 hrd2 HBY hfl ⊢;have hfl2:fs.length≤4200:=by omega
     clear hfl hpl hfs;have B2:=(hb.trans (hb1.mono hbz)).trans (hb2.mono (by omega));have hbs2:=HP.out.below B2;clear hr2 hb2 hb1 hb hhere hcv1;have hz2:=B2.size;by_cases hfit2:fs.length≤len
     ·have q1: ∀n,(convert 39 9 (.slice (some ⟨g,0,none⟩) fs.length c)).run Tryz.prog (w2.drewN n)= .ok (.string (strOfNums fs)) (w2.drewN n):=fun n=>(hrd2.below (below_drewN w2 n)).text fs.length c rfl
      have q2: ∀n,(convert 39 9 (.slice (some x) fs.length cap)).run Tryz.prog (w2.drewN n)= .ok (.string (strOfNums (bs.take fs.length))) (w2.drewN n):=fun n=>((hbs2.below (below_drewN w2 n)).take fs.length).text fs.length cap (by rw[List.length_take];have:=HZ.out;omega);have hse:=str_eq (xs:=fs) (ys:=bs.take fs.length) hrd2.hr (fun y hy=>HP.out.hr y (List.mem_of_mem_take hy));have HSE:=hid hse;clear hse hrd2 hbs2;have hcf:fs.length≤cap:=by omega
      go_wp2_with fail
      go_quiet (fail)
      have hdl:decide (len<fs.length)=false:=by rw[decide_eq_false_iff_not];omega
      rw[hdl,Bool.false_or];have hbb:=HSE.out;generalize ((strOfNums fs).toList == (strOfNums (bs.take fs.length)).toList)=bb at hbb ⊢;have b3:Below w.heap.size w (w2.drewN nq):=B2.trans ((below_drewN w2 nq).mono hz2);by_cases ht:bs.take fs.length=fs
      ·have h2:Frame.firstOf bs=some (zs,fs.length):=HBY.out.trans (if_pos ht)
       rw[decide_eq_true ht.symm] at hbb;subst hbb;have HY:=hid h2;have hcv2:=HCV.out (w2.drewN nq);have hgc:=grownCap_ge (w2.drewN nq) zs.length 0 5;have hb4:=below_bytes (w2.drewN nq) 5 (strOfNums zs);have hh4:=bytes_here (w2.drewN nq) zs HZR.out (by omega);have HB4:=hid (b3.trans (hb4.mono b3.size));have hz4:w.heap.size≤(w2.drewN nq).heap.size:=b3.size;clear ht h2 HBY hb4 hdl q1 q2 b3;generalize w2.drewN nq=w3 at*;go_wp2
       go_ret3
       rw[HY.out];exact⟨_,_,rfl,hz4,hh4,hgc,HB4.out⟩
      ·have h2:Frame.firstOf bs=none:=HBY.out.trans (if_neg ht)
       rw[decide_eq_false (fun h=>ht h.symm)] at hbb;subst hbb;have HY:=hid h2;clear ht h2 HBY hdl q1 q2;go_wp2
       go_ret3
       rw[HY.out];exact⟨rfl,b3⟩
     ·have hgt:len<fs.length:=by omega
      have h2:Frame.firstOf bs=none:=HBY.out.trans (if_neg fun h=>by
       have h3:=congrArg List.length h;rw[List.length_take] at h3;have:=HZ.out;omega)
      have HY:=hid h2;clear h2 HBY hrd2 hbs2;go_wp2_with fail
      go_quiet (fail)
      have b3:Below w.heap.size w (w2.drewN nq):=B2.trans ((below_drewN w2 nq).mono hz2);go_wp2
      go_ret3
      rw[HY.out];exact⟨rfl,b3⟩
    ·rw[if_neg hfit] at ht
     subst ht;go_wp2_with fail
     go_ret3
     rw[HF.out n k HDD.out.symm (by rw[←HZ.out];exact hfit)];exact⟨rfl,hb⟩
  ·have hne:((z:Int) != 90)=true:=by rw[bne_iff_ne];omega
   have hne0:((len:Int) == 0)=false:=by rw[beq_eq_false_iff_ne];omega
   have hnone:Frame.firstOf bs=none:=by
    cases hf:Frame.firstOf bs with
    | none=>rfl
    | some q=>
     obtain⟨_,_,_,_,_,_,h,_⟩:=Frame.first_dec (ys:=q.1) (m:=q.2) hf;omega
   rw[hnone];clear hzz hnone hp hz;go_enter Tryz.func64,Tryz.ntmps64
   go_wp2_with fail
   go_ret3
   exact⟨rfl,Below.refl _ _⟩
end Go.Proofs.YtalfbcbnljhldaaGreatDoor

namespace Go.Proofs.YtalfbcbnljhldaaGreatDoor
open Go.RowKit Go.Maps Dsk Wl
theorem rec_same {bs:List Int} {n k t j m i:Nat} (hr: ∀x∈bs,0≤x∧x≤255) (h1:Num.dec 10 0 0 bs=some (n,k)) (h2:Num.dec 10 0 0 (bs.drop k)=some (t,j)) (h3:Num.dec 10 0 0 (bs.drop (k+j))=some (m,i)) (hok:(Ent.mk n t ((bs.drop (k+j+i)).take m)).ok):
  parseOf bs=if recOf ⟨n,t,(bs.drop (k+j+i)).take m⟩=bs then some ⟨n,t,(bs.drop (k+j+i)).take m⟩ else none:=by
 split
 ·rename_i h
  have:=parse_rec hok;rwa [h] at this
 ·rename_i h
  by_cases hc:m≤2000∧k+j+i+m=bs.length∧n≠0
  ·have htk:(bs.drop (k+j+i)).take m=bs.drop (k+j+i):=List.take_of_length_le (by rw[List.length_drop];omega)
   have hp:parseOf bs=some ⟨n,t,bs.drop (k+j+i)⟩:=by simp only[parseOf,h1,h2,h3];rw[if_pos hc]
   rw[htk] at h;exact absurd (parse_is hr hp).2 h
  ·exact parse_bad h1 h2 h3 hc
end Go.Proofs.YtalfbcbnljhldaaGreatDoor
