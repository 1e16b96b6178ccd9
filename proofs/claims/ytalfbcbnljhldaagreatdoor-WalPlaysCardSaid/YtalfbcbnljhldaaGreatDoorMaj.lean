/-  -/
import Derived.Test.YtalfbcbnljhldaaGreatDoorRdF
import Derived.Test.YtalfbcbnljhldaaGreatDoorMag
namespace Go.Proofs.YtalfbcbnljhldaaGreatDoor
open Go.RowKit Go.Maps Dsk Rd
namespace Rd
section
variable {w:World} {B g:Nat} {S:Nat→Prop} {F:List FC}
theorem RDisk.more (h:RDisk w B S g F):RDisk w B (More S w w) g F:=h.mono (fun k hk=> .inl hk) fun k hk=>by
 rcases hk with hk | ⟨h1,h2⟩
 ·exact h.hS k hk
 ·omega
theorem sync_bad (nm:Name) (hl:nm.length=0∨64<nm.length) (hm:nm.length≤9223372036854775807) (x:Value):
  Calls Tryz.prog 20 #[x,.string ⟨nm.toArray⟩] w fun e w'=>e= .returned (.int .i64 2)∧w'=w:=by
 have hs:(⟨nm.toArray⟩:ByteArray).size=nm.length:=rfl;by_cases h0:nm.length=0
 ·have z1:((nm.length:Int) == 0)=true:=by simp;exact List.eq_nil_of_length_eq_zero h0
  go_enter Tryz.func20,Tryz.ntmps20
  go_wp2_with fail
  go_ret
  exact⟨by first | rfl | trivial,by first | rfl | trivial⟩
 ·have z1:((nm.length:Int) == 0)=false:=by simp;intro e;exact h0 (by rw[e];rfl)
  have z2:decide ((64:Int)<(nm.length:Int))=true:=by simp;omega
  go_enter Tryz.func20,Tryz.ntmps20
  go_wp2_with fail
  go_ret
  exact⟨by first | rfl | trivial,by first | rfl | trivial⟩
theorem sync_none (h:RDisk w B S g F) (hF:F.length≤1000000000) (nm:Name) (h0:nm.length≠0) (h1:nm.length≤64) (hp:placeOf F nm= -1):
  Calls Tryz.prog 20 #[.pointer (some ⟨g,0,none⟩),.string ⟨nm.toArray⟩] w fun e w'=>e= .returned (.int .i64 5)∧w'=w:=by
 have hs:(⟨nm.toArray⟩:ByteArray).size=nm.length:=rfl;have HPL:=Lib.hid (place_any h hF nm);rw[hp] at HPL;have z1:((nm.length:Int) == 0)=false:=by simp;intro e;exact h0 (by rw[e];rfl)
 have z2:decide ((64:Int)<(nm.length:Int))=false:=by simp;omega
 clear h;go_enter Tryz.func20,Tryz.ntmps20
 go_wp2_with fail
 refine HPL.out.mono ?_;rintro e w1 ⟨rfl,rfl⟩;go_wp2_with fail
 go_ret
 exact⟨by first | rfl | trivial,by first | rfl | trivial⟩
theorem sync_some (h:RDisk w B S g F) (hs:Small F) {i:Nat} (hi:i<F.length) (hp:placeOf F F[i].n=(i:Int)) (h0:F[i].n.length≠0) (h1:F[i].n.length≤64):
  Calls Tryz.prog 20 #[.pointer (some ⟨g,0,none⟩),.string ⟨F[i].n.toArray⟩] w fun e w'=>e= .returned (.int .i64 0)∧Apart S w w'∧ ∃F',RDisk w' B (More S w w') g F'∧absF F'=rdKeep (absF F) i 1073741824:=by
 have HPL:=Lib.hid (place_any h hs.1 F[i].n);have HK:=Lib.hid (keep_any h hs hi hp 1073741824 (by omega));rw[hp] at HPL;obtain⟨nm,hnm⟩: ∃nm,F[i].n=nm:=⟨_,rfl⟩;rw[hnm] at HPL HK h0 h1 ⊢;have hsz:(⟨nm.toArray⟩:ByteArray).size=nm.length:=rfl;have z1:((nm.length:Int) == 0)=false:=by simp;intro e;exact h0 (by rw[e];rfl)
 have z2:decide ((64:Int)<(nm.length:Int))=false:=by simp;omega
 have z3:decide ((i:Int)<0)=false:=by simp
 clear h hs hp hnm;go_enter Tryz.func20,Tryz.ntmps20
 go_wp2_with fail
 refine HPL.out.mono ?_;rintro e w1 ⟨rfl,rfl⟩;go_wp2_with fail
 refine HK.out.mono ?_;rintro e w2 ⟨rfl,hap,F',hd,hf⟩;have HAP:=Lib.hid hap;have HDD:=Lib.hid hd;have HFF:=Lib.hid hf;clear hap hd hf HK HPL;go_wp2_with fail
 go_ret
 exact⟨by first | rfl | trivial,HAP.out,F',HDD.out,HFF.out⟩
end
end Rd
end Go.Proofs.YtalfbcbnljhldaaGreatDoor

namespace Go.Proofs.YtalfbcbnljhldaaGreatDoor
open Go.Lib (hid)
open Go.RowKit Go.Maps Dsk Rd
namespace Rd
def rdKeepN (L:List (Name×RFil)) (nm:Name) (n:Nat):List (Name×RFil):=rdKeep L (L.findIdx fun c=>c.1 == nm) n
def stayAt (ss:List Int) (k:Nat):Int:=ss.getD k 0
def crashGo (ss:List Int):Nat→List Name→List (Name×RFil)→List (Name×RFil)
 | _,[],L=>L
 | k,nm::l,L=>crashGo ss (k+1) l (rdKeepN L nm (stayAt ss k).toNat)
def SmallA (L:List (Name×RFil)):Prop:=L.length≤1000000000∧ ∀r∈L,r.2.l.length≤1000000000∧weigh r.2≤1000000000
theorem small_abs {F:List FC} :Small F↔SmallA (absF F):=by
 unfold Small SmallA absF;simp
theorem place_abs {F:List FC} {nm:Name} (h:nm∈(absF F).map (·.1)): ∃i,∃hi:i<F.length,placeOf F nm=(i:Int)∧F[i].n=nm∧(absF F).findIdx (fun c=>c.1 == nm)=i:=by
 rcases placeOf_cases F nm with⟨_,h2⟩ | ⟨i,hi,h1,h2,h3⟩
 ·exfalso
  simp only[absF,List.map_map,List.mem_map,Function.comp] at h;obtain⟨c,hc,e⟩:=h;exact h2 c hc e
 ·refine⟨i,hi,h1,h2,?_⟩
  have hl:i<(absF F).length:=by simpa [absF] using hi
  rw[List.findIdx_eq hl];refine⟨by simp [absF,h2],fun j hj=>?_⟩;have:=h3 j hj;simpa [absF] using this
theorem keep_small {L:List (Name×RFil)} (h:SmallA L) (i n:Nat):SmallA (rdKeep L i n):=by
 unfold rdKeep;split
 ·exact h
 ·rename_i nm r hr
  have hm:=h.2 (nm,r) (List.mem_of_getElem? hr);split
  ·refine⟨by simpa using h.1,fun x hx=>?_⟩
   rcases List.mem_or_eq_of_mem_set hx with hx | rfl
   ·exact h.2 x hx
   ·have:=after_weigh r n
    refine⟨by simp,?_⟩;simp only[weigh,List.map_nil,List.sum_nil,Nat.add_zero];exact Nat.le_trans this hm.2
  ·refine⟨Nat.le_trans (List.length_eraseIdx_le L i) h.1,fun x hx=>h.2 x ((List.eraseIdx_sublist L i).subset hx)⟩
theorem keep_names {L:List (Name×RFil)} {nm x:Name} (n:Nat) (hne:x≠nm) (hx:x∈L.map (·.1)) (hnm:nm∈L.map (·.1)):x∈(rdKeepN L nm n).map (·.1):=by
 obtain⟨c,hc,rfl⟩:=List.mem_map.1 hx;obtain⟨d,hd,hdn⟩:=List.mem_map.1 hnm;have hlt:L.findIdx (fun c=>c.1 == nm)<L.length:=List.findIdx_lt_length_of_exists ⟨d,hd,by simpa using hdn⟩;have hp:=List.findIdx_getElem (p:=fun(c:Name×RFil)=>c.1 == nm) (w:=hlt);unfold rdKeepN rdKeep;obtain⟨k,hk⟩: ∃k,L.findIdx (fun c=>c.1 == nm)=k:=⟨_,rfl⟩;simp only[hk] at hlt hp ⊢;rw[List.getElem?_eq_getElem hlt];obtain⟨j,hj,hjc⟩:=List.getElem_of_mem hc;have hjk:j≠k:=fun e=>by
  subst e;rw[hjc] at hp;exact hne (by simpa using hp)
 dsimp only;split
 ·refine List.mem_map.2 ⟨c,?_,rfl⟩
  rw[List.mem_iff_getElem];exact⟨j,by simpa using hj,by rw[List.getElem_set_ne (fun e=>hjk e.symm)];exact hjc⟩
 ·refine List.mem_map.2 ⟨c,?_,rfl⟩
  rw[←hjc];exact List.mem_eraseIdx_iff_getElem.2 ⟨j,hj,hjk,rfl⟩
section
variable {w:World} {B g:Nat} {S:Nat→Prop} {F:List FC}
set_option maxRecDepth 100000 in
set_option maxHeartbeats 4000000 in
theorem rdcrash_any (h:RDisk w B S g F) (hs:Small F) (hnd:(F.map (·.n)).Nodup) (sa:Option Addr) (sc:Nat) (ss:List Int) (hst: ∀k (h:k<ss.length),∃gs of,sa=some ⟨gs,of,none⟩∧gs<B∧w.cell? ⟨gs,of+k,none⟩=some (.int .i64 ss[k]))
  (hsf: ∀x∈ss,-9223372036854775808≤x∧x≤9223372036854775807) (hsl:ss.length≤1000000):
  Calls Tryz.prog 16 #[.pointer (some ⟨g,0,none⟩),.slice sa ss.length sc] w fun e w'=>e= .returned (.tuple #[])∧Apart S w w'∧ ∃F',RDisk w' B (More S w w') g F'∧absF F'=crashGo ss 0 (rdLoose F) (absF F):=by
 have HLO:=hid (rdloose_any h hs);have hBw:B≤w.heap.size:=by have:=h.hS g h.hg;omega
 have HD:=hid h;have HSM:=hid hs;have HST:=hid hst;have HSF:=hid hsf;obtain⟨l,hl⟩: ∃l,rdLoose F=l:=⟨_,rfl⟩;have hlen:l.length≤1000000000:=by
  rw[←hl];unfold rdLoose;have:=List.length_filter_le (fun c:FC=>c.f.any) F;rw[List.length_map];have:=hs.1;omega
 have hsub:List.Sublist l (F.map (·.n)):=by
  rw[←hl];exact(List.filter_sublist).map _
 have HNL:=hid (hsub.nodup hnd);have hin: ∀nm∈l,nm∈(absF F).map (·.1):=fun nm hm=>by
  have:=hsub.subset hm;simpa [absF] using this
 have HIN:=hid hin;rw[hl] at HLO ⊢;clear h hs hnd hst hsf hl hsub hin;go_enter Tryz.func16,Tryz.ntmps16
 go_wp2_with fail
 refine HLO.out.mono ?_;rintro e w1 ⟨v,rfl,hrow,hb⟩;obtain⟨oa,oc,rfl,hcell⟩:=ownsRow_cell hrow;have HCELL:=hid hcell;have HROW:=hid hrow;have HB:=hid hb;clear hcell hrow hb HLO;go_wp2_with fail
 go_loopw [5,6] (fun v5 _ wr=> ∃k:Nat,v5= .int .i64 (k:Int)∧k≤l.length∧Apart S w1 wr∧ ∃Sx Fx,RDisk wr B Sx g Fx∧SmallA (absF Fx)∧(∀j,Sx j→S j∨(w1.heap.size≤j∧j<wr.heap.size))∧crashGo ss k (l.drop k) (absF Fx)=crashGo ss 0 l (absF F)∧ ∀nm∈l.drop k,nm∈(absF Fx).map (·.1)) (fun v5 _ _=>l.length - (intOf v5).toNat)
 case atStart=>exact⟨0,rfl,Nat.zero_le _,Apart.refl _ _,S,F,HD.out.below HB.out,small_abs.1 HSM.out,fun j hj=> .inl hj,by simp,by simpa using HIN.out⟩
 case round=>
  obtain⟨k,rfl,hk,hap,Sx,Fx,hd,hsm,hsx,hcr,hnm⟩:=hrel;have HAP:=hid hap;have HDX:=hid hd;have HSX:=hid hsx;have HCR:=hid hcr;have HNM:=hid hnm;have HSMX:=hid hsm;clear hap hd hsm hsx hcr hnm;by_cases hlt:k<l.length
  ·have hd:decide ((k:Int)<(l.length:Int))=true:=by simp;omega
   have hdr:l.drop k=l[k]::l.drop (k+1):=List.drop_eq_getElem_cons hlt;obtain⟨nm,hnm⟩: ∃nm,l[k]=nm:=⟨_,rfl⟩;obtain⟨b,rfl,hbl,hx,_⟩:=HCELL.out k (.string ⟨nm.toArray⟩) (by simp [strs,hlt,hnm]);have hbn: ¬S b:=fun hS=>by
    have h1:=(HD.out.hS b hS).2;have h2:=World.ownsRow.lt HROW.out b rfl;omega
   have hx2:wr.cell? ⟨b,k,none⟩=some (.string ⟨nm.toArray⟩):=(World.cell?_of_block (w:=w1) (a:=⟨b,k,none⟩) (HAP.out.block b hbl hbn)).trans hx;rw[hnm] at hdr;have hin:=HNM.out nm (by rw[hdr];simp);obtain⟨i,hi,hp1,hp2,hp3⟩:=place_abs hin;have hnk: ∀n:Int,-9223372036854775808≤n∧n≤9223372036854775807→Calls Tryz.prog 49 #[.pointer (some ⟨g,0,none⟩),.string ⟨nm.toArray⟩,.int .i64 n] wr fun e w'=>e= .returned (.tuple #[])∧Apart Sx wr w'∧ ∃F',RDisk w' B (More Sx wr w') g F'∧absF F'=rdKeepN (absF Fx) nm n.toNat:=fun n hn=>by
    have:=keep_any HDX.out (small_abs.2 HSMX.out) hi (by rw[hp2];exact hp1) n hn;rw[hp2] at this;unfold rdKeepN;rw[hp3];exact this
   have fin: ∀(n:Int) w2 F',n=stayAt ss k→Apart Sx wr w2→RDisk w2 B (More Sx wr w2) g F'→absF F'=rdKeepN (absF Fx) nm n.toNat→Apart S w1 w2∧ ∃Sx Fx,RDisk w2 B Sx g Fx∧SmallA (absF Fx)∧(∀j,Sx j→S j∨(w1.heap.size≤j∧j<w2.heap.size))∧crashGo ss (k+1) (l.drop (k+1)) (absF Fx)=crashGo ss 0 l (absF F)∧ ∀nm∈l.drop (k+1),nm∈(absF Fx).map (·.1):=fun n w2 F' hn ha hr hf=>by
    refine⟨HAP.out.trans ha fun j hj hs=>?_,_,F',hr,?_,fun j hj=>?_,?_,fun x hxd=>?_⟩
    ·rcases HSX.out j hs with h | h
     ·exact h
     ·omega
    ·rw[hf];exact keep_small HSMX.out _ _
    ·have z1:=HAP.out.size
     have z2:=ha.size;rcases hj with hj | hj
     ·rcases HSX.out j hj with h | h
      ·exact .inl h
      ·exact .inr ⟨h.1,by omega⟩
     ·exact .inr ⟨by omega,hj.2⟩
    ·have:=HCR.out
     rw[hdr] at this;rw[hf,hn];exact this
    ·rw[hf]
     have hnd:=HNL.out;rw[←List.take_append_drop k l,hdr] at hnd;have h2:=(List.nodup_append.1 hnd).2.1;refine keep_names _ (fun e=>?_) (HNM.out x (by rw[hdr];simp [hxd])) hin;subst e;exact(List.nodup_cons.1 h2).1 hxd
   have HNK:=hid hnk;have FIN:=hid fin;clear hnk fin hx hdr hin hp1 hp2 hp3 hi hnm hbn;by_cases hks:k<ss.length
   ·obtain⟨gs,of,rfl,hgs,hcs⟩:=HST.out k hks
    have hds:decide ((k:Int)<(ss.length:Int))=true:=by simp;omega
    have hgw: ¬S gs:=fun hS=>by have:=(HD.out.hS gs hS).1;omega
    have hcs2:wr.cell? ⟨gs,of+k,none⟩=some (.int .i64 ss[k]):=(World.cell?_of_block (w:=w1) (a:=⟨gs,of+k,none⟩) (HAP.out.block gs (by have:=HB.out.size;omega) hgw)).trans ((HB.out.cell (p:=⟨gs,of+k,none⟩) (by show gs<w.heap.size;omega)).trans hcs);have hsv:ss[k]=stayAt ss k:=by simp [stayAt,List.getD,hks]
    have hsr:=HSF.out ss[k] (List.getElem_mem hks);obtain⟨n,hn⟩: ∃n,ss[k]=n:=⟨_,rfl⟩;rw[hn] at hcs2 hsv hsr;have HNV:=hid (HNK.out n hsr);have HSV:=hid hsv;clear hcs hn hsv;go_wp2_with fail
    refine HNV.out.mono ?_;rintro e w2 ⟨rfl,ha,F',hr,hf⟩;have FF:=hid (FIN.out n w2 F' HSV.out ha hr hf);clear ha hr hf;go_wp2
    go_roundw
    case rel=>exact⟨k+1,by go_num,by omega,FF.out⟩
    case measure=>simp [intOf];omega
   ·have hds:decide ((k:Int)<(ss.length:Int))=false:=by simp;omega
    have hsv:(0:Int)=stayAt ss k:=by simp [stayAt,List.getD,hks]
    have HNV:=hid (HNK.out 0 (by omega));have HSV:=hid hsv;clear hsv;go_wp2_with fail
    refine HNV.out.mono ?_;rintro e w2 ⟨rfl,ha,F',hr,hf⟩;have FF:=hid (FIN.out 0 w2 F' HSV.out ha hr hf);clear ha hr hf;go_wp2
    go_roundw
    case rel=>exact⟨k+1,by go_num,by omega,FF.out⟩
    case measure=>simp [intOf];omega
  ·obtain rfl:k=l.length:=by omega
   have hd:decide ((l.length:Int)<(l.length:Int))=false:=by simp
   have hcr:=HCR.out;rw[List.drop_length] at hcr;have HCR2:=hid hcr;clear hcr;go_wp2_with fail
   go_end0
   have hz:=HB.out.size;refine⟨rfl,(Apart.of_below HB.out).trans HAP.out fun _ _ h=>h,Fx,HDX.out.mono (fun j hj=>?_) fun j hj=>?_,HCR2.out⟩
   ·rcases HSX.out j hj with h | h
    ·exact .inl h
    ·exact .inr ⟨by omega,h.2⟩
   ·rcases hj with hj | hj
    ·exact⟨(HD.out.hS j hj).1,by have:=(HD.out.hS j hj).2;have:=HAP.out.size;omega⟩
    ·exact⟨by omega,hj.2⟩
end
end Rd
end Go.Proofs.YtalfbcbnljhldaaGreatDoor

namespace Go.Proofs.YtalfbcbnljhldaaGreatDoor
open Go.RowKit Go.Maps Dsk Rd
namespace Rd
section
variable {w:World} {B g:Nat} {S:Nat→Prop} {F:List FC}
theorem at_old (h:RDisk w B S g F) (hF:F.length≤1000000000) (nm:Name) (i:Nat) (hp:placeOf F nm=(i:Int)):
  Calls Tryz.prog 55 #[.pointer (some ⟨g,0,none⟩),.string ⟨nm.toArray⟩] w fun e w'=>e= .returned (.int .i64 (i:Int))∧w'=w:=by
 have HPL:=Lib.hid (place_any h hF nm);rw[hp] at HPL;have z3:decide ((0:Int)≤(i:Int))=true:=by simp
 clear h hp;go_enter Tryz.func55,Tryz.ntmps55
 go_wp2_with fail
 refine HPL.out.mono ?_;rintro e w1 ⟨rfl,rfl⟩;go_wp2_with fail
 go_ret
 exact⟨by first | rfl | trivial,by first | rfl | trivial⟩
theorem replace_bad (nm:Name) (hl:nm.length=0∨64<nm.length) (hm:nm.length≤9223372036854775807) (x y:Value):
  Calls Tryz.prog 18 #[x,.string ⟨nm.toArray⟩,y] w fun e w'=>e= .returned (.int .i64 2)∧w'=w:=by
 have hs:(⟨nm.toArray⟩:ByteArray).size=nm.length:=rfl;by_cases h0:nm.length=0
 ·have z1:((nm.length:Int) == 0)=true:=by simp;exact List.eq_nil_of_length_eq_zero h0
  go_enter Tryz.func18,Tryz.ntmps18
  go_wp2_with fail
  go_ret
  exact⟨by first | rfl | trivial,by first | rfl | trivial⟩
 ·have z1:((nm.length:Int) == 0)=false:=by simp;intro e;exact h0 (by rw[e];rfl)
  have z2:decide ((64:Int)<(nm.length:Int))=true:=by simp;omega
  go_enter Tryz.func18,Tryz.ntmps18
  go_wp2_with fail
  go_ret
  exact⟨by first | rfl | trivial,by first | rfl | trivial⟩
end
end Rd
end Go.Proofs.YtalfbcbnljhldaaGreatDoor

namespace Go.Proofs.YtalfbcbnljhldaaGreatDoor
open Dsk
namespace Rd
abbrev RL:=List (Name×RFil)
def RFil.zero:RFil:=⟨false,[],[],false⟩
theorem zero_ref:Fil.zero.ref=RFil.zero:=by simp [Fil.ref,Fil.zero,Ver.zero,Ver.bytes,RFil.zero]
def look (L:RL) (nm:Name):Option RFil:=(L.find? fun c=>c.1 == nm).map (·.2)
structure Rel (M:Files) (L:RL):Prop where
 sort:(L.map (·.1)).Pairwise (· < ·)
 look: ∀nm,look L nm=(M nm).map Fil.ref
theorem name_irr (a:Name): ¬a<a:=List.lt_irrefl a
section
variable {M:Files} {L:RL}
theorem sort_nodup (h:(L.map (·.1)).Pairwise (· < ·)):(L.map (·.1)).Nodup:=h.imp fun {x y} hxy=>by
 intro e;subst e;exact name_irr _ hxy
theorem look_mem (h:(L.map (·.1)).Nodup) {nm:Name} {r:RFil} :look L nm=some r↔(nm,r)∈L:=by
 unfold look;constructor
 ·intro e
  obtain⟨c,hc,rfl⟩:=Option.map_eq_some_iff.1 e;have h1:=List.mem_of_find?_eq_some hc;have h2:=List.find?_some hc;have:c.1=nm:=by simpa using h2
  rw[←this];exact h1
 ·intro hm
  have hsome:(L.find? fun c=>c.1 == nm).isSome=true:=by
   rw[List.find?_isSome];exact⟨_,hm,by simp⟩
  obtain⟨c,hc⟩:=Option.isSome_iff_exists.1 hsome;rw[hc];have h1:=List.mem_of_find?_eq_some hc;have h2:c.1=nm:=by simpa using List.find?_some hc
  obtain⟨i,hi,ei⟩:=List.getElem_of_mem h1;obtain⟨j,hj,ej⟩:=List.getElem_of_mem hm;have hij:i=j:=by
   have:=List.getElem_inj (h₀:=(by simpa using hi)) (h₁:=(by simpa using hj)) h;simp only[List.getElem_map] at this;exact this.1 (by rw[ei,ej,h2])
  subst hij;rw[ei] at ej;simp [ej]
theorem look_none {nm:Name} :look L nm=none↔ ∀c∈L,c.1≠nm:=by
 unfold look;rw[Option.map_eq_none_iff,List.find?_eq_none];simp
theorem names_set {i:Nat} (hi:i<L.length) (r:RFil):(L.set i (L[i].1,r)).map (·.1)=L.map (·.1):=by
 refine List.ext_getElem (by simp) fun j h1 h2=>?_;rw[List.getElem_map,List.getElem_map,List.getElem_set];split
 ·rename_i e;subst e;rfl
 ·rfl
theorem look_set {i:Nat} (hn:(L.map (·.1)).Nodup) (hi:i<L.length) (r:RFil) (nm:Name):look (L.set i (L[i].1,r)) nm=if nm=L[i].1 then some r else look L nm:=by
 have hmap:=names_set hi r;have hn2:((L.set i (L[i].1,r)).map (·.1)).Nodup:=by rw[hmap];exact hn
 by_cases h:nm=L[i].1
 ·rw[if_pos h,look_mem hn2,h]
  exact List.mem_set hi _
 ·rw[if_neg h]
  cases hl:look L nm with
  | none=>
   rw[look_none] at hl ⊢;intro c hc;rcases List.mem_or_eq_of_mem_set hc with hc | rfl
   ·exact hl c hc
   ·exact fun e=>h e.symm
  | some x=>
   rw[look_mem hn] at hl;rw[look_mem hn2];obtain⟨j,hj,ej⟩:=List.getElem_of_mem hl;have hij:i≠j:=fun e=>by subst e;exact h (by rw[ej])
   have:=List.getElem_mem (l:=L.set i (L[i].1,r)) (n:=j) (by simpa using hj);rw[List.getElem_set_ne hij,ej] at this;exact this
theorem Rel.set {i:Nat} (h:Rel M L) (hi:i<L.length) {f:Fil} {r:RFil} (hr:f.ref=r):Rel (upd M L[i].1 (some f)) (L.set i (L[i].1,r)):=by
 refine⟨?_,fun nm=>?_⟩
 ·rw[names_set hi r]
  exact h.sort
 ·rw[look_set (sort_nodup h.sort) hi]
  by_cases e:nm=L[i].1
  ·rw[if_pos e,e,upd_same,←hr];rfl
  ·rw[if_neg e,upd_other _ _ e];exact h.look nm
theorem look_erase {i:Nat} (hn:(L.map (·.1)).Nodup) (hi:i<L.length) (nm:Name):look (L.eraseIdx i) nm=if nm=L[i].1 then none else look L nm:=by
 have hsub:List.Sublist (L.eraseIdx i) L:=List.eraseIdx_sublist L i;have hn2:((L.eraseIdx i).map (·.1)).Nodup:=hn.sublist (hsub.map _);by_cases h:nm=L[i].1
 ·rw[if_pos h,look_none]
  intro c hc e;obtain⟨j,hj,ej⟩:=List.mem_iff_getElem?.1 hc |> fun⟨j,ej⟩=>(⟨j,(List.getElem?_eq_some_iff.1 ej).1,ej⟩: ∃j,∃_:j<(L.eraseIdx i).length,(L.eraseIdx i)[j]?=some c);rw[List.getElem?_eraseIdx] at ej;have key: ∀k (hk:k<L.length),L[k].1=L[i].1→k=i:=fun k hk ek=>by
   have:=List.getElem_inj (h₀:=(by simpa using hk)) (h₁:=(by simpa using hi)) hn;simp only[List.getElem_map] at this;exact this.1 ek
  split at ej
  ·rename_i hlt
   obtain⟨hk,e2⟩:=List.getElem?_eq_some_iff.1 ej;have:=key j hk (by rw[e2,e,h]);omega
  ·rename_i hlt
   obtain⟨hk,e2⟩:=List.getElem?_eq_some_iff.1 ej;have:=key (j+1) hk (by rw[e2,e,h]);omega
 ·rw[if_neg h]
  cases hl:look L nm with
  | none=>
   rw[look_none] at hl ⊢;exact fun c hc=>hl c (hsub.subset hc)
  | some x=>
   rw[look_mem hn] at hl;rw[look_mem hn2];obtain⟨j,hj,ej⟩:=List.getElem_of_mem hl;have hij:j≠i:=fun e=>by subst e;exact h (by rw[ej])
   rw[List.mem_iff_getElem?];by_cases hlt:j<i
   ·exact⟨j,by rw[List.getElem?_eraseIdx_of_lt hlt,List.getElem?_eq_getElem hj,ej]⟩
   ·exact⟨j - 1,by rw[List.getElem?_eraseIdx_of_ge (by omega),show j - 1+1=j by omega,List.getElem?_eq_getElem hj,ej]⟩
theorem Rel.erase {i:Nat} (h:Rel M L) (hi:i<L.length):Rel (upd M L[i].1 none) (L.eraseIdx i):=by
 refine⟨h.sort.sublist ((List.eraseIdx_sublist L i).map _),fun nm=>?_⟩;rw[look_erase (sort_nodup h.sort) hi];by_cases e:nm=L[i].1
 ·rw[if_pos e,e,upd_same];rfl
 ·rw[if_neg e,upd_other _ _ e];exact h.look nm
def posL (L:RL) (nm:Name):Nat:=L.findIdx fun c=>!decide (c.1<nm)
theorem posL_le (L:RL) (nm:Name):posL L nm≤L.length:=List.findIdx_le_length
theorem posL_lt (L:RL) (nm:Name) {j:Nat} (h:j<posL L nm) (hj:j<L.length):L[j].1<nm:=by
 have:=List.not_of_lt_findIdx h;simpa using this
theorem posL_not (L:RL) (nm:Name) (h:posL L nm<L.length): ¬L[posL L nm].1<nm:=by
 have:=List.findIdx_getElem (w:=h);show¬L[L.findIdx fun c=>!decide (c.1<nm)].1<nm;simpa using this
def insL (L:RL) (nm:Name):RL:=L.take (posL L nm)++(nm,RFil.zero)::L.drop (posL L nm)
theorem ins_at (L:RL) (nm:Name): ∃h:posL L nm<(insL L nm).length,(insL L nm)[posL L nm]=(nm,RFil.zero):=by
 have hp:=posL_le L nm;have hl:posL L nm<(insL L nm).length:=by unfold insL;simp;omega
 refine⟨hl,?_⟩;rw[List.getElem_of_eq (show insL L nm=L.take (posL L nm)++(nm,RFil.zero)::L.drop (posL L nm) from rfl)];rw[List.getElem_append_right (by rw[List.length_take];omega)];simp [show posL L nm - min (posL L nm) L.length=0 by omega]
theorem ins_sort (h:(L.map (·.1)).Pairwise (· < ·)) {nm:Name} (hn: ∀c∈L,c.1≠nm):((insL L nm).map (·.1)).Pairwise (· < ·):=by
 have hp:=posL_le L nm;unfold insL;rw[List.map_append,List.map_cons,List.pairwise_append,List.pairwise_cons];have h1:(L.map (·.1))=(L.take (posL L nm)).map (·.1)++(L.drop (posL L nm)).map (·.1):=by rw[←List.map_append,List.take_append_drop]
 rw[h1,List.pairwise_append] at h;have hlo: ∀a∈(L.take (posL L nm)).map (·.1),a<nm:=fun a ha=>by
  obtain⟨c,hc,rfl⟩:=List.mem_map.1 ha;obtain⟨j,hj,rfl⟩:=List.getElem_of_mem hc;rw[List.getElem_take];rw[List.length_take] at hj;exact posL_lt L nm (by omega) (by omega)
 have hhi: ∀a∈(L.drop (posL L nm)).map (·.1),nm<a:=fun a ha=>by
  obtain⟨c,hc,rfl⟩:=List.mem_map.1 ha;have hcL:=List.mem_of_mem_drop hc;obtain⟨j,hj,rfl⟩:=List.getElem_of_mem hc;rw[List.length_drop] at hj;have h0:=posL_not L nm (by omega);have hge: ∀(hh:posL L nm<L.length),nm<L[posL L nm].1:=fun hh=>by
   rcases List.le_iff_lt_or_eq.1 (show nm≤L[posL L nm].1 from h0) with h3 | h3
   ·exact h3
   ·exact absurd h3.symm (hn _ (List.getElem_mem hh))
  rw[List.getElem_drop];rcases Nat.eq_zero_or_pos j with rfl | hj0
  ·exact hge (by omega)
  ·have h2:=List.pairwise_iff_getElem.1 h.2.1 0 j (by simp;omega) (by simp;omega) hj0
   simp only[List.getElem_map,List.getElem_drop,Nat.add_zero] at h2;exact List.lt_trans (hge (by omega)) h2
 exact⟨h.1,⟨hhi,h.2.1⟩,fun a ha b hb=>by
  rcases List.mem_cons.1 hb with rfl | hb
  ·exact hlo a ha
  ·exact List.lt_trans (hlo a ha) (hhi b hb)⟩
theorem ins_mem {nm:Name} {c:Name×RFil} :c∈insL L nm↔c=(nm,RFil.zero)∨c∈L:=by
 unfold insL;rw[List.mem_append,List.mem_cons];have:c∈L↔c∈L.take (posL L nm)∨c∈L.drop (posL L nm):=by rw[←List.mem_append,List.take_append_drop]
 rw[this];constructor
 ·rintro(h | h | h)
  ·exact .inr (.inl h)
  ·exact .inl h
  ·exact .inr (.inr h)
 ·rintro(h | h | h)
  ·exact .inr (.inl h)
  ·exact .inl h
  ·exact .inr (.inr h)
theorem look_ins (h:(L.map (·.1)).Pairwise (· < ·)) {nm:Name} (hn: ∀c∈L,c.1≠nm) (x:Name):look (insL L nm) x=if x=nm then some RFil.zero else look L x:=by
 have hs:=sort_nodup (ins_sort h hn);by_cases e:x=nm
 ·rw[if_pos e,look_mem hs,ins_mem,e];exact .inl rfl
 ·rw[if_neg e]
  cases hl:look L x with
  | none=>
   rw[look_none] at hl ⊢;intro c hc;rcases ins_mem.1 hc with rfl | hc
   ·exact fun e2=>e e2.symm
   ·exact hl c hc
  | some r=>
   rw[look_mem (sort_nodup h)] at hl;rw[look_mem hs];exact ins_mem.2 (.inr hl)
theorem Rel.ins (h:Rel M L) {nm:Name} (hn:M nm=none) {f:Fil} {r:RFil} (hr:f.ref=r):Rel (upd M nm (some f)) ((insL L nm).set (posL L nm) (nm,r)):=by
 have hno: ∀c∈L,c.1≠nm:=look_none.1 (by rw[h.look,hn];rfl);have hs:=ins_sort h.sort hno;obtain⟨hp,hat⟩:=ins_at L nm;have hnm:(insL L nm)[posL L nm].1=nm:=by rw[hat]
 have hmap:((insL L nm).set (posL L nm) (nm,r)).map (·.1)=(insL L nm).map (·.1):=by
  rw[List.map_set];simp only;have:=@List.set_getElem_self _ ((insL L nm).map (·.1)) (posL L nm) (by simpa using hp);simp only[List.getElem_map,hnm] at this;exact this
 refine⟨by rw[hmap];exact hs,fun x=>?_⟩;have hset:=look_set (sort_nodup hs) hp r x;rw[hnm] at hset;rw[hset,look_ins h.sort hno];by_cases e:x=nm
 ·rw[if_pos e,e,upd_same,←hr];rfl
 ·rw[if_neg e,if_neg e,upd_other _ _ e];exact h.look x
end
end Rd
end Go.Proofs.YtalfbcbnljhldaaGreatDoor

namespace Go.Proofs.YtalfbcbnljhldaaGreatDoor
open Dsk
namespace Rd
def AllOk (M:Files):Prop:= ∀n f,M n=some f→f.ok
theorem ok_whole {f:Fil} (h:f.ok):f.sure.whole≤f.sure.bs.length∧ ∀v∈f.later,v.whole≤v.bs.length:=⟨h.1.1,fun v hv=>(h.2 v hv).1⟩
section
variable {M:Files} {F:List FC}
theorem look_abs (nm:Name):Rd.look (absF F) nm=(F.find? fun c=>c.n == nm).map (·.f):=by
 unfold look absF;rw[List.find?_map];simp [Function.comp_def,Option.map_map]
theorem Rel.find (h:Rel M (absF F)) (nm:Name):(F.find? fun c=>c.n == nm).map (·.f)=(M nm).map Fil.ref:=by rw[←look_abs];exact h.look nm
theorem Rel.read (h:Rel M (absF F)) (ho:AllOk M) (nm:Name):rdRead F nm=if (M.at nm).now.there=true then(true,(M.at nm).now.bs) else(false,[]):=by
 have h1:=h.find nm;unfold rdRead Files.at;cases hM:M nm with
 | none=>
  rw[hM] at h1;have h2:(F.find? fun c=>c.n == nm)=none:=by simpa using h1
  rw[h2];simp [Fil.zero,Fil.now,Ver.zero]
 | some f=>
  rw[hM] at h1;obtain⟨c,hc,e⟩:=Option.map_eq_some_iff.1 h1;rw[hc];have e2:c.f=f.ref:=e;have hw:=ok_whole (ho nm f hM);simp only[e2,Option.getD_some];rw[after_now f hw.1 hw.2 _ (Nat.le_refl _)];rfl
theorem Rel.names (h:Rel M (absF F)) (ho:AllOk M) {ks:List Name} (hk:NamesOf M (fun f=>f.now.there) ks):rdNames F=ks:=by
 have hnn:(absF F).map (·.1)=F.map (·.n):=by simp [absF]
 have hs:=h.sort;rw[hnn] at hs;refine sorted_ext (hs.sublist ?_) hk.1 fun n=>?_
 ·exact List.Sublist.map _ List.filter_sublist
 ·rw[hk.2 n]
  have hr:=h.read ho n;unfold Files.at at hr;constructor
  ·intro hm
   obtain⟨c,hc,rfl⟩:=List.mem_map.1 hm;obtain⟨hc1,hc2⟩:=List.mem_filter.1 hc;cases hM:M c.n with
   | none=>rw[hM] at hr;simp [Fil.zero,Fil.now,Ver.zero] at hr;rw[hr] at hc2;simp at hc2
   | some f=>
    refine⟨f,rfl,?_⟩;rw[hM] at hr;simp only[Option.getD_some] at hr;by_cases ht:f.now.there=true
    ·exact ht
    ·rw[if_neg ht] at hr;rw[hr] at hc2;simp at hc2
  ·rintro⟨f,hM,ht⟩
   have hf:=h.find n;rw[hM] at hf;obtain⟨c,hc,-⟩:=Option.map_eq_some_iff.1 hf;have hcn:c.n=n:=by simpa using List.find?_some hc
   refine List.mem_map.2 ⟨c,List.mem_filter.2 ⟨List.mem_of_find?_eq_some hc,?_⟩,hcn⟩;rw[hcn,hr,hM];simp [ht]
theorem Rel.loose (h:Rel M (absF F)) {ks:List Name} (hk:NamesOf M (fun f=>f.loose) ks):rdLoose F=ks:=by
 have hnn:(absF F).map (·.1)=F.map (·.n):=by simp [absF]
 have hs:=h.sort;rw[hnn] at hs;have hnd:(F.map (·.n)).Nodup:=hs.imp fun {x y} hxy=>by
  intro e;subst e;exact name_irr _ hxy
 refine sorted_ext (hs.sublist ?_) hk.1 fun n=>?_
 ·exact List.Sublist.map _ List.filter_sublist
 ·rw[hk.2 n]
  have hf:=h.look n;constructor
  ·intro hm
   obtain⟨c,hc,rfl⟩:=List.mem_map.1 hm;obtain⟨hc1,hc2⟩:=List.mem_filter.1 hc;have:Rd.look (absF F) c.n=some c.f:=(look_mem (by rw[hnn];exact hnd)).2 (List.mem_map.2 ⟨c,hc1,rfl⟩);rw[this] at hf;obtain⟨f,hM,e⟩:=Option.map_eq_some_iff.1 hf.symm;refine⟨f,hM,?_⟩;have e2:f.ref.any=c.f.any:=by rw[e]
   show f.ref.any=true;rw[e2];exact hc2
  ·rintro⟨f,hM,ht⟩
   rw[hM] at hf;have hm:=(look_mem (by rw[hnn];exact hnd)).1 hf;obtain⟨c,hc,e⟩:=List.mem_map.1 hm;have e1:c.n=n:=congrArg Prod.fst e;have e2:c.f=f.ref:=congrArg Prod.snd e;exact List.mem_map.2 ⟨c,List.mem_filter.2 ⟨hc,by rw[e2];exact ht⟩,e1⟩
theorem Rel.place (h:Rel M (absF F)) (nm:Name):(placeOf F nm= -1∧M nm=none)∨ ∃i,∃hi:i<F.length,placeOf F nm=(i:Int)∧F[i].n=nm∧ ∃f,M nm=some f∧F[i].f=f.ref:=by
 have hf:=h.find nm;rcases placeOf_cases F nm with⟨h1,h2⟩ | ⟨i,hi,h1,h2,h3⟩
 ·rw[find_no h2] at hf
  exact .inl ⟨h1,by simpa using hf.symm⟩
 ·rw[find_at hi h2 h3] at hf
  obtain⟨f,hM,e⟩:=Option.map_eq_some_iff.1 hf.symm;exact .inr ⟨i,hi,h1,h2,f,hM,e.symm⟩
end
theorem Rel.keep {M:Files} {L:RL} {i:Nat} (h:Rel M L) (hi:i<L.length) (ho:AllOk M) (n:Nat):Rel (upd M L[i].1 (settled ((M.at L[i].1).torn n))) (rdKeep L i n):=by
 have hl:Rd.look L L[i].1=some L[i].2:=(look_mem (sort_nodup h.sort)).2 (List.getElem_mem hi);rw[h.look] at hl;obtain⟨f,hM,e⟩:=Option.map_eq_some_iff.1 hl;have hw:=ok_whole (ho _ f hM);have hat:M.at L[i].1=f:=by simp [Files.at,hM]
 have ha:=after_torn f hw.1 hw.2 n;unfold rdKeep;rw[List.getElem?_eq_getElem hi,hat];simp only;rw[←e,ha];unfold Ver.pair;simp only;cases hs:settled (f.torn n) with
 | none=>
  have ht:(f.torn n).there=false:=by
   unfold settled at hs;split at hs
   ·cases hs
   ·rename_i h1;simpa using h1
  rw[ht,if_neg (by simp)];exact h.erase hi
 | some q=>
  obtain⟨ht,hq⟩:=ref_settled _ _ hs;rw[ht,if_pos rfl];exact h.set hi hq
theorem torn_now {f:Fil} (h:f.ok) {n:Nat} (hn:f.ref.l.length≤n):(f.torn n).pair=f.now.pair:=by
 have hw:=ok_whole h;rw[←after_torn f hw.1 hw.2,after_now f hw.1 hw.2 n hn]
theorem settled_pair {v u:Ver} (h:v.pair=u.pair):settled v=settled u:=by
 have h1:v.there=u.there:=congrArg Prod.fst h;have h2:v.bs=u.bs:=congrArg Prod.snd h;unfold settled;rw[h1,h2]
theorem Rel.sync {M:Files} {L:RL} {i:Nat} (h:Rel M L) (hi:i<L.length) (ho:AllOk M) {n:Nat} (hn:L[i].2.l.length≤n):Rel (upd M L[i].1 (settled (M.at L[i].1).now)) (rdKeep L i n):=by
 have hk:=h.keep hi ho n;have hl:Rd.look L L[i].1=some L[i].2:=(look_mem (sort_nodup h.sort)).2 (List.getElem_mem hi);rw[h.look] at hl;obtain⟨f,hM,e⟩:=Option.map_eq_some_iff.1 hl;have hat:M.at L[i].1=f:=by simp [Files.at,hM]
 rw[hat] at hk ⊢;rw[settled_pair (torn_now (ho _ f hM) (by rw[e];exact hn))] at hk;exact hk
theorem settled_ok {M:Files} (ho:AllOk M) (nm:Name) (p:Nat):AllOk (upd M nm (settled ((M.at nm).torn p))):=fun n f hf=>by
 by_cases e:n=nm
 ·subst e
  rw[upd_same] at hf;have hk:(M.at n).ok:=by
   unfold Files.at;cases hM:M n with
   | none=>exact Fil.zero_ok
   | some q=>exact ho n q hM
  have ht:=Fil.torn_ok hk p;unfold settled at hf;split at hf
  ·cases hf
   exact⟨⟨Nat.le_refl _,ht.1,ht.2⟩,fun v hv=>by cases hv⟩
  ·cases hf
 ·rw[upd_other _ _ e] at hf
  exact ho n f hf
theorem keepN_rel {M:Files} {L:RL} {nm:Name} (h:Rel M L) (ho:AllOk M) (hm:(M nm).isSome=true) (n:Nat):Rel (upd M nm (settled ((M.at nm).torn n))) (rdKeepN L nm n):=by
 have hl:=h.look nm;obtain⟨f,hf⟩:=Option.isSome_iff_exists.1 hm;rw[hf] at hl;have hmem:=(look_mem (sort_nodup h.sort)).1 hl;have hlt:(L.findIdx fun c=>c.1 == nm)<L.length:=List.findIdx_lt_length.2 ⟨_,hmem,by simp⟩;have he:L[L.findIdx fun c=>c.1 == nm].1=nm:=by simpa using List.findIdx_getElem (w:=hlt)
 have:=h.keep hlt ho n;rw[he] at this;exact this
theorem Rel.crash {M:Files} {ks:List Name} (hk:NamesOf M (fun f=>f.loose) ks) (ho:AllOk M) (ss:List Int): ∀(k:Nat) (L:RL),k≤ks.length→Rel (crashedTo M ks (stayN ss) (ks.length - k)) L→AllOk (crashedTo M ks (stayN ss) (ks.length - k))→Rel (crashed M ks (stayN ss)) (crashGo ss (ks.length - k) (ks.drop (ks.length - k)) L)
 | 0,L,_,h,_=>by
  rw[Nat.sub_zero,crashedTo_all] at h;rw[Nat.sub_zero,List.drop_length,crashGo];exact h
 | k+1,L,hle,h,hok=>by
  have hi:ks.length - (k+1)<ks.length:=by omega
  have hsucc:ks.length - k=ks.length - (k+1)+1:=by omega
  rw[List.drop_eq_getElem_cons hi,crashGo];have hat:=crashedTo_at (stayN ss) hi hk.nodup (M:=M);have hsome:(crashedTo M ks (stayN ss) (ks.length - (k+1)) ks[ks.length - (k+1)]).isSome=true:=by
   rw[hat];obtain⟨f,hf,-⟩:=(hk.2 _).1 (List.getElem_mem hi);rw[hf];rfl
  have hAt:(crashedTo M ks (stayN ss) (ks.length - (k+1))).at ks[ks.length - (k+1)]=M.at ks[ks.length - (k+1)]:=by unfold Files.at;rw[hat]
  have h1:=keepN_rel h hok hsome (stayN ss (ks.length - (k+1)));have h2:=settled_ok hok ks[ks.length - (k+1)] (stayN ss (ks.length - (k+1)));rw[hAt,←crashedTo_succ (stayN ss) hi hk.nodup,←hsucc] at h1 h2;have h3:=Rel.crash hk ho ss k _ (by omega) h1 h2;rw[hsucc] at h3;exact h3
theorem Rel.crashes {M:Files} {L:RL} {ks:List Name} (h:Rel M L) (ho:AllOk M) (hk:NamesOf M (fun f=>f.loose) ks) (ss:List Int):Rel (crashed M ks (stayN ss)) (crashGo ss 0 ks L):=by
 have:=Rel.crash hk ho ss ks.length L (Nat.le_refl _) (by rw[Nat.sub_self,crashedTo_zero];exact h) (by rw[Nat.sub_self,crashedTo_zero];exact ho);rw[Nat.sub_self,List.drop_zero] at this;exact this
end Rd
end Go.Proofs.YtalfbcbnljhldaaGreatDoor
