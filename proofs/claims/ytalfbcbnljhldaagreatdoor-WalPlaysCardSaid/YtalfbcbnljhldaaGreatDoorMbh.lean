/-  -/
import Derived.Test.YtalfbcbnljhldaaGreatDoorMbb
import Derived.Test.YtalfbcbnljhldaaGreatDoorMbf
import Derived.Test.YtalfbcbnljhldaaGreatDoorRoF
import Derived.Test.YtalfbcbnljhldaaGreatDoorMae
namespace Go.Proofs.YtalfbcbnljhldaaGreatDoor
open Go.Lib (hid)
open Go.RowKit Go.Maps Go.Sort Dsk Wl
theorem Tabs.up {B B':Nat} {w:World} (h:Tabs B w) (hB:B≤B'):Tabs B' w:=⟨Nat.le_trans h.lo hB,h.syn,h.pow⟩
def kE:List Ent:= [⟨1,1,[]⟩,⟨2,1,[]⟩,⟨3,1,[]⟩,⟨2,2,[]⟩]
theorem kE_chain:chain [] kE=some [⟨1,1,[]⟩,⟨2,2,[]⟩]:=by decide
theorem kE_ok: ∀e∈kE,e.ok:=by
 intro e he;simp only[kE,List.mem_cons,List.not_mem_nil,or_false] at he;rcases he with rfl | rfl | rfl | rfl<;>exact⟨by decide,by decide,by decide,by decide,fun x hx=>by cases hx⟩
theorem kE_L:kE.foldl putL []= [(1,kE)]:=by decide
theorem k5_no:refuse (lastIx [⟨1,1,[]⟩,⟨2,2,[]⟩]) [⟨5,0,[]⟩]=2:=by decide
theorem ents_row {w:World} {o:Tags} {b:Nat} {cs:Array Value} (es:List Ent) (hb:w.heap[b]?=some (.cells cs 55 (0,0))) (ho:o b=none) (h: ∀i (hi:i<es.length),cs[i*3]?=some (.int .u64 es[i].ix)∧cs[i*3+1]?=some (.int .u64 es[i].term)∧cs[i*3+2]?=some (.slice none 0 0)∧es[i].body= []):
  EntsF w o w.heap.size (some ⟨b,0,none⟩) es:=fun i hi=>by
 obtain⟨h1,h2,h3,h4⟩:=h i hi;refine⟨b,0,none,0,rfl,ho,lt_of_block hb,Nat.le_refl _,?_,?_,?_,?_,fun _=>rfl⟩
 ·rw[cell_of_row _ _ _ _ _ _ hb,Nat.zero_add];exact h1
 ·rw[cell_of_row _ _ _ _ _ _ hb,Nat.zero_add];exact h2
 ·rw[cell_of_row _ _ _ _ _ _ hb,Nat.zero_add,h4];exact h3
 ·rw[h4]
  exact⟨Reads.nil _ _,fun x hx=>by cases hx⟩
set_option maxRecDepth 100000 in
set_option maxHeartbeats 4000000 in
theorem known10_any (w:World) {B0:Nat} (hT:Tabs B0 w) (hB0:B0≤w.heap.size):Calls Tryz.prog 4 #[] w fun e w'=>e= .returned (.bool true)∧Below w.heap.size w w':=by
 have HN:=hid (new_any w);have HT:=hid (hT.up hB0);clear hT hB0;go_enter Tryz.func4,Tryz.ntmps4
 go_wp2_with fail
 refine HN.out.mono ?_;rintro e w1 ⟨rfl,hb1,o1,hd1,ho1⟩;have hl1:Live w1 w.heap.size o1 (w.heap.size+1) (fun _=>none) 0:=⟨HT.out.below hb1,hd1,hb1.size,fun l f hf=>(by cases hf),by decide⟩;have HOP:=hid (open_whole hl1 Whole.new);have HL1:=hid hl1;have HB1:=hid hb1;clear hl1 hd1 hb1 ho1 HN HT;go_wp2_with fail
 refine HOP.out.mono ?_;rintro e w2 ⟨hb,o2,rfl,hge,hw2,hl2,hs2⟩;have HB2:=hid (HB1.out.trans (hs2.below (fun k e=>HL1.out.disk.owns k e) HB1.out.size));have HL2:=hid hl2;have HW2:=hid hw2;clear hl2 hw2 hs2 HOP HL1 HB1;go_wp2_with fail
 obtain⟨wa,hwa⟩: ∃wa,wa=w2.alloc (.cells #[.int .u64 1,.int .u64 1,.slice none 0 0,.int .u64 2,.int .u64 1,.slice none 0 0,.int .u64 3,.int .u64 1,.slice none 0 0,.int .u64 2,.int .u64 2,.slice none 0 0] 55):=⟨_,rfl⟩;rw[←hwa];have hba:Below w2.heap.size w2 wa:=by rw[hwa];exact(Below.refl _ _).alloc (Nat.le_refl _) _
 have hea:EntsF wa o2 wa.heap.size (some ⟨w2.heap.size,0,none⟩) kE:=by
  refine ents_row kE (cs:= #[.int .u64 1,.int .u64 1,.slice none 0 0,.int .u64 2,.int .u64 1,.slice none 0 0,.int .u64 3,.int .u64 1,.slice none 0 0,.int .u64 2,.int .u64 2,.slice none 0 0]) (by rw[hwa];exact heap_alloc_new _ _) (HL2.out.free (Nat.le_refl _)) fun i hi=>?_;match i,hi with
  | 0,_=>exact⟨rfl,rfl,rfl,rfl⟩
  | 1,_=>exact⟨rfl,rfl,rfl,rfl⟩
  | 2,_=>exact⟨rfl,rfl,rfl,rfl⟩
  | 3,_=>exact⟨rfl,rfl,rfl,rfl⟩
 have HAP:=hid (append_whole (HL2.out.below hba) Whole.new hb (HW2.out.below hba) kE _ 4 _ hea kE_ok kE_chain (by decide) (by decide) (by decide) (by decide));rw[kE_L,show kE.length=4 from rfl] at HAP;have HBA:=hid hba;clear hba hea hwa;refine HAP.out.mono ?_;rintro e w3 ⟨rfl,o3,M3,N3,hl3,hs3,hwh3,hn3,-,-⟩;have hs23:=(Step.of_below o2 HBA.out).trans hs3;have HB3:=hid (HB2.out.trans (hs23.below (fun k e=>HL2.out.disk.owns k e) HB2.out.size));have HL3:=hid hl3;have HW3:=hid (HW2.out.step hs23);have HH3:=hid hwh3;clear hl3 hs3 hs23 hwh3 HAP HBA HB2 HL2 HW2;go_wp2_with fail
 refine(entries_whole HL3.out HH3.out hb HW3.out).mono ?_;rintro e w4 ⟨v4,rfl,hr4,hb4⟩;obtain⟨g4,cp4,a0,c0,hv4,hg4,hg4',p00,p01,p02,-,-,hcm⟩:=hr4.at_ (i:=0) (by decide);obtain⟨g5,cp5,a1,c1,hv5,-,-,p10,p11,p12,-,-,-⟩:=hr4.at_ (i:=1) (by decide);rw[hv4] at hv5;obtain⟨rfl,rfl⟩:g4=g5∧cp4=cp5:=by simpa using hv5
 subst hv4;clear hv5 hr4;have HB4:=hid (HB3.out.trans (hb4.mono HB3.out.size));have HL4:=hid (HL3.out.below hb4);have HW4:=hid (HW3.out.below hb4);clear hb4 HB3 HL3 HW3;have q01:w4.cell? ⟨g4,1,none⟩=some (.int .u64 1):=p01;have q10:w4.cell? ⟨g4,3,none⟩=some (.int .u64 2):=p10;have q11:w4.cell? ⟨g4,4,none⟩=some (.int .u64 2):=p11;clear p00 p01 p02 p10 p11 p12;rw[show([⟨1,1,[]⟩,⟨2,2,[]⟩]:List Ent).length=2 from rfl];go_wp2_with fail
 obtain⟨wb,hwb⟩: ∃wb,wb=w4.alloc (.cells #[.int .u64 5,.int .u64 0,.slice none 0 0] 55):=⟨_,rfl⟩;rw[←hwb];have hbb:Below w4.heap.size w4 wb:=by rw[hwb];exact(Below.refl _ _).alloc (Nat.le_refl _) _
 have heb:EntsF wb o3 wb.heap.size (some ⟨w4.heap.size,0,none⟩) [⟨5,0,[]⟩]:=by
  refine ents_row _ (cs:= #[.int .u64 5,.int .u64 0,.slice none 0 0]) (by rw[hwb];exact heap_alloc_new _ _) (HL4.out.free (Nat.le_refl _)) fun i hi=>?_;match i,hi with
  | 0,_=>exact⟨rfl,rfl,rfl,rfl⟩
 have HAP:=hid (append_not (HL4.out.below hbb) HH3.out hb (HW4.out.below hbb) [⟨5,0,[]⟩] _ 1 _ heb (by decide) (by decide) (by decide));rw[k5_no,show([⟨5,0,[]⟩]:List Ent).length=1 from rfl] at HAP;have HL5:=hid (HL4.out.below hbb);have HW5:=hid (HW4.out.below hbb);have HB5:=hid (HB4.out.trans (hbb.mono HB4.out.size));clear hbb heb hwb HB4 HL4 HW4;refine HAP.out.mono ?_;rintro e w6 ⟨rfl,hb6⟩;have HL6:=hid (HL5.out.below hb6);have HW6:=hid (HW5.out.below hb6);have HB6:=hid (HB5.out.trans (hb6.mono HB5.out.size));clear hb6 HAP HL5 HW5 HB5;go_wp2_with fail
 refine(compact_one HL6.out HH3.out hb HW6.out 9).mono ?_;rintro e w7 ⟨o7,rfl,hl7,hs7⟩;have HB7:=hid (HB6.out.trans (hs7.below (fun k e=>HL6.out.disk.owns k e) HB6.out.size));have HL7:=hid hl7;have HW7:=hid (HW6.out.step hs7);clear hl7 hs7 HB6 HL6 HW6;go_wp2_with fail
 refine(entries_whole HL7.out HH3.out hb HW7.out).mono ?_;rintro e w8 ⟨v8,rfl,hr8,hb8⟩;obtain⟨a8,c8,rfl,-⟩:=hr8.shape;rw[show([⟨1,1,[]⟩,⟨2,2,[]⟩]:List Ent).length=2 from rfl];have HB8:=hid (HB7.out.trans (hb8.mono HB7.out.size));clear hr8 hb8 HB7 HL7 HW7;go_wp2_with fail
 go_ret
 exact⟨rfl,HB8.out⟩
end Go.Proofs.YtalfbcbnljhldaaGreatDoor

namespace Go.Proofs.YtalfbcbnljhldaaGreatDoor
open Go.RowKit Go.Maps Go.Sort Dsk Rd Wl
namespace Pz
set_option maxRecDepth 100000 in
set_option maxHeartbeats 2000000 in
theorem sync_none (g B N:Nat) (o:Tags) (M:Files) (l:Name) (w:World) (hd:DiskAt w B o g M N) (hM:M l=none) (h1:1≤l.length) (h2:l.length≤64):
  Calls Tryz.prog 19 #[.pointer (some ⟨g,0,none⟩),.string ⟨l.toArray⟩] w fun e w'=>e= .returned (.int .i64 5)∧Below w.heap.size w w':=by
 obtain⟨b,D,hd⟩:=hd;have hcell:=hd.cell;obtain⟨⟨t,sa,sn,sc,wh,la,ln,lc,ls⟩,hf,_,hrun⟩:=hd.look l (by unfold maxLen;omega);rw[show(M l).isSome=false by rw[hM];rfl] at hrun;simp only[mkV] at hrun;have hb2:Below w.heap.size w (w.alloc (.cells #[.bool t,.slice sa sn sc,.int .i64 wh,.slice la ln lc,.bool ls] 98)):=(Below.refl _ _).alloc (Nat.le_refl _) _;have HR:=Lib.hid (refusal_ok g b l w hcell h1 h2);have HB:=Lib.hid hb2;clear hf hd hM hb2;go_enter Tryz.func19,Tryz.ntmps19
 go_wp2_with fail
 refine HR.out.mono ?_;rintro e w1 ⟨rfl,rfl⟩;go_wp2_with fail
 go_ret
 exact⟨rfl,HB.out⟩
end Pz
namespace Rl
section
variable {w0 w:World} {x:Nat} {X:Option Obj} {o:Tags} {gd hb g h n N:Nat} {S T K:Nat→Prop} {M:Files} {Ls:List SV} {E:List Ent}
def Plan (M:Files) (Ls:List SV) (E:List Ent) (es:List EV) (er:Int) (M2:Files) (L2:List (Nat×List Ent)):Prop:=
 (refuse (lastIx E) (es.map Prod.fst)≠0∧er=refuse (lastIx E) (es.map Prod.fst)∧M2=M∧L2=logOf Ls)∨((∀p∈es,p.1.ok)∧(∃E',chain E (es.map Prod.fst)=some E')∧PutsL M (logOf Ls) (es.map Prod.fst) er M2 L2)
theorem okIx_pos: ∀(l:List Ent) {i:Nat},okIx i l=true→ ∀e∈l,1≤e.ix
 | [],_,_,e,he=>by cases he
 | x::l,i,h,e,he=>by
  rw[okIx,Bool.and_eq_true] at h;rcases List.mem_cons.1 he with rfl | he
  ·have h1:=h.1
   unfold follows at h1;rw[Bool.and_eq_true] at h1;exact of_decide_eq_true h1.1
  ·exact okIx_pos l h.2 e he
theorem plan_is (hi:Wl.Inv M) (hW:Whole M (logOf Ls) E) {a:Option Addr} {c:Nat} {es:List EV} (he:EntsIn w0 a c es): ∃er M2 L2 E2,Plan M Ls E es er M2 L2∧Wl.Inv M2∧Whole M2 L2 E2:=by
 by_cases hr:refuse (lastIx E) (es.map Prod.fst)=0
 ·have hok:okIx (lastIx E) (es.map Prod.fst)=true:=by
   cases h1:okIx (lastIx E) (es.map Prod.fst) with
   | true=>rfl
   | false=>unfold refuse at hr;rw[if_neg (by rw[h1];decide)] at hr;cases hr
  have hsh:short (es.map Prod.fst)=true:=by
   cases h1:short (es.map Prod.fst) with
   | true=>rfl
   | false=>unfold refuse at hr;rw[if_pos hok,if_neg (by rw[h1];decide)] at hr;cases hr
  obtain⟨E',hc⟩:=Pz.chain_okIx _ hok;have hall: ∀p∈es,p.1.ok:=fun p hp=>by
   obtain⟨f1,f2,_⟩:=he.fine p hp;obtain⟨ba,bc,_,_,k3⟩:=he.body p hp;refine⟨?_,f1,f2,?_,k3.hr⟩
   ·obtain⟨j,hj,rfl⟩:=List.mem_iff_getElem.1 hp
    exact okIx_pos _ hok es[j].1 (List.mem_map.2 ⟨_,List.getElem_mem hj,rfl⟩)
   ·have:=List.all_eq_true.1 hsh p.1 (List.mem_map.2 ⟨p,hp,rfl⟩)
    exact of_decide_eq_true this
  obtain⟨er,M2,L2,E2,h1,h2,h3⟩:=puts_exist (es.map Prod.fst) hi hW (fun e he'=>by
   obtain⟨p,hp,rfl⟩:=List.mem_map.1 he';exact hall p hp) hc
  exact⟨er,M2,L2,E2,.inr ⟨hall,⟨E',hc⟩,h1⟩,h2,h3⟩
 ·exact⟨_,M,logOf Ls,E,.inl ⟨hr,rfl,rfl,rfl⟩,hi,hW⟩
theorem papp (b:Both w0 x X w o gd hb g h n N S T K M M Ls) (hi:Wl.Inv M) (hW:Whole M (logOf Ls) E) {a:Option Addr} {c:Nat} {es:List EV} (he:EntsIn w0 a c es) (hl:es.length≤30) (hN:N≤3900) {er:Int} {M2:Files} {L2:List (Nat×List Ent)} (hp:Plan M Ls E es er M2 L2):
  Calls Tryz.prog 9 #[.pointer (some ⟨hb,0,none⟩),.slice a es.length c] w fun r w'=>r= .returned (.int .i64 er)∧ ∃o' N2,N2≤N+30∧Both w0 x X w' o' gd hb g h n N2 S T K M2 M Ls:=by
 have hE:=ents_small hW hi;have hln:(es.map Prod.fst).length=es.length:=by simp
 rcases hp with⟨hr,rfl,rfl,rfl⟩ | ⟨hok,⟨E',hc⟩,hp⟩
 ·have h1:=Pz.append_no b.live hW hb b.wal (es.map Prod.fst) a c w0.heap.size (he.entsF b) (by rw[hln];omega) (by omega) hr
  rw[hln] at h1;refine h1.mono ?_;rintro r w' ⟨rfl,hbl⟩;exact⟨rfl,o,N,by omega,b.below hbl⟩
 ·have h1:=Pz.append_all b.live hi hW hb b.wal (es.map Prod.fst) a c w0.heap.size (he.entsF b) (fun e he'=>by
   obtain⟨p,hp,rfl⟩:=List.mem_map.1 he';exact hok p hp) hc (by omega) (by rw[hln];omega) hp
  rw[hln] at h1;refine h1.mono ?_;rintro r w' ⟨rfl,o',N2,hN2,hl2,hst⟩;exact⟨rfl,o',N2,by omega,b.prog1 hst hl2⟩
theorem rapp {o:Tags} {M2:Files} (b:Both w0 x X w o gd hb g h n N S T K M2 M Ls) (hi:Wl.Inv M) (hW:Whole M (logOf Ls) E) {a:Option Addr} {c:Nat} {es:List EV} (he:EntsIn w0 a c es) (hl:es.length≤30) (hn:n≤400000) {er:Int} {L2:List (Nat×List Ent)} (hp:Plan M Ls E es er M2 L2):
  Calls Tryz.prog 10 #[.pointer (some ⟨h,0,none⟩),.slice a es.length c] w fun r w'=>r= .returned (.int .i64 er)∧ ∃n' S' T' K' Ls',n'≤n+30∧logOf Ls'=L2∧Both w0 x X w' o gd hb g h n' N S' T' K' M2 M2 Ls':=by
 rcases hp with⟨hr,rfl,rfl,rfl⟩ | ⟨hok,hc,hp⟩
 ·refine(append_no b.rs hi hW es a c (he.segK b) hr (by omega)).mono ?_
  rintro r w' ⟨rfl,hbl⟩;exact⟨rfl,n,S,T,K,Ls,by omega,rfl,b.below hbl⟩
 ·refine(append_yes b.rs hi hW es a c (he.segK b) hok hc hp (by omega) (by omega)).mono ?_
  rintro r w' ⟨rfl,S',T',K',Ls',h1,h2,h3⟩;exact⟨rfl,n+es.length,S',T',K',Ls',by omega,h1,b.ref h2 h3⟩
theorem psync (b:Both w0 x X w o gd hb g h n N S T K M M Ls):
  Calls Tryz.prog 11 #[.pointer (some ⟨hb,0,none⟩)] w fun r w'=> ∃v ks o',r= .returned v∧NamesOf M (fun f=>f.loose) ks∧Both w0 x X w' o' gd hb g h n N S T K (syncAll M (numsOf ks)) M Ls:=by
 refine(sync_wal b.live hb b.wal).mono ?_;rintro r w' ⟨ks,o',hks,rfl,hl,hs⟩;exact⟨_,ks,o',rfl,hks,b.prog1 hs hl⟩
theorem rsync {Mp:Files} {ks:List Name} (b:Both w0 x X w o gd hb g h n N S T K Mp M Ls) (hi:Wl.Inv M) (hn:n≤400000) (hks:NamesOf M (fun f=>f.loose) ks) (hkl:ks.length≤700000):
  Calls Tryz.prog 12 #[.pointer (some ⟨h,0,none⟩)] w fun r w'=>r= .returned (.tuple #[])∧ ∃S',Both w0 x X w' o gd hb g h n N S' T K Mp (syncAll M (numsOf ks)) Ls:=by
 refine(sync_any b.rs.disk (inv_ok hi) (inv_slim hi) (by omega) b.rs.cell0 (fun e=>(b.rs.sT h b.rs.log.th).2 e) hks hkl).mono ?_;rintro r w' ⟨rfl,hap,hrm⟩;exact⟨rfl,_,b.refd hap hrm⟩
theorem pcomp (b:Both w0 x X w o gd hb g h n N S T K M M Ls) (hW:Whole M (logOf Ls) E) (ix:Nat):
  Calls Tryz.prog 13 #[.pointer (some ⟨hb,0,none⟩),.int .u64 (ix:Int)] w fun r w'=> ∃v o',r= .returned v∧Both w0 x X w' o' gd hb g h n N S T K (dropN M (Ls.take (oldR ix Ls))) M Ls:=by
 refine(Go.Proofs.YtalfbcbnljhldaaGreatDoor.compact_any b.live hb b.wal ix).mono ?_;rintro r w' ⟨ks,o',hks,rfl,hl,hs⟩;have h1:segsAt M ks=(logOf Ls).map sgOf:=by unfold segsAt;rw[hW.read hks]
 rw[h1,old_same,drop_same] at hl;exact⟨_,o',rfl,b.prog1 hs hl⟩
theorem rcomp {Mp:Files} (b:Both w0 x X w o gd hb g h n N S T K Mp M Ls) (hi:Wl.Inv M) (hW:Whole M (logOf Ls) E) (hn:n≤400000) (ix:Nat):
  Calls Tryz.prog 14 #[.pointer (some ⟨h,0,none⟩),.int .u64 (ix:Int)] w fun r w'=>r= .returned (.tuple #[])∧ ∃S',Both w0 x X w' o gd hb g h n N S' T K Mp (dropN M (Ls.take (oldR ix Ls))) (Ls.drop (oldR ix Ls)):=by
 obtain⟨s1,s2,s3⟩:=whole_small hW hi;refine(Rl.compact_any b.rs.log b.rs.disk (inv_ok hi) (fun n f hf=>by have:=(hi.file n f hf).few;omega) (by omega) (segs_in hW) (by omega) (fun s hs=>by have:=s2 s hs;omega) b.rs.sT (fun k hk=>⟨(b.rs.sK k hk).1,(b.rs.sK k hk).2.1⟩) (fun k hk=>(b.rs.sK k hk).2.2) ix).mono ?_;rintro r w' ⟨rfl,hap,hlog,S',hrm,hS'⟩;have hlt:=RM.lt hrm;have hno: ∀k,k<w.heap.size→ ¬S k→ ¬S' k:=fun k hk hn hx=>by
  rcases hS' k hx with h1 | ⟨h1,_⟩
  ·exact hn h1
  ·omega
 have r2:RS w' w0.heap.size n h g S' T K (dropN M (Ls.take (oldR ix Ls))) (Ls.drop (oldR ix Ls)):=⟨hlog,hrm,hlt,fun k hk=>⟨Nat.lt_of_lt_of_le (b.rs.sT k hk).1 hap.size,hno k (b.rs.sT k hk).1 (b.rs.sT k hk).2⟩,fun k hk=>⟨Nat.lt_of_lt_of_le (b.rs.sK k hk).1 hap.size,hno k (b.rs.sK k hk).1 (b.rs.sK k hk).2.1,(b.rs.sK k hk).2.2⟩⟩;have m2:Mv S T K w w' S' T K:=⟨⟨hap.os,hap.tape,hap.output,hap.size,fun k hk hn=>hap.block k hk fun e=>hn (e.elim .inl fun e2=> .inr (by rw[e2];exact b.rs.log.th))⟩,hS',fun _ h=> .inl h,fun _ h=>h,fun _ h=> .inl h⟩;exact⟨rfl,S',b.ref r2 m2⟩
theorem pcrash (b:Both w0 x X w o gd hb g h n N S T K M M Ls) (hi:Wl.Inv M) {sa:Option Addr} {sc:Nat} {ss:List Int} (hst: ∀i (h:i<ss.length),∃gs of,sa=some ⟨gs,of,none⟩∧gs<w0.heap.size∧w0.cell? ⟨gs,of+i,none⟩=some (.int .i64 ss[i])) (hsf: ∀x∈ss,-9223372036854775808≤x∧x≤9223372036854775807):
  Calls Tryz.prog 15 #[.pointer (some ⟨gd,0,none⟩),.slice sa ss.length sc] w fun r w'=>r= .returned (.tuple #[])∧ ∃ks o',NamesOf M (fun f=>f.loose) ks∧Both w0 x X w' o' gd hb g h n N S T K (crashed M ks (stayN ss)) M Ls:=by
 have hno: ∀k,k<w0.heap.size→o k=none:=fun k hk=>b.ks k (b.kb k hk);refine(crash_any gd w0.heap.size N o M sa sc ss w b.live.disk ⟨fun i hi'=>?_,hsf⟩ (Pz.inv_tame hi).good (by have:=b.live.few;omega)).mono ?_
 ·obtain⟨gs,of,h1,h2,h3⟩:=hst i hi'
  exact⟨gs,of,h1,Nat.lt_of_lt_of_le h2 b.live.hB,hno gs h2,stays' b.bel h3⟩
 ·rintro r w' ⟨rfl,ks,o',hks,hd,hs⟩
  exact⟨rfl,ks,o',hks,b.prog1 hs (step_live b.live hs hd (inv_crashed hi ks _ hks) b.live.few)⟩
theorem rcrash {Mp:Files} {ks:List Name} (b:Both w0 x X w o gd hb g h n N S T K Mp M Ls) (hi:Wl.Inv M) (hn:n≤400000) (hks:NamesOf M (fun f=>f.loose) ks) {sa:Option Addr} {sc:Nat} {ss:List Int} (hst: ∀i (h:i<ss.length),∃gs of,sa=some ⟨gs,of,none⟩∧gs<w0.heap.size∧w0.cell? ⟨gs,of+i,none⟩=some (.int .i64 ss[i])) (hsf: ∀x∈ss,-9223372036854775808≤x∧x≤9223372036854775807) (hsl:ss.length≤30):
  Calls Tryz.prog 16 #[.pointer (some ⟨g,0,none⟩),.slice sa ss.length sc] w fun r w'=>r= .returned (.tuple #[])∧ ∃S',Both w0 x X w' o gd hb g h n N S' T K Mp (crashed M ks (stayN ss)) Ls:=by
 refine(rm_crash b.rs.disk (inv_ok hi) (inv_slim hi) (by omega) hks sa sc ss (fun i hi'=>?_) hsf (by omega)).mono ?_
 ·obtain⟨gs,of,h1,h2,h3⟩:=hst i hi'
  exact⟨gs,of,h1,h2,stays' b.bel h3⟩
 ·rintro r w' ⟨rfl,hap,hrm⟩
  exact⟨rfl,_,b.refd hap hrm⟩
theorem popen {Mr:Files} (b:Both w0 x X w o gd hb g h n N S T K M Mr Ls) (hi:Wl.Inv M):
  Calls Tryz.prog 6 #[.pointer (some ⟨gd,0,none⟩)] w fun r w'=> ∃ks hb' o',r= .returned (.tuple #[.pointer (some ⟨hb',0,none⟩),.int .i64 0])∧Here1 M ks∧Both w0 x X w' o' gd hb' g h n N S T K (openOf M ks) Mr Ls:=by
 refine(open_any b.live).mono ?_;rintro r w' ⟨ks,hb',o',rfl,hks,hge,hw,hd,hs⟩;obtain⟨h1,h2⟩:=Pz.open_whole_any hi hks;exact⟨ks,hb',o',rfl,hks,b.prog hs (step_live b.live hs hd h1 b.live.few) hw ⟨fun e=>by have:=b.rs.sS hb' e;omega,fun e=>by have:=(b.rs.sT hb' e).1;omega⟩⟩
theorem ropen {Mp:Files} {ks:List Name} (b:Both w0 x X w o gd hb g h n N S T K Mp M Ls) (hi:Wl.Inv M) (hn:n≤400000) (hks:Here1 M ks):
  Calls Tryz.prog 7 #[.pointer (some ⟨g,0,none⟩)] w fun r w'=> ∃h' S' T' K' Ls',r= .returned (.pointer (some ⟨h',0,none⟩))∧logOf Ls'=Pz.logL (readGo (segsOf M (numsOf ks)) []).1∧Both w0 x X w' o gd hb g h' (n+64) N S' T' K' Mp (openOf M ks) Ls':=by
 have hkl:ks.length≤64:=by
  obtain⟨ks0,h1,h2⟩:=hi.fin;rw[NamesOf.one hks h1];exact h2
 refine(open_all b.rs.disk hi (by omega) hks hkl).mono ?_;rintro r w' ⟨rfl,S',T',K',Ls',h1,h2,h3⟩;exact⟨w.heap.size,S',T',_,Ls',rfl,h1,b.ropen h2 h3⟩
end
end Rl
end Go.Proofs.YtalfbcbnljhldaaGreatDoor

namespace Go.Proofs.YtalfbcbnljhldaaGreatDoor
open Go.RowKit Go.Maps Go.Sort Dsk Rd Wl
namespace Rl
def Laid (M:Files) (nm:Name) (bs:List Int) (M1 M2:Files):Prop:=
 (nm= []∧M1=M∧M2=M)∨(nm≠ []∧Room M nm∧M1=upd M nm (some ((M.at nm).chg ⟨true,bs,bs.length⟩))∧M2=upd M nm (some ⟨⟨true,bs,bs.length⟩,[],false⟩))∨(nm≠ []∧Full M nm∧M1=M∧M2=M)
section
variable {w0 w:World} {x:Nat} {X:Option Obj} {o:Tags} {gd hb g h n N:Nat} {S T K:Nat→Prop} {M M1 M2:Files} {Ls:List SV} {E:List Ent} {nm:Name} {bs:List Int}
theorem laid_is (hi:Wl.Inv M) (hn:nm.length≤64) (hl:bs.length≤300) (hr: ∀x∈bs,0≤x∧x≤255): ∃M1 M2,Laid M nm bs M1 M2∧Wl.Inv M2:=by
 by_cases h0:nm= []
 ·exact⟨M,M,.inl ⟨h0,rfl,rfl⟩,hi⟩
 ·rcases hi.room nm with h1 | h1
  ·exact⟨_,_,.inr (.inl ⟨h0,h1,rfl,rfl⟩),inv_laid hi hn hl hr h1⟩
  ·exact⟨M,M,.inr (.inr ⟨h0,h1,rfl,rfl⟩),hi⟩
theorem ver_ok (hl:bs.length≤300) (hr: ∀x∈bs,0≤x∧x≤255):Ver.ok ⟨true,bs,bs.length⟩:=⟨Nat.le_refl _,by dsimp only;omega,hr⟩
theorem prepl (b:Both w0 x X w o gd hb g h n N S T K M M Ls) (hi:Wl.Inv M) (hn:nm.length≤64) (hl:bs.length≤300) {ba:Option Addr} {bc:Nat} (hp:Reads w0 ba bs) (hna:ba=none→bc=0) (hN:N≤4000) (hL:Laid M nm bs M1 M2):
  Calls Tryz.prog 17 #[.pointer (some ⟨gd,0,none⟩),.string ⟨nm.toArray⟩,.slice ba bs.length bc] w fun r w'=> ∃v o' N',r= .returned v∧N'≤N+1∧Both w0 x X w' o' gd hb g h n N' S T K M1 M Ls:=by
 rcases hL with⟨rfl,rfl,rfl⟩ | ⟨h0,hr,rfl,rfl⟩ | ⟨h0,⟨hno,ks,hk,h64⟩,rfl,rfl⟩
 ·refine(Pz.replace_empty b.live.disk _).mono ?_
  rintro r w' ⟨rfl,rfl⟩;exact⟨_,o,N,rfl,by omega,b⟩
 ·have h1:1≤nm.length:=List.length_pos_iff.2 h0
  obtain⟨ks,hk,hkl⟩:=hi.fin;have hroom:(M.at nm).now.there=true∨ks.length<64:=by
   rcases hr with h2 | ⟨ks2,h2,h3⟩
   ·exact .inl h2
   ·rw[NamesOf.one hk h2]
    exact .inr h3
  refine(Pz.replace_room gd w0.heap.size N o M nm ba bs.length bc bs w b.live.disk rfl (hp.below b.bel) hna (by omega) hk hroom h1 hn (by omega) (fun l f hf=>by have:=(hi.file l f hf).few;omega) b.live.hB).mono ?_;rintro r w' ⟨rfl,o',hd,hs⟩;have hcn:=cntN_le M nm N;exact⟨_,o',cntN M nm N,rfl,by omega,b.prog1 hs (b.live.step hs hd (tame_upd (Pz.inv_tame hi) hn fun f hf=>by
   cases hf;have:=(hi.at_size nm).2;simp [Fil.chg];omega) (by omega))⟩
 ·have h1:1≤nm.length:=List.length_pos_iff.2 h0
  refine(Pz.replace_full gd w0.heap.size N o _ nm ba bs.length bc bs w b.live.disk rfl (hp.below b.bel) hna (by omega) hk hno h64 h1 hn (by omega) (fun l f hf=>by have:=(hi.file l f hf).few;omega) b.live.hB).mono ?_;rintro r w' ⟨rfl,hbl⟩;exact⟨_,o,N,rfl,by omega,b.below hbl⟩
theorem rrepl {Mp:Files} (b:Both w0 x X w o gd hb g h n N S T K Mp M Ls) (hi:Wl.Inv M) (hn:nm.length≤64) (hl:bs.length≤300) {ba:Option Addr} {bc:Nat} (hp:Reads w0 ba bs) (hna:ba=none→bc=0) (hnn:n≤400000) (hL:Laid M nm bs M1 M2):
  Calls Tryz.prog 18 #[.pointer (some ⟨g,0,none⟩),.string ⟨nm.toArray⟩,.slice ba bs.length bc] w fun r w'=> ∃v S' n',r= .returned v∧n'≤n+1∧Both w0 x X w' o gd hb g h n' N S' T K Mp M1 Ls:=by
 have hrs:ReadsS w S ba bs:=⟨hp.below b.bel,fun y e hne hs=>by
  have h1:=reads_block hp y e hne;have:=b.lo y.block (.inl hs);omega⟩
 rcases hL with⟨rfl,rfl,rfl⟩ | ⟨h0,hr,rfl,rfl⟩ | ⟨h0,⟨hno,ks,hk,h64⟩,rfl,rfl⟩
 ·refine(replace_bad [] (.inl rfl) (by simp) _ _).mono ?_
  rintro r w' ⟨rfl,rfl⟩;exact⟨_,S,n,rfl,by omega,b⟩
 ·obtain⟨ks,hk,hkl⟩:=hi.fin
  have hroom:(M.at nm).now.there=true∨ks.length<64:=by
   rcases hr with h2 | ⟨ks2,h2,h3⟩
   ·exact .inl h2
   ·rw[NamesOf.one hk h2]
    exact .inr h3
  refine(rm_replace b.rs.disk (inv_ok hi) (inv_slim hi) (by omega) nm (fun e=>h0 (List.eq_nil_of_length_eq_zero e)) hn ba bc bs hrs hna (by omega) hk hroom).mono ?_;rintro r w' ⟨rfl,hap,hrm⟩;exact⟨_,_,n+1,rfl,by omega,b.refd hap hrm⟩
 ·refine(rm_replace_full b.rs.disk (inv_ok hi) (inv_slim hi) (by omega) nm (fun e=>h0 (List.eq_nil_of_length_eq_zero e)) hn ba bc bs hrs hna (by omega) hk hno h64).mono ?_
  rintro r w' ⟨rfl,hbl⟩;exact⟨_,S,n,rfl,by omega,b.below hbl⟩
theorem psyn4 (b:Both w0 x X w o gd hb g h n N S T K M1 M1 Ls) (hi:Wl.Inv M) (hi2:Wl.Inv M2) (hn:nm.length≤64) (hN:N≤4900) (hL:Laid M nm bs M1 M2):
  Calls Tryz.prog 19 #[.pointer (some ⟨gd,0,none⟩),.string ⟨nm.toArray⟩] w fun r w'=> ∃v o',r= .returned v∧Both w0 x X w' o' gd hb g h n N S T K M2 M1 Ls:=by
 rcases hL with⟨rfl,rfl,rfl⟩ | ⟨h0,hr,rfl,rfl⟩ | ⟨h0,⟨hno,ks,hk,h64⟩,rfl,rfl⟩
 ·refine(sync_empty b.live.disk).mono ?_
  rintro r w' ⟨rfl,rfl⟩;exact⟨_,o,rfl,b⟩
 ·have hy:=Go.Proofs.YtalfbcbnljhldaaGreatDoor.sync_any gd w0.heap.size N o _ nm w b.live.disk (by rw[upd_same];rfl) (List.length_pos_iff.2 h0) hn (by omega) (by
   rw[upd_at];have:=(hi.at_size nm).2;simp [Fil.chg];omega)
  rw[laid_eq] at hy;refine hy.mono ?_;rintro r w' ⟨rfl,o',hd,hs⟩;exact⟨_,o',rfl,b.prog1 hs (step_live b.live hs hd hi2 b.live.few)⟩
 ·refine(Pz.sync_none gd w0.heap.size N o _ nm w b.live.disk (hi.gone hno) (List.length_pos_iff.2 h0) hn).mono ?_
  rintro r w' ⟨rfl,hbl⟩;exact⟨_,o,rfl,b.below hbl⟩
theorem rsyn4 {Mp:Files} (b:Both w0 x X w o gd hb g h n N S T K Mp M1 Ls) (hi:Wl.Inv M) (hn:nm.length≤64) (hl:bs.length≤300) (hr: ∀x∈bs,0≤x∧x≤255) (hnn:n≤400000) (hL:Laid M nm bs M1 M2):
  Calls Tryz.prog 20 #[.pointer (some ⟨g,0,none⟩),.string ⟨nm.toArray⟩] w fun r w'=> ∃v S',r= .returned v∧Both w0 x X w' o gd hb g h n N S' T K Mp M2 Ls:=by
 rcases hL with⟨rfl,rfl,rfl⟩ | ⟨h0,hr2,rfl,rfl⟩ | ⟨h0,⟨hno,ks,hk,h64⟩,rfl,rfl⟩
 ·refine(sync_bad [] (.inl rfl) (by simp) _).mono ?_
  rintro r w' ⟨rfl,rfl⟩;exact⟨_,S,rfl,b⟩
 ·obtain⟨c1,c2⟩:=chg_ok hi nm (ver_ok hl hr)
  have hy:=rm_sync b.rs.disk c1 c2 (by omega) nm (fun e=>h0 (List.eq_nil_of_length_eq_zero e)) hn (by rw[upd_same];rfl);rw[laid_eq] at hy;refine hy.mono ?_;rintro r w' ⟨rfl,hap,hrm⟩;exact⟨_,_,rfl,b.refd hap hrm⟩
 ·refine(rm_sync_none b.rs.disk (by omega) nm (fun e=>h0 (List.eq_nil_of_length_eq_zero e)) hn (hi.gone hno)).mono ?_
  rintro r w' ⟨rfl,rfl⟩;exact⟨_,S,rfl,b⟩
theorem pents (b:Both w0 x X w o gd hb g h n N S T K M M Ls) (hW:Whole M (logOf Ls) E):
  Calls Tryz.prog 22 #[.pointer (some ⟨hb,0,none⟩)] w fun r w'=> ∃v,r= .returned v∧EntRow w' w.heap.size E v∧Below w.heap.size w w':=by
 refine(Go.Proofs.YtalfbcbnljhldaaGreatDoor.entries_any b.live hb b.wal).mono ?_;rintro r w' ⟨ks,v,hks,rfl,he,hbl⟩;have:entsAt M ks=E:=by unfold entsAt;rw[hW.read hks]
 rw[this] at he;exact⟨v,rfl,he,hbl⟩
theorem rents (b:Both w0 x X w o gd hb g h n N S T K M M Ls) (hi:Wl.Inv M) (hW:Whole M (logOf Ls) E):
  Calls Tryz.prog 23 #[.pointer (some ⟨h,0,none⟩)] w fun r w'=> ∃a c l,r= .returned (.slice a E.length c)∧l.map Prod.fst=E∧ReadsP w' a l∧(∀p∈l,∃ba bc,p.2= .slice ba p.1.body.length bc∧Reads w' ba p.1.body)∧Below w.heap.size w w':=by
 obtain⟨s1,s2,s3⟩:=whole_small hW hi;refine(Rl.entries_any b.rs.log.logR (by omega) (by omega)).mono ?_;rintro r w' ⟨a,c,l,k,rfl,hri,hrow,hbl⟩;have hc:=hW.ents;rw[logOf_flat] at hc;obtain⟨hk,hle⟩:=hri.some hc;have hlen:l.length=E.length:=by rw[←hle];simp
 have hmem: ∀p∈l,p∈recsOf Ls:=fun p hp=>by
  rcases chainP_mem _ _ hri.come p hp with h1 | h1
  ·cases h1
  ·exact List.mem_of_mem_take h1
 rw[hlen];refine⟨a,c,l,rfl,hle,(RowP.reads hrow).1,fun p hp=>?_,hbl⟩;obtain⟨s,hs,hps⟩: ∃s∈Ls,p∈s.l:=by
  have h1:=hmem p hp;unfold recsOf at h1;obtain⟨l2,h2,h3⟩:=List.mem_flatten.1 h1;obtain⟨s,hs,rfl⟩:=List.mem_map.1 h2;exact⟨s,hs,h3⟩
 obtain⟨_,_,_,_,_,_,hbody⟩:=b.rs.log.segs s hs;obtain⟨ba,bc,k1,-,k3,-⟩:=hbody p hps;exact⟨ba,bc,k1,k3.below hbl⟩
end
end Rl
end Go.Proofs.YtalfbcbnljhldaaGreatDoor

set_option linter.unusedSimpArgs false
namespace Go.Proofs.YtalfbcbnljhldaaGreatDoor
open Go.Lib (hid)
open Go.RowKit Go.Maps Go.Sort Dsk Rd Wl
namespace Rl
noncomputable def rgnL (n:Nat):Code:=((Tryz.f3.body.bind (findRegion n)).getD .skip)
abbrev OpBox (kd:Int) (la:Option Addr) (ln lc nn:Nat) (sa:Option Addr) (sn sc:Nat) (nm:Name) (ba:Option Addr) (bn bc:Nat):Option Obj:=some (.cells #[.int .i64 kd,.slice la ln lc,.int .u64 (nn:Int),.slice sa sn sc,.string ⟨nm.toArray⟩,.slice ba bn bc] 41 (0,0))
set_option maxRecDepth 1000000 in
set_option maxHeartbeats 16000000 in
theorem app18 (v0 v1 v2 v3 v4 v6 v8 v10 v11 v12 v13 v14 v15 v16 v17 v18 v19 v20 v21 v22 v23 v24 v25 v26 v27 v28 v29 v30 v31 v32 v33 v34 v35 v36 v37 v38 v39 v40 v41 v42 v43 v44 v45 v46 v47 v48 v49 v50 v51 v52 v53 v54 v55 v56 v57 v58 v59 v60 v61 v62 v63 v64 v65 v66 v67 v68 v69 v70 v71 v72 v73 v74 v75 v76 v77 v78 v79 v80 v81 v82 v83 v84 v85 v86 v87 v88 v89 v90 v91 v92 v93 v94 v95 v96 v97 v98 v99 v100 v101 v102 v103 v104 v105 v106 v107 v108 v109 v110 v111 v112 v113 v114 v115 v116 v117 v118 v119 v120 v121 v122 v123 v124:Value) {Q:Exit→Act→World→Prop} {w0 wx:World} {ob:Nat} {kd:Int} {la:Option Addr} {ln lc nn:Nat} {sa:Option Addr} {sn sc:Nat} {nm:Name} {ba:Option Addr} {bn bc:Nat} {o:Tags} {gd hb g h n N:Nat} {S T K:Nat→Prop} {M M2:Files} {Ls:List SV} {E:List Ent} {es:List EV} {er:Int} {L2:List (Nat×List Ent)}
  (b:Both w0 ob (OpBox kd la ln lc nn sa sn sc nm ba bn bc) wx o gd hb g h n N S T K M M Ls) (hi:Wl.Inv M) (hW:Whole M (logOf Ls) E) (he:EntsIn w0 la lc es) (hln:ln=es.length) (hl:es.length≤30) (hN:N≤3900) (hn:n≤400000) (hp:Plan M Ls E es er M2 L2)
  (hpn: ∀c0 t0 t1 d w0,Q (.panic c0) ⟨t0,d⟩ w0→Q (.panic c0) ⟨t1,d⟩ w0)
  (hq: ∀(y43 y44 y45 y46 y47 y48 y49 y50:Value) (wz:World) (o':Tags) (N2 n2:Nat) (S' T' K':Nat→Prop) (Ls':List SV),N2≤N+30→n2≤n+30→logOf Ls'=L2→Both w0 ob (OpBox kd la ln lc nn sa sn sc nm ba bn bc) wz o' gd hb g h n2 N2 S' T' K' M2 M2 Ls'→Q .normal ⟨#[v0,v1,v2,v3,v4,.pointer (some ⟨hb,0,none⟩),v6,.pointer (some ⟨h,0,none⟩),v8,.pointer (some ⟨ob,0,none⟩),v10,v11,v12,v13,v14,v15,v16,v17,v18,v19,v20,v21,v22,v23,v24,v25,v26,v27,v28,v29,v30,v31,v32,v33,v34,v35,v36,v37,v38,v39,v40,v41,v42,y43,y44,y45,y46,y47,y48,y49,y50,.bool false,v52,v53,v54,v55,v56,v57,v58,v59,v60,v61,v62,v63,v64,v65,v66,v67,v68,v69,v70,v71,v72,v73,v74,v75,v76,v77,v78,v79,v80,v81,v82,v83,v84,v85,v86,v87,v88,v89,v90,v91,v92,v93,v94,v95,v96,v97,v98,v99,v100,v101,v102,v103,v104,v105,v106,v107,v108,v109,v110,v111,v112,v113,v114,v115,v116,v117,v118,v119,v120,v121,v122,v123,v124],[]⟩ wz):
  Code.wp Tryz.prog (rgnL 18) Q ⟨#[v0,v1,v2,v3,v4,.pointer (some ⟨hb,0,none⟩),v6,.pointer (some ⟨h,0,none⟩),v8,.pointer (some ⟨ob,0,none⟩),v10,v11,v12,v13,v14,v15,v16,v17,v18,v19,v20,v21,v22,v23,v24,v25,v26,v27,v28,v29,v30,v31,v32,v33,v34,v35,v36,v37,v38,v39,v40,v41,v42,v43,v44,v45,v46,v47,v48,v49,v50,v51,v52,v53,v54,v55,v56,v57,v58,v59,v60,v61,v62,v63,v64,v65,v66,v67,v68,v69,v70,v71,v72,v73,v74,v75,v76,v77,v78,v79,v80,v81,v82,v83,v84,v85,v86,v87,v88,v89,v90,v91,v92,v93,v94,v95,v96,v97,v98,v99,v100,v101,v102,v103,v104,v105,v106,v107,v108,v109,v110,v111,v112,v113,v114,v115,v116,v117,v118,v119,v120,v121,v122,v123,v124],[]⟩ wx:=by
 conv=>arg 2;whnf
 have HQ:=hid hq;have HPN:=hid hpn;have hdr:Below wx.heap.size wx wx.drew:=(Below.refl _ _).drew;obtain⟨u,hu⟩: ∃u,u=wx.drew:=⟨_,rfl⟩;rw[←hu] at hdr;have HB:=hid (b.below hdr);have HPA:=hid (papp HB.out hi hW he hl hN hp);have HRA:=hid (fun(w':World) (o':Tags) (N2:Nat) (b':Both w0 ob (OpBox kd la ln lc nn sa sn sc nm ba bn bc) w' o' gd hb g h n N2 S T K M2 M Ls)=>rapp b' hi hW he hl hn hp);rw[←hln] at HPA HRA;have HS0:=hid (show u.cell? ⟨ob,1,none⟩=some (.slice la ln lc) by rw[cell_of_row _ _ _ _ _ _ HB.out.anc.2];rfl);clear hq hpn b hi hW he hln hl hp hdr hn hN;refine wp_region_held_drew (S:=fun W=>W.cell? ⟨ob,1,none⟩=some (.slice la ln lc)) (by kernel_rfl) (by rw[←hu];exact HS0.out) (fun hHeld=>?_);rw[←hu] at hHeld ⊢;clear hu;refine zkH 0 (v:=?_) (hQ:=by exact fun c0 _ w0 h0=>HPN.out c0 _ _ _ w0 h0) (h2:=?_) (h:=?_);rotate_left;focus (intro W hS;(try dsimp only at hS);have q1:=hS;go_simp;(try with_reducible rfl))
 try simp only[Act.put,zsA,zsS,zsZ]
 refine zkH 1 (v:=?_) (hQ:=by exact fun c0 _ w0 h0=>HPN.out c0 _ _ _ w0 h0) (h2:=?_) (h:=?_);rotate_left;focus (intro W hS;(try dsimp only at hS);have q1:=hS;go_simp;(try with_reducible rfl))
 try simp only[Act.put,zsA,zsS,zsZ]
 refine zkH 2 (v:=?_) (hQ:=by exact fun c0 _ w0 h0=>HPN.out c0 _ _ _ w0 h0) (h2:=?_) (h:=?_);rotate_left;focus (intro W hS;(try dsimp only at hS);have q1:=hS;go_simp;(try with_reducible rfl))
 try simp only[Act.put,zsA,zsS,zsZ]
 refine zkH 4 (v:=?_) (hQ:=by exact fun c0 _ w0 h0=>HPN.out c0 _ _ _ w0 h0) (h2:=?_) (h:=?_);rotate_left;focus (intro W hS;(try dsimp only at hS);have q1:=hS;go_simp;(try with_reducible rfl))
 try simp only[Act.put,zsA,zsS,zsZ]
 refine zkH 5 (v:=?_) (hQ:=by exact fun c0 _ w0 h0=>HPN.out c0 _ _ _ w0 h0) (h2:=?_) (h:=?_);rotate_left;focus (intro W hS;(try dsimp only at hS);have q1:=hS;go_simp;(try with_reducible rfl))
 try simp only[Act.put,zsA,zsS,zsZ]
 refine zkH 6 (v:=?_) (hQ:=by exact fun c0 _ w0 h0=>HPN.out c0 _ _ _ w0 h0) (h2:=?_) (h:=?_);rotate_left;focus (intro W hS;(try dsimp only at hS);have q1:=hS;go_simp;(try with_reducible rfl))
 try simp only[Act.put,zsA,zsS,zsZ]
 refine zrH 3 (h:=fun K hK=>?_);rw[if_pos (by rfl)];go_simp
 refine HPA.out.mono ?_;rintro e w5 ⟨rfl,o5,N5,hN5,b5⟩;have HB5:=hid b5;have HN5:=hid hN5;have HS5:=hid (show w5.cell? ⟨ob,1,none⟩=some (.slice la ln lc) by rw[cell_of_row _ _ _ _ _ _ b5.anc.2];rfl);clear b5 hN5;go_wp2_with fail
 refine hK.out _ _ HS5.out (fun hHeld=>?_);clear hK K;try simp only[Act.put,zsA,zsS,zsZ]
 refine zrH 7 (h:=fun K hK=>?_);rw[if_pos (by rfl)];go_simp
 refine(HRA.out w5 o5 N5 HB5.out).mono ?_;rintro e w6 ⟨rfl,n6,S6,T6,K6,Ls6,hn6,hl6,b6⟩;have HB6:=hid b6;have HN6:=hid hn6;have HL6:=hid hl6;have HS6:=hid (show w6.cell? ⟨ob,1,none⟩=some (.slice la ln lc) by rw[cell_of_row _ _ _ _ _ _ b6.anc.2];rfl);clear b6 hn6 hl6;go_wp2_with fail
 refine hK.out _ _ HS6.out (fun hHeld=>?_);clear hK K;try simp only[Act.put,zsA,zsS,zsZ]
 refine zkH 8 (v:=?_) (hQ:=by exact fun c0 _ w0 h0=>HPN.out c0 _ _ _ w0 h0) (h2:=?_) (h:=?_);rotate_left;focus (intro W hS;(try dsimp only at hS);have q1:=hS;go_simp;(try with_reducible rfl))
 try simp only[Act.put,zsA,zsS,zsZ]
 refine wpAnyH_done (by kernel_rfl) ?_ _;exact HQ.out _ _ _ _ _ _ _ _ w6 o5 N5 n6 S6 T6 K6 Ls6 HN5.out HN6.out HL6.out HB6.out
end Rl
end Go.Proofs.YtalfbcbnljhldaaGreatDoor

namespace Go.Proofs.YtalfbcbnljhldaaGreatDoor
open Go.RowKit Go.Maps Go.Sort Dsk Rd Wl
namespace Rl
set_option maxHeartbeats 400000 in
theorem new_base (w:World) {B:Nat} (hB:B≤w.heap.size):
  Calls Tryz.prog 5 #[] w fun e w'=>e= .returned (.pointer (some ⟨w.heap.size+1,0,none⟩))∧Below w.heap.size w w'∧ ∃o:Tags,DiskAt w' B o (w.heap.size+1) (fun _=>none) 0∧ ∀k,w'.heap.size≤k→o k=none:=by
 have hmm:= @run_makeMap Tryz.prog;go_enter Tryz.func5,Tryz.ntmps5
 go_wp2
 go_ret
 refine⟨rfl,((Below.refl _ _).alloc (Nat.le_refl _) _).alloc (by simp) _,fun k=>if k=w.heap.size then some .map else if k=w.heap.size+1 then some .disk else none,⟨w.heap.size,.map [],?_,by simp,by simp,?_,Nat.le_refl _,fun k e=>?_,fun n _=> .inl ⟨rfl,rfl⟩,fun n e=>by cases e⟩,fun k hk=>?_⟩
 ·have:=heap_alloc_new (w.alloc (.map #[] 0)) (.cells #[.map (some w.heap.size)] 58)
  simpa using this
 ·exact(World.ownsMap_made w _ _ _).alloc _
 ·split at e
  ·subst_vars;exact⟨hB,by simp;omega⟩
  ·split at e
   ·subst_vars;exact⟨by omega,by simp⟩
   ·exact absurd rfl e
 ·have hk':w.heap.size+1+1≤k:=by simpa using hk
  show(if k=w.heap.size then some Tag.map else if k=w.heap.size+1 then some Tag.disk else none)=none;rw[if_neg (by omega),if_neg (by omega)]
theorem rm_new {w:World} {B g:Nat} (hg:w.heap[g]?=some (.cells #[.slice none 0 0] 29 (0,0))) (hB:B≤g):RM w B (fun k=>k=g) g 0 (fun _=>none):=by
 refine⟨[],⟨⟨_,hg,World.ownsRow_nil _ _ _ _,fun k e=>by cases e⟩,(fun c hc=>by cases hc),.nil,fun k e=>?_,rfl⟩,⟨.nil,fun nm=>rfl⟩,Nat.le_refl _⟩;subst e;exact⟨hB,lt_of_block hg⟩
theorem Both.first {w0 w w':World} {o:Tags} {gd hb g n n' N:Nat} {S S' T' K':Nat→Prop} {Mp Mr Mr':Files} {Ls':List SV}
  (hbel:Below w0.heap.size w0 w) (hl:Live w w0.heap.size o gd Mp N) (hwl:WalAt w o hb gd) (hrm:RM w w0.heap.size S g n Mr) (hlo: ∀k,S k→w0.heap.size≤k) (hsep: ∀k,S k→o k=none) (hhb: ¬S hb) (h0:0<w0.heap.size)
  (r:RS w' w0.heap.size n' w.heap.size g S' T' K' Mr' Ls') (m:Mv S (fun k=>k=w.heap.size) (fun _=>False) (w.alloc (.cells #[.pointer (some ⟨g,0,none⟩),.slice none 0 0] 69)) w' S' T' K'):
  Both w0 0 (w'.heap[0]?) w' o gd hb g w.heap.size n' N S' T' (fun k=>K' k∨k<w0.heap.size) Mp Mr' Ls':=by
 have hz1:(w.alloc (.cells #[.pointer (some ⟨g,0,none⟩),.slice none 0 0] 69)).heap.size=w.heap.size+1:=by simp
 have hal:Below w.heap.size w (w.alloc (.cells #[.pointer (some ⟨g,0,none⟩),.slice none 0 0] 69)):=(Below.refl _ _).alloc (Nat.le_refl _) _;have hSl: ∀k,S k→k<w.heap.size:=RM.lt hrm;have hst: ∀k,k<w.heap.size→ ¬S k→w'.heap[k]?=w.heap[k]?:=fun k hk hn=>by
  rw[m.ap.block k (by omega) fun e=>e.elim hn fun e2=>by omega,hal.block k hk]
 have hz:w.heap.size≤w'.heap.size:=Nat.le_trans hal.size m.ap.size;have hB:=hl.hB;have hbl:Below w0.heap.size w w':=⟨m.ap.os.trans hal.os,m.ap.tape.trans hal.tape,m.ap.output.trans hal.output,hz,fun k hk=>hst k (by omega) fun e=>by have:=hlo k e;omega⟩;have hnew: ∀k,w.heap.size≤k→o k=none:=fun k hk=>hl.free hk;have hS: ∀k,S' k→S k∨w.heap.size≤k:=fun k e=>(m.s k e).imp id fun h1=>by omega
 have hT: ∀k,T' k→w.heap.size≤k:=fun k e=>(m.t k e).elim (fun h1=>by omega) fun h1=>by omega
 have hK: ∀k,K' k→w.heap.size≤k:=fun k e=>(m.k2 k e).elim (fun h1=>h1.elim) fun h1=>by omega
 have hbw:=lt_of_block hwl.1;refine⟨hbel.trans hbl,⟨hl.tabs.below hbl,disk_keep hl.disk hz fun k e=>hst k (hl.disk.owns k e).2 fun hs=>e (hsep k hs),by omega,hl.tame,hl.few⟩,⟨(hst hb hbw hhb).trans hwl.1,hwl.2⟩,⟨⟨r.log.th,r.log.wal,fun s hs=>(r.log.segs s hs).mono fun k hk=> .inl hk⟩,r.disk,r.sS,r.sT,fun k hk=>?_⟩,fun k e=>?_,fun k e=>?_,⟨fun e=>?_,fun e=>by have:=hT hb e;omega⟩,fun k hk=> .inr hk,fun k e=>?_,.inr h0,rfl⟩
 ·rcases hk with hk | hk
  ·exact r.sK k hk
  ·refine⟨by omega,fun e=>?_,fun e=>by have:=hT k e;omega⟩
   rcases hS k e with h1 | h1
   ·have:=hlo k h1;omega
   ·omega
 ·rcases e with e | e
  ·rcases hS k e with h1 | h1
   ·exact hlo k h1
   ·omega
  ·have:=hT k e;omega
 ·rcases e with e | e
  ·rcases hS k e with h1 | h1
   ·exact hsep k h1
   ·exact hnew k h1
  ·exact hnew k (hT k e)
 ·rcases hS hb e with h1 | h1
  ·exact hhb h1
  ·omega
 ·rcases e with e | e
  ·exact hnew k (hK k e)
  ·cases ho:o k with
   | none=>rfl
   | some t=>have:=(hl.disk.owns k (by rw[ho];simp)).1;omega
structure OpV where
 kd:Int
 la:Option Addr
 lc:Nat
 es:List EV
 nn:Nat
 sa:Option Addr
 sc:Nat
 ss:List Int
 nm:Name
 ba:Option Addr
 bc:Nat
 bs:List Int
def OpV.cells (v:OpV):List Value:= [.int .i64 v.kd,.slice v.la v.es.length v.lc,.int .u64 (v.nn:Int),.slice v.sa v.ss.length v.sc,.string ⟨v.nm.toArray⟩,.slice v.ba v.bs.length v.bc]
structure OpOk (w:World) (v:OpV):Prop where
 ents:EntsIn w v.la v.lc v.es
 stay: ∀i (h:i<v.ss.length),∃gs of,v.sa=some ⟨gs,of,none⟩∧gs<w.heap.size∧w.cell? ⟨gs,of+i,none⟩=some (.int .i64 v.ss[i])
 fit: ∀x∈v.ss,-9223372036854775808≤x∧x≤9223372036854775807
 body:Reads w v.ba v.bs
 nil:v.ba=none→v.bc=0
 le:v.es.length≤9223372036854775807
 lb: ∀p∈v.es,p.1.body.length≤9223372036854775807
 ls:v.ss.length≤9223372036854775807
 lz:v.bs.length≤9223372036854775807
 ln:v.nm.length≤9223372036854775807
def OpsIn (w:World) (a:Option Addr) (vs:List OpV):Prop:= ∀i (h:i<vs.length),OpOk w vs[i]∧ ∃q p,a=some ⟨q,p,none⟩∧q<w.heap.size∧ ∀j (hj:j<6),w.cell? ⟨q,p+(i*6+j),none⟩=(vs[i].cells)[j]?
theorem OpOk.great {w0 w:World} {v:OpV} (h:OpOk w0 v) (hb:Below w0.heap.size w0 w):Calls Tryz.prog 8 #[.agg #[.int .i64 v.kd,.slice v.la v.es.length v.lc,.int .u64 (v.nn:Int),.slice v.sa v.ss.length v.sc,.string ⟨v.nm.toArray⟩,.slice v.ba v.bs.length v.bc]] w fun e w'=>(e= .returned (.bool true)∨e= .returned (.bool false)∧(v.es.length≤30∧v.ss.length≤30∧v.bs.length≤300∧v.nm.length≤60))∧Below w.heap.size w w':=by
 refine(great_any w v.kd v.nn v.la v.lc v.es v.sa v.ss.length v.sc v.nm v.ba v.bs.length v.bc (h.ents.reads.below hb) (fun p hp=>?_) h.le h.lb h.ls h.lz h.ln).mono fun e w' he=>⟨?_,he.2⟩
 ·obtain⟨ba,bc,k1,_⟩:=h.ents.body p hp
  exact⟨ba,bc,k1⟩
 ·rcases he.1 with h1 | ⟨h1,-,h2⟩
  ·exact .inl h1
  ·exact .inr ⟨h1,h2⟩
end Rl
end Go.Proofs.YtalfbcbnljhldaaGreatDoor
