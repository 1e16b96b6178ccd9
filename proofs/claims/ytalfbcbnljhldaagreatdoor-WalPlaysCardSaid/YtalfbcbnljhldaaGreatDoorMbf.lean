/-  -/
import Derived.Test.YtalfbcbnljhldaaGreatDoorRoC
import Derived.Test.YtalfbcbnljhldaaGreatDoorMbd
import Derived.Test.YtalfbcbnljhldaaGreatDoorMbb
namespace Go.Proofs.YtalfbcbnljhldaaGreatDoor
open Go.RowKit Go.Maps Go.Sort Dsk Rd Wl
namespace Rl
structure InM (bs:List Int) (Es:List Ent) (zss:List (List Int)) (good k:Nat) (recs E':List Ent):Prop where
 len:recs.length=k
 ok: ∀e∈recs,e.ok
 ch:chain Es recs=some E'
 le:(flatE recs).length≤bs.length
 sc: ∃g2,Frame.Scans (bs.drop (flatE recs).length) (zss.drop k) g2∧good=(flatE recs).length+g2
 wk: ∃f,walk f bs (flatE recs).length recs E'=walk (bs.length+1) bs 0 [] Es∧bs.length - (flatE recs).length<f
section
variable {bs:List Int} {Es E' E2 recs:List Ent} {zss:List (List Int)} {good k:Nat} {e:Ent}
theorem InM.start (h:Frame.Scans bs zss good):InM bs Es zss good 0 [] Es:=
 ⟨rfl,(fun e he=>by cases he),rfl,Nat.zero_le _,⟨good,by simpa [flatE] using h,by simp [flatE]⟩,⟨bs.length+1,rfl,by simp [flatE]⟩⟩
theorem InM.head (h:InM bs Es zss good k recs E') (hk:k<zss.length): ∃m,Frame.firstOf (bs.drop (flatE recs).length)=some (zss[k],m)∧ ¬bs.length≤(flatE recs).length∧ ∃g3,Frame.Scans ((bs.drop (flatE recs).length).drop m) (zss.drop (k+1)) g3∧good=(flatE recs).length+(m+g3):=by
 obtain⟨g2,h1,h2⟩:=h.sc;rw[List.drop_eq_getElem_cons hk] at h1;generalize hD:bs.drop (flatE recs).length=D at h1 ⊢;cases h1 with
 | more h3 h4=>
  refine⟨_,h3,fun hle=>?_,_,h4,h2⟩;rw[List.drop_of_length_le hle] at hD;subst hD;cases h3
theorem InM.bad (h:InM bs Es zss good k recs E') (hk:k<zss.length) (hp:parseOf zss[k]=none):walk (bs.length+1) bs 0 [] Es=((flatE recs).length,recs,E',false):=by
 obtain⟨m,h1,h2,-⟩:=h.head hk;obtain⟨f,h3,h4⟩:=h.wk;rw[←h3];obtain⟨f',rfl⟩: ∃f',f=f'+1:=⟨f - 1,by omega⟩;exact walk_none _ _ h2 (step1_bad h1 hp)
theorem InM.stop (h:InM bs Es zss good k recs E') (hk:k<zss.length) (hp:parseOf zss[k]=some e) (hf:Wl.follow E' e=none):walk (bs.length+1) bs 0 [] Es=((flatE recs).length,recs,E',false):=by
 obtain⟨m,h1,h2,-⟩:=h.head hk;obtain⟨f,h3,h4⟩:=h.wk;rw[←h3];obtain⟨f',rfl⟩: ∃f',f=f'+1:=⟨f - 1,by omega⟩;exact walk_stop _ h2 (step1_some h1 hp) hf
theorem InM.next (h:InM bs Es zss good k recs E') (hr: ∀x∈bs,0≤x∧x≤255) (hk:k<zss.length) (hp:parseOf zss[k]=some e) (hf:Wl.follow E' e=some E2):InM bs Es zss good (k+1) (recs++ [e]) E2∧Frame.frameOf zss[k]=frm e∧e.ok:=by
 obtain⟨m,h1,h2,g3,h5,h6⟩:=h.head hk;obtain⟨f,h3,h4⟩:=h.wk;have hs:=step1_some h1 hp;have hrd: ∀x∈bs.drop (flatE recs).length,0≤x∧x≤255:=fun x hx=>hr x (List.mem_of_mem_drop hx);obtain⟨a1,a2,a3,a4⟩:=step1_is hrd hs;rw[List.length_drop] at a4;have hz:=Frame.first_is hrd h1;have hl:=frm_len a1;have hfl:(flatE (recs++ [e])).length=(flatE recs).length+m:=by rw[flatE_snoc,List.length_append,a3]
 refine⟨⟨by simp [h.len],fun x hx=>?_,by rw[chain_snoc e h.ch];exact hf,by omega,⟨g3,?_,by omega⟩,⟨f - 1,?_,by omega⟩⟩,?_,a1⟩
 ·rcases List.mem_append.1 hx with hx | hx
  ·exact h.ok x hx
  ·simp at hx;subst hx;exact a1
 ·rw[hfl,←List.drop_drop]
  exact h5
 ·rw[←h3,hfl]
  obtain⟨f',rfl⟩: ∃f',f=f'+1:=⟨f - 1,by omega⟩;rw[walk_more recs h2 hs hf];rfl
 ·rw[←hz.2.2.1,a2]
theorem InM.over (h:InM bs Es zss good zss.length recs E'):good=(flatE recs).length∧walk (bs.length+1) bs 0 [] Es=((flatE recs).length,recs,E',decide (good=bs.length)):=by
 obtain⟨g2,h1,h2⟩:=h.sc;obtain⟨f,h3,h4⟩:=h.wk;have hle:=h.le;rw[List.drop_length] at h1;cases h1 with
 | stop h5=>
  rw[Nat.add_zero] at h2;refine⟨h2,?_⟩;rw[←h3];obtain⟨f',rfl⟩: ∃f',f=f'+1:=⟨f - 1,by omega⟩;by_cases hb:bs.length≤(flatE recs).length
  ·rw[walk_end _ _ hb,decide_eq_true (show good=bs.length by omega)]
  ·rw[walk_none _ _ hb (step1_none h5),decide_eq_false (show¬good=bs.length by omega)]
end
def BodyR (w:World) (B sb:Nat) (v kv:Value) (p:EV):Prop:= ∃ba bc,p.2= .slice ba p.1.body.length bc∧(ba=none→bc=0)∧Reads w ba p.1.body∧ ∀x,ba=some x→p.1.body≠ []→B≤x.block∧x.block<w.heap.size∧x.block≠sb∧v.ownBlock≠some x.block∧kv.ownBlock≠some x.block
structure Inn (w2 w:World) (sb num:Nat) (v:Value) (ps:List EV) (zs:List Int) (kv:Value):Prop where
 bel:Below w2.heap.size w2 w
 box:w.heap[sb]?=some (.cells #[.int .i64 (num:Int),v] 79 (0,0))
 hsb:w2.heap.size≤sb
 row:RowP w w2.heap.size v ps
 fine:Fine ps
 keep:Row w w2.heap.size zs kv
 body: ∀p∈ps,BodyR w w2.heap.size sb v kv p
theorem own_type {w:World} {B size n:Nat} {e:TypeId} {v:Value} {xs:List Value} (h:w.ownsRow B e size v n xs) {k:Nat} (hk:v.ownBlock=some k): ∃cs,w.heap[k]?=some (.cells cs e (0,0)):=by
 rcases h.2 with⟨rfl,_⟩ | ⟨g,cap,cur,rfl,_,hg,_⟩
 ·cases hk
 ·cases hk
  exact⟨cur,hg⟩
section
variable {w2 w w' W:World} {sb num:Nat} {v v' kv kv':Value} {ps:List EV} {zs xs:List Int} {p:EV}
theorem BodyR.below {B:Nat} (b:BodyR w B sb v kv p) (hb:Below w.heap.size w w'):BodyR w' B sb v kv p:=by
 obtain⟨ba,bc,h1,h2,h3,h4⟩:=b;exact⟨ba,bc,h1,h2,h3.below hb,fun x e hn=>⟨(h4 x e hn).1,Nat.lt_of_lt_of_le (h4 x e hn).2.1 hb.size,(h4 x e hn).2.2⟩⟩
theorem Inn.below (t:Inn w2 w sb num v ps zs kv) (hb:Below w.heap.size w w'):Inn w2 w' sb num v ps zs kv where
 bel:=t.bel.trans (hb.mono t.bel.size)
 box:=(hb.block sb (lt_of_block t.box)).trans t.box
 hsb:=t.hsb
 row:=ownsRow_keep t.row fun k e=>hb.block k (World.ownsRow.lt t.row k e).2
 fine:=t.fine
 keep:=t.keep.keep fun k e=>hb.block k (World.ownsRow.lt t.keep k e).2
 body:=fun p hp=>(t.body p hp).below hb
theorem Inn.sbv (t:Inn w2 w sb num v ps zs kv):v.ownBlock≠some sb:=fun e=>by
 obtain⟨cs,h⟩:=own_type t.row e;rw[t.box] at h;simp at h
theorem Inn.sbk (t:Inn w2 w sb num v ps zs kv):kv.ownBlock≠some sb:=fun e=>by
 obtain⟨cs,h⟩:=own_type t.keep e;rw[t.box] at h;simp at h
theorem Inn.vk (t:Inn w2 w sb num v ps zs kv) {k:Nat} (e:v.ownBlock=some k):kv.ownBlock≠some k:=fun e2=>by
 obtain⟨cs,h⟩:=own_type t.keep e2;obtain⟨cs2,h2⟩:=own_type t.row e;rw[h] at h2;simp at h2
theorem Inn.push (t:Inn w2 w sb num v ps zs kv) (hbw:Below w.heap.size w W) (hr:RowP w' w2.heap.size v' (ps++ [p])) (hg:W.grownBy w' v.ownBlock) (hl:v'.ownBlock=v.ownBlock∨v'.ownBlock=some W.heap.size) (hp:BodyR w w2.heap.size sb v kv p) (hf:Fine [p]):
  Inn w2 (w'.setCell ⟨sb,1,none⟩ v') sb num v' (ps++ [p]) zs kv:=by
 have hsbw:=lt_of_block t.box;have blk: ∀k,k<w.heap.size→v.ownBlock≠some k→k≠sb→(w'.setCell ⟨sb,1,none⟩ v').heap[k]?=w.heap[k]?:=fun k hk hn hne=>by
  rw[Below.heap_setCell _ _ _ _ hne,hg.block k (Nat.lt_of_lt_of_le hk hbw.size) (Ne.symm hn),hbw.block k hk]
 have hz:(w'.setCell ⟨sb,1,none⟩ v').heap.size=w'.heap.size:=by simp [World.setCell]
 have hsz:w.heap.size≤w'.heap.size:=Nat.le_trans hbw.size hg.size;have hbox':w'.heap[sb]?=some (.cells #[.int .i64 (num:Int),v] 79 (0,0)):=(hg.block sb (Nat.lt_of_lt_of_le hsbw hbw.size) (Ne.symm t.sbv)).trans ((hbw.block sb hsbw).trans t.box);have hv': ∀k,k<w.heap.size→v.ownBlock≠some k→v'.ownBlock≠some k:=fun k hk hn e=>by
  rcases hl with h | h
  ·exact hn (by rw[←h];exact e)
  ·rw[h] at e
   have e2:W.heap.size=k:=by simpa using e
   have:=hbw.size;omega
 have hbody: ∀q,BodyR w w2.heap.size sb v kv q→BodyR (w'.setCell ⟨sb,1,none⟩ v') w2.heap.size sb v' kv q:=fun q hq=>by
  obtain⟨ba,bc,h1,h2,h3,h4⟩:=hq;refine⟨ba,bc,h1,h2,reads_keep h3 (by omega) fun x e hn=>?_,fun x e hn=>?_⟩
  ·obtain⟨k1,k2,k3,k4,k5⟩:=h4 x e hn
   exact blk _ k2 k4 k3
  ·obtain⟨k1,k2,k3,k4,k5⟩:=h4 x e hn
   exact⟨k1,by omega,k3,hv' _ k2 k4,k5⟩
 refine⟨⟨hg.os.trans (hbw.os.trans t.bel.os),hg.tape.trans (hbw.tape.trans t.bel.tape),hg.output.trans (hbw.output.trans t.bel.output),?_,fun k hk=>?_⟩,?_,t.hsb,?_,t.fine.append hf,?_,fun q hq=>?_⟩
 ·have:=t.bel.size;omega
 ·have h1:k<w.heap.size:=Nat.lt_of_lt_of_le hk t.bel.size
  rw[blk k h1 (fun e=>by have:=(World.ownsRow.lt t.row k e).1;omega) (by have:=t.hsb;omega)];exact t.bel.block k hk
 ·exact cells_set1 hbox'
 ·exact ownsRow_keep hr fun k e=>Below.heap_setCell _ _ _ _ fun e2=>by
   dsimp only at e2;subst e2;exact hv' _ hsbw t.sbv e
 ·exact t.keep.keep fun k e=>blk k (World.ownsRow.lt t.keep k e).2 (fun e2=>t.vk e2 e) fun e2=>t.sbk (e2 ▸ e)
 ·rcases List.mem_append.1 hq with hq | hq
  ·exact hbody q (t.body q hq)
  ·have e:q=p:=by simpa using hq
   rw[e];exact hbody p hp
theorem Inn.add (t:Inn w2 w sb num v ps zs kv) (hr:Row w' w2.heap.size xs kv') (hg:w.grownBy w' kv.ownBlock) (hl:kv'.ownBlock=kv.ownBlock∨kv'.ownBlock=some w.heap.size):Inn w2 w' sb num v ps xs kv':=by
 have hv': ∀k,k<w.heap.size→kv.ownBlock≠some k→kv'.ownBlock≠some k:=fun k hk hn e=>by
  rcases hl with h | h
  ·exact hn (by rw[←h];exact e)
  ·rw[h] at e
   have e2:w.heap.size=k:=by simpa using e
   omega
 refine⟨⟨hg.os.trans t.bel.os,hg.tape.trans t.bel.tape,hg.output.trans t.bel.output,Nat.le_trans t.bel.size hg.size,fun k hk=>?_⟩,?_,t.hsb,?_,t.fine,hr,fun q hq=>?_⟩
 ·have h1:k<w.heap.size:=Nat.lt_of_lt_of_le hk t.bel.size
  rw[hg.block k h1 fun e=>by have:=(World.ownsRow.lt t.keep k e.symm).1;omega];exact t.bel.block k hk
 ·exact(hg.block sb (lt_of_block t.box) (Ne.symm t.sbk)).trans t.box
 ·exact ownsRow_keep t.row fun k e=>hg.block k (World.ownsRow.lt t.row k e).2 (Ne.symm (t.vk e))
 ·obtain⟨ba,bc,h1,h2,h3,h4⟩:=t.body q hq
  refine⟨ba,bc,h1,h2,reads_keep h3 hg.size fun x e hn=>hg.block _ (h4 x e hn).2.1 (Ne.symm (h4 x e hn).2.2.2.2),fun x e hn=>?_⟩;obtain⟨k1,k2,k3,k4,k5⟩:=h4 x e hn;exact⟨k1,Nat.lt_of_lt_of_le k2 hg.size,k3,k4,hv' _ k2 k5⟩
theorem Inn.bodyR (t:Inn w2 w sb num v ps zs kv) {e:Ent} {a:Option Addr} {c:Nat} (h:Body w' w.heap.size e.body (.slice a e.body.length c)):BodyR w' w2.heap.size sb v kv (e,.slice a e.body.length c):=by
 obtain⟨g,c',he,hg,hh,h1,h2⟩:=h;cases he;refine⟨_,_,rfl,fun e=>(by cases e),hh.reads,fun x e _=>?_⟩;cases e;have h3:=lt_of_block t.box;have h4:=t.hsb;refine⟨by dsimp only;omega,hh.lt,by dsimp only;omega,fun e=>?_,fun e=>?_⟩
 ·have:=(World.ownsRow.lt t.row _ e).2;dsimp only at this;omega
 ·have:=(World.ownsRow.lt t.keep _ e).2;dsimp only at this;omega
theorem Inn.segK (t:Inn w2 w sb num v ps zs kv) {K:Nat→Prop} :SegK w (fun k=>K k∨(w2.heap.size≤k∧k<w.heap.size)) ⟨num,v,ps⟩:=by
 obtain⟨a,c,hv,-⟩:=slice_shape t.row;subst hv;obtain⟨⟨g,o,h1,h2⟩,-,h3⟩:=RowP.reads t.row;refine⟨a,c,rfl,⟨g,o,h1,fun j u hu=>⟨.inr ?_,(h2 j u hu).1,(h2 j u hu).2⟩⟩,h3,t.fine,fun p hp=>?_⟩
 ·have hn:ps≠ []:=fun e=>by dsimp only at hu;rw[e] at hu;simp [pcells] at hu
  have e:=h1 hn;subst e;exact World.ownsRow.lt t.row g rfl
 ·obtain⟨ba,bc,k1,k2,k3,k4⟩:=t.body p hp
  exact⟨ba,bc,k1,k2,k3,fun x e hn=> .inr ⟨(k4 x e hn).1,(k4 x e hn).2.1⟩⟩
end
theorem RS.wide {w w2 wx:World} {B n h g:Nat} {S T K S0 T0 K0:Nat→Prop} {M:Files} {L:List SV} (r:RS w2 B n h g S T K M L) (hb:Below w2.heap.size w2 wx) (m:Mv S0 T0 K0 w w2 S T K):
  RS wx B n h g S T (fun k=>K k∨(w2.heap.size≤k∧k<wx.heap.size)) M L∧Mv S0 T0 K0 w wx S T (fun k=>K k∨(w2.heap.size≤k∧k<wx.heap.size)):=by
 have rx:=r.below hb;refine⟨⟨⟨rx.log.th,rx.log.wal,fun s hs=>(rx.log.segs s hs).mono fun k hk=> .inl hk⟩,rx.disk,rx.sS,rx.sT,fun k hk=>?_⟩,m.trans ⟨Rd.Apart.of_below hb,fun _ h=> .inl h,fun _ h=> .inl h,fun _ h=> .inl h,fun k hk=>hk⟩⟩;rcases hk with hk | ⟨h1,h2⟩
 ·exact rx.sK k hk
 ·exact⟨h2,fun hs=>by have:=r.sS k hs;omega,fun ht=>by have:=(r.sT k ht).1;omega⟩
end Rl
end Go.Proofs.YtalfbcbnljhldaaGreatDoor

namespace Go.Proofs.YtalfbcbnljhldaaGreatDoor
open Go.RowKit Go.Maps Go.Sort Dsk Rd Wl
namespace Rl
theorem disk_keep {w w':World} {B gd N:Nat} {o:Tags} {M:Files} (h:DiskAt w B o gd M N) (hz:w.heap.size≤w'.heap.size) (hk: ∀k,o k≠none→w'.heap[k]?=w.heap[k]?):DiskAt w' B o gd M N:=by
 obtain⟨b,D,hd⟩:=h;exact⟨b,D,hd.keep (fun n h=>h) hd.here (fun k t e _=>hk k (by rw[e];simp)) (fun k t e _=>e) fun k e=>⟨(hd.own k e).1,Nat.lt_of_lt_of_le (hd.own k e).2 hz⟩⟩
structure Both (w0:World) (x:Nat) (X:Option Obj) (w:World) (o:Tags) (gd hb g h n N:Nat) (S T K:Nat→Prop) (Mp Mr:Files) (Ls:List SV):Prop where
 bel:Below w0.heap.size w0 w
 live:Live w w0.heap.size o gd Mp N
 wal:WalAt w o hb gd
 rs:RS w w0.heap.size n h g S T K Mr Ls
 lo: ∀k,S k∨T k→w0.heap.size≤k
 sep: ∀k,S k∨T k→o k=none
 hbs: ¬S hb∧ ¬T hb
 kb: ∀k,k<w0.heap.size→K k
 ks: ∀k,K k→o k=none
 anc:K x∧w.heap[x]?=X
section
variable {w0 w w':World} {x:Nat} {X:Option Obj} {o o':Tags} {gd hb hb' g h n n' N N':Nat} {S T K S' T' K':Nat→Prop} {Mp Mp' Mr Mr':Files} {Ls Ls':List SV}
theorem step_live (hl:Live w w0.heap.size o gd Mp N) (hs:Step o w o' w') (hd:DiskAt w' w0.heap.size o' gd Mp' N') (hi:Wl.Inv Mp') (hN:N'≤5000):Live w' w0.heap.size o' gd Mp' N':=hl.step hs hd (Pz.inv_tame hi) hN
theorem stp_below (b:Both w0 x X w o gd hb g h n N S T K Mp Mr Ls) (hs:Step o w o' w'):Below w0.heap.size w w':=hs.below (fun k e=>b.live.disk.owns k e) b.live.hB
theorem Both.prog (b:Both w0 x X w o gd hb g h n N S T K Mp Mr Ls) (hs:Step o w o' w') (hl:Live w' w0.heap.size o' gd Mp' N') (hw:WalAt w' o' hb' gd) (hb2: ¬S hb'∧ ¬T hb'):Both w0 x X w' o' gd hb' g h n N' S T K Mp' Mr Ls:=by
 have hk: ∀k,k<w.heap.size→o k=none→w'.heap[k]?=w.heap[k]?∧o' k=none:=fun k hk e=>⟨hs.block k hk e,hs.free k hk e (by simp [Value.ownBlock])⟩;refine⟨b.bel.trans (stp_below b hs),hl,hw,⟨b.rs.log.keep hs.size (fun k e=>(hk k (b.rs.sT k e).1 (b.sep k (.inr e))).1) fun k e=>(hk k (b.rs.sK k e).1 (b.ks k e)).1,RM.kept b.rs.disk hs.size fun k e=>(hk k (b.rs.sS k e) (b.sep k (.inl e))).1,fun k e=>Nat.lt_of_lt_of_le (b.rs.sS k e) hs.size,fun k e=>⟨Nat.lt_of_lt_of_le (b.rs.sT k e).1 hs.size,(b.rs.sT k e).2⟩,fun k e=>⟨Nat.lt_of_lt_of_le (b.rs.sK k e).1 hs.size,(b.rs.sK k e).2⟩⟩,b.lo,fun k e=>?_,hb2,b.kb,fun k e=>(hk k (b.rs.sK k e).1 (b.ks k e)).2,b.anc.1,(hk x (b.rs.sK x b.anc.1).1 (b.ks x b.anc.1)).1.trans b.anc.2⟩;rcases e with e | e
 ·exact(hk k (b.rs.sS k e) (b.sep k (.inl e))).2
 ·exact(hk k (b.rs.sT k e).1 (b.sep k (.inr e))).2
theorem Both.prog1 (b:Both w0 x X w o gd hb g h n N S T K Mp Mr Ls) (hs:Step o w o' w') (hl:Live w' w0.heap.size o' gd Mp' N'):Both w0 x X w' o' gd hb g h n N' S T K Mp' Mr Ls:=b.prog hs hl (b.wal.step hs) b.hbs
theorem Both.below (b:Both w0 x X w o gd hb g h n N S T K Mp Mr Ls) (hb1:Below w.heap.size w w'):Both w0 x X w' o gd hb g h n N S T K Mp Mr Ls:=
 b.prog (Step.of_below o hb1) (b.live.below hb1) (b.wal.below hb1) b.hbs
theorem Both.ref (b:Both w0 x X w o gd hb g h n N S T K Mp Mr Ls) (r:RS w' w0.heap.size n' h g S' T' K' Mr' Ls') (m:Mv S T K w w' S' T' K'):Both w0 x X w' o gd hb g h n' N S' T' K' Mp Mr' Ls':=by
 have hst: ∀k,k<w.heap.size→ ¬(S k∨T k)→w'.heap[k]?=w.heap[k]?:=fun k hk hn=>m.ap.block k hk hn;have how: ∀k,o k≠none→w'.heap[k]?=w.heap[k]?:=fun k e=>hst k (b.live.disk.owns k e).2 fun hs=>e (b.sep k hs);have hbl:Below w0.heap.size w w':=⟨m.ap.os,m.ap.tape,m.ap.output,m.ap.size,fun k hk=>hst k (Nat.lt_of_lt_of_le hk b.live.hB) fun e=>by have:=b.lo k e;omega⟩;have hnew: ∀k,w.heap.size≤k→o k=none:=fun k hk=>b.live.free hk;refine⟨b.bel.trans hbl,⟨b.live.tabs.below hbl,disk_keep b.live.disk m.ap.size how,Nat.le_trans b.live.hB m.ap.size,b.live.tame,b.live.few⟩,⟨(hst hb (lt_of_block b.wal.1) fun e=>e.elim b.hbs.1 b.hbs.2).trans b.wal.1,b.wal.2⟩,r,fun k e=>?_,fun k e=>?_,⟨fun e=>?_,fun e=>?_⟩,fun k hk=>m.k k (b.kb k hk),fun k e=>?_,m.k x b.anc.1,(hst x (b.rs.sK x b.anc.1).1 fun e=>e.elim (b.rs.sK x b.anc.1).2.1 (b.rs.sK x b.anc.1).2.2).trans b.anc.2⟩
 ·have hB:=b.live.hB
  rcases e with e | e
  ·rcases m.s k e with h1 | ⟨h1,_⟩
   ·exact b.lo k (.inl h1)
   ·omega
  ·rcases m.t k e with h1 | ⟨h1,_⟩
   ·exact b.lo k (.inr h1)
   ·omega
 ·rcases e with e | e
  ·rcases m.s k e with h1 | ⟨h1,_⟩
   ·exact b.sep k (.inl h1)
   ·exact hnew k h1
  ·rcases m.t k e with h1 | ⟨h1,_⟩
   ·exact b.sep k (.inr h1)
   ·exact hnew k h1
 ·rcases m.s hb e with h1 | ⟨h1,_⟩
  ·exact b.hbs.1 h1
  ·have:=lt_of_block b.wal.1;omega
 ·rcases m.t hb e with h1 | ⟨h1,_⟩
  ·exact b.hbs.2 h1
  ·have:=lt_of_block b.wal.1;omega
 ·rcases m.k2 k e with h1 | ⟨h1,_⟩
  ·exact b.ks k h1
  ·exact hnew k h1
theorem Both.refd (b:Both w0 x X w o gd hb g h n N S T K Mp Mr Ls) (ha:Rd.Apart S w w') (hd:RM w' w0.heap.size (Rd.More S w w') g n' Mr'):Both w0 x X w' o gd hb g h n' N (Rd.More S w w') T K Mp Mr' Ls:=by
 obtain⟨r,m⟩:=b.rs.disked ha hd (fun _ h=>h) (RM.lt hd);exact b.ref r m
theorem Both.ropen (b:Both w0 x X w o gd hb g h n N S T K Mp Mr Ls) (r:RS w' w0.heap.size n' w.heap.size g S' T' K' Mr' Ls') (m:Mv S (fun k=>k=w.heap.size) (fun _=>False) (w.alloc (.cells #[.pointer (some ⟨g,0,none⟩),.slice none 0 0] 69)) w' S' T' K'):
  Both w0 x X w' o gd hb g w.heap.size n' N S' T' (fun k=>K' k∨K k) Mp Mr' Ls':=by
 have hz1:(w.alloc (.cells #[.pointer (some ⟨g,0,none⟩),.slice none 0 0] 69)).heap.size=w.heap.size+1:=by simp
 have hal:Below w.heap.size w (w.alloc (.cells #[.pointer (some ⟨g,0,none⟩),.slice none 0 0] 69)):=(Below.refl _ _).alloc (Nat.le_refl _) _;have hst: ∀k,k<w.heap.size→ ¬S k→w'.heap[k]?=w.heap[k]?:=fun k hk hn=>by
  rw[m.ap.block k (by omega) fun e=>e.elim hn fun e2=>by omega,hal.block k hk]
 have hz:w.heap.size≤w'.heap.size:=Nat.le_trans hal.size m.ap.size;have hB:=b.live.hB;have hbl:Below w0.heap.size w w':=⟨m.ap.os.trans hal.os,m.ap.tape.trans hal.tape,m.ap.output.trans hal.output,hz,fun k hk=>hst k (by omega) fun e=>by have:=b.lo k (.inl e);omega⟩;have hnew: ∀k,w.heap.size≤k→o k=none:=fun k hk=>b.live.free hk;have hS: ∀k,S' k→S k∨w.heap.size≤k:=fun k e=>(m.s k e).imp id fun h1=>by omega
 have hT: ∀k,T' k→w.heap.size≤k:=fun k e=>(m.t k e).elim (fun h1=>by omega) fun h1=>by omega
 have hK: ∀k,K' k→w.heap.size≤k:=fun k e=>(m.k2 k e).elim (fun h1=>h1.elim) fun h1=>by omega
 have hbw:=lt_of_block b.wal.1;refine⟨b.bel.trans hbl,⟨b.live.tabs.below hbl,disk_keep b.live.disk hz fun k e=>hst k (b.live.disk.owns k e).2 fun hs=>e (b.sep k (.inl hs)),by omega,b.live.tame,b.live.few⟩,⟨(hst hb hbw b.hbs.1).trans b.wal.1,b.wal.2⟩,⟨⟨r.log.th,r.log.wal,fun s hs=>(r.log.segs s hs).mono fun k hk=> .inl hk⟩,r.disk,r.sS,r.sT,fun k hk=>?_⟩,fun k e=>?_,fun k e=>?_,⟨fun e=>?_,fun e=>by have:=hT hb e;omega⟩,fun k hk=> .inr (b.kb k hk),fun k e=>?_,.inr b.anc.1,(hst x (b.rs.sK x b.anc.1).1 (b.rs.sK x b.anc.1).2.1).trans b.anc.2⟩
 ·rcases hk with hk | hk
  ·exact r.sK k hk
  ·have hkw:=(b.rs.sK k hk).1
   refine⟨by omega,fun e=>?_,fun e=>by have:=hT k e;omega⟩;rcases hS k e with h1 | h1
   ·exact(b.rs.sK k hk).2.1 h1
   ·omega
 ·rcases e with e | e
  ·rcases hS k e with h1 | h1
   ·exact b.lo k (.inl h1)
   ·omega
  ·have:=hT k e;omega
 ·rcases e with e | e
  ·rcases hS k e with h1 | h1
   ·exact b.sep k (.inl h1)
   ·exact hnew k h1
  ·exact hnew k (hT k e)
 ·rcases hS hb e with h1 | h1
  ·exact b.hbs.1 h1
  ·omega
 ·rcases e with e | e
  ·exact hnew k (hK k e)
  ·exact b.ks k e
theorem Both.wide (b:Both w0 x X w o gd hb g h n N S T K Mp Mr Ls) (hb1:Below w.heap.size w w'):Both w0 x X w' o gd hb g h n N S T (fun k=>K k∨(w.heap.size≤k∧k<w'.heap.size)) Mp Mr Ls:=by
 obtain⟨r,m⟩:=b.rs.wide hb1 (Mv.refl S T K w);exact b.ref r m
theorem Both.anchor (b:Both w0 x X w o gd hb g h n N S T K Mp Mr Ls) {y:Nat} (hy:K y):Both w0 y (w.heap[y]?) w o gd hb g h n N S T K Mp Mr Ls:=⟨b.bel,b.live,b.wal,b.rs,b.lo,b.sep,b.hbs,b.kb,b.ks,hy,rfl⟩
end
structure EntsIn (w:World) (a:Option Addr) (c:Nat) (es:List EV):Prop where
 reads:ReadsP w a es
 fine:Fine es
 nil:a=none→es.length=0∧c=0
 body: ∀p∈es,∃ba bc,p.2= .slice ba p.1.body.length bc∧(ba=none→bc=0)∧Reads w ba p.1.body
section
variable {w0 w:World} {x:Nat} {X:Option Obj} {o:Tags} {gd hb g h n N:Nat} {S T K:Nat→Prop} {Mp Mr:Files} {Ls:List SV} {a:Option Addr} {c:Nat} {es:List EV}
theorem reads_block {w:World} {a:Option Addr} {zs:List Int} (h:Reads w a zs): ∀x,a=some x→zs≠ []→x.block<w.heap.size:=fun x e hn=>by
 obtain⟨y,hy,hlt,_⟩:=h.cell 0 (List.length_pos_iff.2 hn);rw[e] at hy;cases hy;exact hlt
theorem EntsIn.segK (t:EntsIn w0 a c es) (b:Both w0 x X w o gd hb g h n N S T K Mp Mr Ls):SegK w K ⟨0,.slice a es.length c,es⟩:=by
 obtain⟨q,p,h1,h2⟩:=t.reads;refine⟨a,c,rfl,⟨q,p,h1,fun j u hu=>⟨b.kb q (h2 j u hu).1,Nat.lt_of_lt_of_le (h2 j u hu).1 b.bel.size,stays' b.bel (h2 j u hu).2⟩⟩,t.nil,t.fine,fun x hx=>?_⟩;obtain⟨ba,bc,k1,k2,k3⟩:=t.body x hx;exact⟨ba,bc,k1,k2,k3.below b.bel,fun y e hn=>b.kb _ (reads_block k3 y e hn)⟩
theorem EntsIn.entsF (t:EntsIn w0 a c es) (b:Both w0 x X w o gd hb g h n N S T K Mp Mr Ls):EntsF w o w0.heap.size a (es.map Prod.fst):=fun i hi=>by
 have hi':i<es.length:=by simpa using hi
 have hno: ∀k,k<w0.heap.size→o k=none:=fun k hk=>by
  cases ho:o k with
  | none=>rfl
  | some t=>have:=(b.live.disk.owns k (by rw[ho];simp)).1;omega
 obtain⟨q,p,h1,h2,h3,h4,h5⟩:=t.reads.at_ hi';obtain⟨ba,bc,k1,k2,k3⟩:=t.body es[i] (List.getElem_mem hi');have he:(es.map Prod.fst)[i]=es[i].1:=by simp
 rw[he];rw[k1] at h5;refine⟨q,p,ba,bc,h1,hno q h2,h2,b.live.hB,stays' b.bel h3,stays' b.bel h4,stays' b.bel h5,⟨k3.below b.bel,fun x e hl=>?_⟩,k2⟩;have:=reads_block k3 x e (List.length_pos_iff.1 hl);exact⟨hno _ this,this⟩
end
end Rl
end Go.Proofs.YtalfbcbnljhldaaGreatDoor

namespace Go.Proofs.YtalfbcbnljhldaaGreatDoor
open Go.RowKit Go.Maps Go.Sort Dsk Rd Wl
namespace Rl
theorem whole_settle {M:Files} {L:List (Nat×List Ent)} {E:List Ent} (h:Whole M L E) (hi:Wl.Inv M) {k:Nat} (hk:1≤k∧k≤99999999):Whole (upd M (nameOf k) (settled (M.at (nameOf k)).now)) L E:=by
 cases ht:(M.at (nameOf k)).now.there with
 | true=>
  refine⟨segList_sync h.segs hk ht,h.ne,h.ok,h.ents,fun j h1 h2 hg=>?_⟩;by_cases hj:j=k
  ·subst hj;rw[Wl.settled_now ht] at hg;cases hg
  ·have hne:nameOf j≠nameOf k:=fun e=>hj (name_inj ⟨h1,h2⟩ hk e)
   rw[upd_at_other _ _ hne] at hg;rw[upd_other _ _ hne];exact h.gone j h1 h2 hg
 | false=>
  have hm:=hi.gone ht;have hu:upd M (nameOf k) (settled (M.at (nameOf k)).now)=M:=by
   funext m
   unfold upd;split
   ·rename_i e
    rw[e,hm];simp [settled,ht]
   ·rfl
  rw[hu];exact h
theorem whole_syncAll: ∀(l:List Nat) {M:Files} {L:List (Nat×List Ent)} {E:List Ent},(∀k∈l,1≤k∧k≤99999999)→Whole M L E→Wl.Inv M→Whole (syncAll M l) L E∧Wl.Inv (syncAll M l)
 | [],_,_,_,_,h,hi=>⟨h,hi⟩
 | k::l,M,L,E,hl,h,hi=>whole_syncAll l (M:=upd M (nameOf k) (settled (M.at (nameOf k)).now)) (fun x hx=>hl x (by simp [hx])) (whole_settle h hi (hl k (by simp))) (hi.settle (by rw[name_len];decide))
theorem chain_len: ∀(l:List Ent) {E E':List Ent},chain E l=some E'→E'.length≤E.length+l.length
 | [],E,E',h=>by cases h;simp
 | e::l,E,E',h=>by
  cases hf:Wl.follow E e with
  | none=>simp [chain,hf] at h
  | some E1=>
   rw[chain_cons l hf] at h;have h1:=chain_len l h;have h2:=follow_len hf;simp;omega
theorem ents_small {M:Files} {Ls:List SV} {E:List Ent} (h:Whole M (logOf Ls) E) (hi:Wl.Inv M):E.length≤142208:=by
 have h1:=h.ents;rw[logOf_flat] at h1;have h2:=chain_len _ h1;rw[List.length_map] at h2;have:=(whole_small h hi).2.2;simp at h2;omega
theorem top_le (ix:Nat): ∀(l:List Ent) (a:Nat),l.foldl (fun a e=>max a e.ix) a≤ix↔a≤ix∧ ∀e∈l,e.ix≤ix
 | [],a=>by simp
 | e::l,a=>by
  rw[List.foldl_cons,top_le ix l];simp only[List.mem_cons,forall_eq_or_imp,Nat.max_le,and_assoc]
theorem old_same (ix:Nat): ∀(Ls:List SV),oldN ix ((logOf Ls).map sgOf)=oldR ix Ls
 | []=>rfl
 | s::r=>by
  have ih:=old_same ix r;have h1:(logOf (s::r)).map sgOf=sgOf (s.n,s.l.map Prod.fst)::(logOf r).map sgOf:=rfl;rw[h1,oldN,oldR,ih];have h2:((logOf r).map sgOf= [])↔r= []:=by simp [logOf]
  have h3:top (sgOf (s.n,s.l.map Prod.fst)).recs≤ix↔ ∀p∈s.l,p.1.ix≤ix:=by
   unfold top sgOf;rw[top_le];simp
  by_cases hr:r= []
  ·rw[if_pos (h2.2 hr),if_pos hr]
  ·rw[if_neg (fun e=>hr (h2.1 e)),if_neg hr]
   by_cases ht: ∀p∈s.l,p.1.ix≤ix
   ·rw[if_pos (h3.2 ht),if_pos ht]
   ·rw[if_neg (fun e=>ht (h3.1 e)),if_neg ht]
theorem drop_same: ∀(k:Nat) (Ls:List SV) (M:Files),dropAll M (((logOf Ls).map sgOf).take k)=dropN M (Ls.take k)
 | 0,_,_=>rfl
 | _+1,[],_=>rfl
 | k+1,s::r,M=>drop_same k r (upd M (nameOf s.n) none)
theorem whole_drop: ∀(k:Nat) (Ls:List SV) {M:Files} {E:List Ent},k≤Ls.length→Whole M (logOf Ls) E→Wl.Inv M→(∃E',Whole (dropN M (Ls.take k)) (logOf (Ls.drop k)) E')∧Wl.Inv (dropN M (Ls.take k))
 | 0,Ls,M,E,_,h,hi=>⟨⟨E,h⟩,hi⟩
 | k+1,[],M,E,hk,h,hi=>by simp at hk
 | k+1,s::r,M,E,hk,h,hi=>by
  obtain⟨E',h1⟩:=Wl.Whole.drop (x:=(s.n,s.l.map Prod.fst)) (L:=logOf r) h;exact whole_drop k r (M:=upd M (nameOf s.n) none) (by simpa using hk) h1 (hi.upd (fun f hf=>by cases hf) fun e=>by cases e)
theorem oldR_le (ix:Nat) (Ls:List SV):oldR ix Ls≤Ls.length:=by
 rw[←old_same];have:=oldN_le ix ((logOf Ls).map sgOf);simpa [logOf] using this
theorem segs_in {M:Files} {Ls:List SV} {E:List Ent} (h:Whole M (logOf Ls) E):SegsIn M Ls:=by
 refine⟨?_,fun s hs=>?_,fun s hs=>?_⟩
 ·have h1:=h.segs.1
  unfold logOf at h1;rw[List.map_map,List.pairwise_map] at h1;exact h1
 ·exact((h.segs.2 s.n (flatE (s.l.map Prod.fst))).1 (List.mem_map.2 ⟨(s.n,s.l.map Prod.fst),List.mem_map.2 ⟨s,hs,rfl⟩,rfl⟩)).1
 ·exact((h.segs.2 s.n (flatE (s.l.map Prod.fst))).1 (List.mem_map.2 ⟨(s.n,s.l.map Prod.fst),List.mem_map.2 ⟨s,hs,rfl⟩,rfl⟩)).2.1
theorem torn_mem (f:Fil) (p:Nat): ∃v,(v=f.sure∨v∈f.later)∧(f.torn p).there=v.there∧(f.torn p).bs.length≤v.bs.length:=by
 refine⟨(tornGo p f.sure f.later).2,tornGo_mem _ _ _,rfl,?_⟩;unfold Fil.torn tornOf;dsimp only;rw[List.length_take];omega
theorem inv_crashed {M:Files} (hi:Wl.Inv M) (ks:List Name) (stay:Nat→Nat) (hk:NamesOf M (fun f=>f.loose) ks):Wl.Inv (crashed M ks stay):=by
 have hks: ∀n,n∈ks→ ∃f,M n=some f:=fun n hn=>by
  obtain⟨f,hf,_⟩:=(hk.2 n).1 hn;exact⟨f,hf⟩
 refine⟨fun n f hf=>?_,?_⟩
 ·unfold crashed at hf
  split at hf
  ·rename_i hn
   obtain⟨q,hq⟩:=hks n hn;rw[at_of hq] at hf;have hqo:=hi.file n q hq;obtain⟨v,hv,-,hl⟩:=torn_mem q (stay (ks.idxOf n));have hvs:v.bs.length≤20000:=by
    rcases hv with rfl | hv
    ·exact hqo.sure
    ·exact hqo.size v hv
   have hto:=Fil.torn_ok hqo.ok (stay (ks.idxOf n));unfold settled at hf;split at hf
   ·rename_i ht
    cases hf;exact⟨⟨⟨Nat.le_refl _,by dsimp only;omega,hto.2⟩,fun v hv=>by cases hv⟩,ht,by simp,by dsimp only;omega,(fun v hv=>by cases hv),hqo.name⟩
   ·cases hf
  ·exact hi.file n f hf
 ·obtain⟨ks0,h1,h2⟩:=hi.fin
  obtain⟨ks',h3,h4⟩:=names_sub (M':=crashed M ks stay) h1 fun n hn=>by
   obtain⟨f,hf,_⟩:=at_some hn;unfold crashed at hf;split at hf
   ·rename_i hn2
    obtain⟨q,hq⟩:=hks n hn2;rw[at_of hq];exact(hi.file n q hq).there
   ·rw[at_of hf]
    exact(hi.file n f hf).there
  exact⟨ks',h3,by omega⟩
theorem laid_eq (M:Files) (nm:Name) (bs:List Int):upd (upd M nm (some ((M.at nm).chg ⟨true,bs,bs.length⟩))) nm (settled ((upd M nm (some ((M.at nm).chg ⟨true,bs,bs.length⟩))).at nm).now)=upd M nm (some ⟨⟨true,bs,bs.length⟩,[],false⟩):=by
 rw[upd_at,chg_now',upd_upd];rfl
theorem inv_laid {M:Files} (hi:Wl.Inv M) {nm:Name} (hn:nm.length≤64) {bs:List Int} (hl:bs.length≤300) (hr: ∀x∈bs,0≤x∧x≤255) (hroom:Room M nm):Wl.Inv (upd M nm (some ⟨⟨true,bs,bs.length⟩,[],false⟩)):=by
 refine hi.upd (fun f hf=>?_) fun _=>hroom;cases hf;exact⟨⟨⟨Nat.le_refl _,by dsimp only;omega,hr⟩,fun v hv=>by cases hv⟩,rfl,by simp,by dsimp only;omega,(fun v hv=>by cases hv),hn⟩
end Rl
end Go.Proofs.YtalfbcbnljhldaaGreatDoor
