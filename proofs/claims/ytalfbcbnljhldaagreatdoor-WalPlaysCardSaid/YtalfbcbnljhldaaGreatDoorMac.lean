/-  -/
import Derived.Test.YtalfbcbnljhldaaGreatDoorMaa
import Derived.Test.YtalfbcbnljhldaaGreatDoorMab
import Derived.Lib.LaidTab
import Derived.Lib.Hide
import Derived.BigQuiet
import Derived.Deep.QuietTactic
import Derived.Lib.AppendIntMem
import Derived.RegionTactic
import Derived.BigRegion
import Derived.Test.YtalfbcbnljhldaaGreatDoorCards
import Derived.Test.YtalfbcbnljhldaaGreatDoorTie
import Derived.LaidLaws
import Derived.Stop.LaidErr
import Derived.Shelf.Vars
import Derived.LaidSub
import Derived.Lib.LaidIn
import Derived.Deep.DeepHandedRow
import Derived.Deep.DeepWitnessRowRef
import Derived.ProofKit
import Derived.WalkKit
import Derived.OpenShut
import Derived.Lib.SmallJoins
import Derived.SevenTiedAt
import Derived.Maps.OwnSet
import Derived.Maps.RangeWalk
import Derived.Maps.AppendAt
namespace Go.Proofs.YtalfbcbnljhldaaGreatDoor
open Go.RowKit Dsk Wl
theorem lt_of_cell {w:World} {a:Addr} {v:Value} (hc:w.cell? a=some v):a.block<w.heap.size:=by
 rcases Nat.lt_or_ge a.block w.heap.size with h' | h'
 ·exact h'
 ·simp [World.cell?,Array.getElem?_eq_none h'] at hc
theorem gPow:Tryz.prog.globalNamed "internal/strconv.uint64pow10" =some 2:=by kernel_rfl
structure Tabs (B:Nat) (w:World):Prop where
 lo:3≤B
 syn: ∃a,w.cell? ⟨0,0,none⟩=some (.iface 222 (.pointer (some a)))
 pow:Lib.TabIs Tryz.prog w "internal/strconv.uint64pow10" .u64 Lib.pow10Tab
theorem Tabs.below {B:Nat} {w w':World} (h:Tabs B w) (hb:Below B w w'):Tabs B w' where
 lo:=h.lo
 syn:=by
  obtain⟨a,ha⟩:=h.syn;exact⟨a,(hb.cell (show(⟨0,0,none⟩:Addr).block<B from Nat.lt_of_lt_of_le (by decide) h.lo)).trans ha⟩
 pow:=by
  have hp:=h.pow;unfold Lib.TabIs World.var? at*;rw[gPow] at*;simp only[Option.bind_some] at*;rw[hb.block 2 (Nat.lt_of_lt_of_le (by decide) h.lo)];exact hp
theorem str_append (a b:List UInt8):(⟨a.toArray⟩:ByteArray)++⟨b.toArray⟩=⟨(a++b).toArray⟩:=by
 have h:((⟨a.toArray⟩:ByteArray)++⟨b.toArray⟩).data=a.toArray++b.toArray:=ByteArray.data_append;generalize (⟨a.toArray⟩:ByteArray)++⟨b.toArray⟩=x at h;cases x;simp only[] at h;subst h;simp
theorem str_size (l:List UInt8):(⟨l.toArray⟩:ByteArray).size=l.length:=by show l.toArray.size=_;simp
theorem dot_prefix (n:Name):Lib.hasPrefix n dot=decide (n.take 4=dot):=by
 unfold Lib.hasPrefix;rw[Bool.eq_iff_iff,decide_eq_true_eq,List.isPrefixOf_iff_prefix,List.prefix_iff_eq_take];exact⟨fun h=>h.symm,fun h=>h.symm⟩
set_option maxRecDepth 100000 in
set_option maxHeartbeats 1000000 in
theorem number_yes (n:Name) (k:Nat) (w:World) (h:numOf n=some k):
  Calls Tryz.prog 73 #[.string ⟨n.toArray⟩] w fun e w'=>e= .returned (.tuple #[.int .i64 (k:Int),.nilIface])∧Below w.heap.size w w':=by
 obtain⟨rfl,hk1,hk2⟩:=name_num h;have hcut:=Tryz.strings_CutPrefix ⟨(nameOf k).toArray⟩ ⟨#[108,111,103,46]⟩ w;have hpar:=fun W=>Tryz.strconv_ParseUint_10_at32_ok ⟨(digs 8 k).toArray⟩ (by rw[str_size,digs_len];decide) k (by
  show Lib.parseUintB 32 (digs 8 k)=_;have hne:digs 8 k≠ []:=fun e=>by have:=digs_len 8 k;rw[e] at this;cases this
  rw[Lib.parseUintB,if_neg hne];have h1:=parse_digits (digs 8 k) 0 (digs_all 8 k) (by rw[digs_len];decide);rw[show(2 ^ 32 - 1:Nat)=4294967295 from rfl,h1];show Lib.NumEnd.ok (Wl.valOf (digs 8 k))=_;rw[val_digs 8 k (by omega)]) W
 have e1:Lib.hasPrefix (nameOf k) dot=true:=by rw[dot_prefix];rfl
 have e2:Lib.trimPrefix (nameOf k) dot=digs 8 k:=by unfold Lib.trimPrefix;rw[e1];rfl
 change Calls _ _ _ _ (fun e w'=>e= .returned (.tuple #[.string ⟨(Lib.trimPrefix (nameOf k) dot).toArray⟩,.bool (Lib.hasPrefix (nameOf k) dot)])∧w'=w) at hcut;rw[e1,e2] at hcut;have hsz:(⟨(digs 8 k).toArray⟩:ByteArray).size=8:=by rw[str_size,digs_len]
 have hk0:decide ((k:Int)=0)=false:=by simp;omega
 generalize (⟨(digs 8 k).toArray⟩:ByteArray)=S at*;generalize nameOf k=n at*;have HC:=Lib.hid hcut;have HP:=Lib.hid hpar;clear hcut hpar e1 e2 h;go_enter Tryz.func73,Tryz.ntmps73
 go_wp2_with fail
 refine HC.out.mono ?_;rintro e w1 ⟨rfl,rfl⟩;go_wp2_with fail
 refine(HP.out _).mono ?_;rintro e w2 ⟨rfl,hw⟩;go_wp2
 go_ret2
 refine⟨rfl,?_⟩;rcases hw with rfl | rfl
 ·exact Below.refl _ _
 ·exact Lib.bytesWorld_below _ _ _
theorem many_drew (w:World) (n:Nat):Below w.heap.size w (w.drewN n):=⟨rfl,rfl,rfl,Nat.le_refl _,fun _ _=>rfl⟩
theorem all_false {l:List UInt8} (h: ¬l.all isDig=true):l.all isDig=false:=by simpa using h
set_option maxRecDepth 100000 in
set_option maxHeartbeats 1000000 in
theorem number_other (n:Name) (a:Addr) (b:Bool) (S:ByteArray) (w:World) (hc:w.cell? ⟨0,0,none⟩=some (.iface 222 (.pointer (some a))))
  (hcut:Hid (Calls Tryz.prog 92 #[.string ⟨n.toArray⟩,.string ⟨#[108,111,103,46]⟩] w fun e w'=>e= .returned (.tuple #[.string S,.bool b])∧w'=w)) (h:b=false∨((S.size:Int) == 8)=false):
  Calls Tryz.prog 73 #[.string ⟨n.toArray⟩] w fun e w'=>e= .returned (.tuple #[.int .i64 0,.iface 222 (.pointer (some a))])∧Below w.heap.size w w':=by
 cases b
 ·clear h
  go_enter Tryz.func73,Tryz.ntmps73
  go_wp2_with fail
  refine hcut.out.mono ?_;rintro e w1 ⟨rfl,rfl⟩;go_wp2
  go_quiet (fail)
  go_wp2
  go_ret2
  exact⟨rfl,many_drew _ _⟩
 ·have h8:((S.size:Int) == 8)=false:=by simpa using h
  clear h;go_enter Tryz.func73,Tryz.ntmps73
  go_wp2_with fail
  refine hcut.out.mono ?_;rintro e w1 ⟨rfl,rfl⟩;go_wp2
  go_quiet (fail)
  go_wp2
  go_ret2
  exact⟨rfl,many_drew _ _⟩
set_option maxRecDepth 100000 in
set_option maxHeartbeats 1000000 in
theorem number_zero (n:Name) (a:Addr) (S:ByteArray) (w:World) (hc:w.cell? ⟨0,0,none⟩=some (.iface 222 (.pointer (some a))))
  (hcut:Hid (Calls Tryz.prog 92 #[.string ⟨n.toArray⟩,.string ⟨#[108,111,103,46]⟩] w fun e w'=>e= .returned (.tuple #[.string S,.bool true])∧w'=w)) (h8:S.size=8)
  (hpar:Hid (Calls Tryz.prog 93 #[.string S,.int .i64 10,.int .i64 32] w fun e w'=>(∃x,e= .returned (.tuple #[.int .u64 0,x]))∧Below w.heap.size w w')):
  Calls Tryz.prog 73 #[.string ⟨n.toArray⟩] w fun e w'=>e= .returned (.tuple #[.int .i64 0,.iface 222 (.pointer (some a))])∧Below w.heap.size w w':=by
 go_enter Tryz.func73,Tryz.ntmps73
 go_wp2_with fail
 refine hcut.out.mono ?_;rintro e w1 ⟨rfl,rfl⟩;go_wp2_with fail
 refine hpar.out.mono ?_;rintro e w2 ⟨⟨x,rfl⟩,hb⟩;have hc2:=(hb.cell (lt_of_cell hc)).trans hc;go_wp2
 go_quiet (fail)
 go_wp2
 go_ret2
 exact⟨rfl,hb.trans ((many_drew _ _).mono hb.size)⟩
theorem number_no (n:Name) (a:Addr) (w:World) (hl:n.length≤100) (h:numOf n=none) (hc:w.cell? ⟨0,0,none⟩=some (.iface 222 (.pointer (some a)))):
  Calls Tryz.prog 73 #[.string ⟨n.toArray⟩] w fun e w'=>e= .returned (.tuple #[.int .i64 0,.iface 222 (.pointer (some a))])∧Below w.heap.size w w':=by
 have hcut:=Tryz.strings_CutPrefix ⟨n.toArray⟩ ⟨#[108,111,103,46]⟩ w;change Calls _ _ _ _ (fun e w'=>e= .returned (.tuple #[.string ⟨(Lib.trimPrefix n dot).toArray⟩,.bool (Lib.hasPrefix n dot)])∧w'=w) at hcut;by_cases h4:n.take 4=dot
 ·have e1:Lib.hasPrefix n dot=true:=by rw[dot_prefix,h4];rfl
  have e2:Lib.trimPrefix n dot=n.drop 4:=by unfold Lib.trimPrefix;rw[e1];rfl
  rw[e1,e2] at hcut;by_cases h12:n.length=12
  ·refine number_zero n a _ w hc (Lib.hid hcut) (by rw[str_size,List.length_drop];omega) (Lib.hid ?_)
   have hne:n.drop 4≠ []:=fun e=>by have:=congrArg List.length e;rw[List.length_drop] at this;simp at this;omega
   have h32: ∀r,Lib.parseUintB 32 (n.drop 4)=r↔Lib.parseUintM 4294967295 0 (n.drop 4)=r:=fun r=>by rw[Lib.parseUintB,if_neg hne]
   by_cases hd:(n.drop 4).all isDig=true
   ·have hv:Wl.valOf (n.drop 4)=0:=by
     by_cases hv:Wl.valOf (n.drop 4)=0
     ·exact hv
     ·unfold numOf at h
      rw[if_pos ⟨h4,h12,hd,hv⟩] at h;cases h
    have hp:=parse_digits (n.drop 4) 0 hd (by rw[List.length_drop,h12];decide);rw[show valGo 0 (n.drop 4)=0 from hv] at hp;refine(Tryz.strconv_ParseUint_10_at32_ok ⟨(n.drop 4).toArray⟩ (by rw[str_size,List.length_drop];omega) 0 ((h32 _).2 hp) w).mono ?_;rintro e w' ⟨rfl,hw⟩;refine⟨⟨_,rfl⟩,?_⟩;rcases hw with rfl | rfl
    ·exact Below.refl _ _
    ·exact Lib.bytesWorld_below _ _ _
   ·obtain⟨p1,p2⟩:=parse_other (n.drop 4) 0 (all_false hd) (by rw[List.length_drop,h12];decide)
    refine(Tryz.strconv_ParseUint_10_at32_bad ⟨(n.drop 4).toArray⟩ (by rw[str_size,List.length_drop];omega) (fun m hm=>p1 m ((h32 _).1 hm)) (fun hm=>p2 ((h32 _).1 hm)) _ w hc (.inr ⟨_,_,rfl⟩)).mono ?_;rintro e w' ⟨N,rfl,_,_,hb⟩;exact⟨⟨_,rfl⟩,hb⟩
  ·refine number_other n a _ _ w hc (Lib.hid hcut) (.inr ?_)
   rw[str_size,List.length_drop];have hle:4≤n.length:=by
    have:=congrArg List.length h4;rw[List.length_take] at this;simp [dot] at this;omega
   rw[beq_eq_false_iff_ne];omega
 ·have e1:Lib.hasPrefix n dot=false:=by rw[dot_prefix];exact decide_eq_false h4
  rw[e1] at hcut;exact number_other n a _ _ w hc (Lib.hid hcut) (.inl rfl)
theorem repeat_zero: ∀c:Nat,Lib.repeatL [48] c=List.replicate c 48
 | 0=>rfl
 | c+1=>by
  rw[List.replicate_succ,←repeat_zero c];rfl
theorem digs_zero: ∀w:Nat,digs w 0=List.replicate w 48
 | 0=>rfl
 | w+1=>by
  rw[digs,show 0 / 10=0 from rfl,digs_zero w,List.replicate_succ'];rfl
theorem digs_dec (w:Nat): ∀n:Nat,n<10 ^ (w+1)→digs (w+1) n=List.replicate (w+1 - (Lib.decDigits n).length) 48++Lib.decDigits n∧(Lib.decDigits n).length≤w+1∧1≤(Lib.decDigits n).length:=by
 induction w with
 | zero=>
  intro n h;have h:n<10:=by simpa using h
  rw[Lib.decDigits_one h];simp [digs,Nat.mod_eq_of_lt h]
 | succ w ih=>
  intro n h;by_cases h10:n<10
  ·rw[Lib.decDigits_one h10,digs,Nat.div_eq_of_lt h10,digs_zero,Nat.mod_eq_of_lt h10]
   refine⟨?_,by simp,by simp⟩;simp
  ·have h1:n / 10<10 ^ (w+1):=by
    rw[Nat.pow_succ 10 (w+1)] at h;exact Nat.div_lt_of_lt_mul (by rw[Nat.mul_comm];exact h)
   obtain⟨i1,i2,i3⟩:=ih (n / 10) h1;rw[Lib.decDigits,dif_neg h10,digs,i1];refine⟨?_,by simp;omega,by simp⟩;rw[List.append_assoc,List.length_append];congr 2
   simp
set_option maxRecDepth 100000 in
set_option maxHeartbeats 1000000 in
theorem name_any (B k:Nat) (x y z u:Value) (w:World) (hk:k≤99999999) (ht:Tabs B w) (hB:B≤w.heap.size):
  Calls Tryz.prog 44 #[.agg #[.int .i64 (k:Int),x,y,z,u]] w fun e w'=>e= .returned (.string ⟨(nameOf k).toArray⟩)∧Below w.heap.size w w':=by
 obtain⟨d1,d2,d3⟩:=digs_dec 7 k (by omega);obtain⟨D,hD⟩: ∃D,D=Lib.decDigits k:=⟨_,rfl⟩;rw[←hD] at d1 d2 d3;have hit: ∀W:World,Below B w W→Calls Tryz.prog 77 #[.int .i64 (k:Int)] W fun e w'=>e= .returned (.string ⟨D.toArray⟩)∧Below W.heap.size W w':=fun W hb=>by
  refine(Tryz.strconv_Itoa k (by omega) (by omega) W (ht.below hb).pow).mono ?_;rintro e w' ⟨rfl,n,os,rfl⟩;rw[Lib.itoa_nonneg,←hD];exact⟨rfl,Lib.below_grow _ W (Nat.le_refl _) n os⟩
 have hrep: ∀W:World,Calls Tryz.prog 78 #[.string ⟨#[48]⟩,.int .i64 (8 - (D.length:Int))] W fun e w'=>e= .returned (.string ⟨(List.replicate (8 - D.length) 48).toArray⟩)∧Below W.heap.size W w':=fun W=>by
  have h:=Tryz.strings_Repeat ⟨#[48]⟩ (8 - D.length) W (by omega) (by
   rw[show(⟨#[48]⟩:ByteArray).size=1 from rfl];omega)
  rw[show(8 - (D.length:Int))=((8 - D.length:Nat):Int) by omega,←repeat_zero];exact h
 have hsz:(⟨D.toArray⟩:ByteArray).size=D.length:=str_size D;have hsz2:(⟨(List.replicate (8 - D.length) (48:UInt8)).toArray⟩:ByteArray).size=8 - D.length:=by rw[str_size,List.length_replicate]
 have HN:Hid ((⟨#[108,111,103,46]⟩:ByteArray)++⟨Array.replicate (8 - D.length) 48⟩++⟨D.toArray⟩=⟨(nameOf k).toArray⟩):=by
  have h1:(⟨#[108,111,103,46]⟩:ByteArray)++⟨(List.replicate (8 - D.length) (48:UInt8)).toArray⟩=⟨(dot++List.replicate (8 - D.length) (48:UInt8)).toArray⟩:=str_append dot _;rw[List.toArray_replicate] at h1;refine Lib.hid ?_;rw[h1,str_append,nameOf,d1,List.append_assoc]
 have HI:=Lib.hid hit;have HR:=Lib.hid hrep;have hw1:Below w.heap.size w (w.alloc (.cells #[.int .i64 (k:Int),x,y,z,u] 63)):=(Below.refl _ _).alloc (Nat.le_refl _) _;have HT:=Lib.hid (hw1.mono hB);clear hit hrep hD d1;go_enter Tryz.func44,Tryz.ntmps44
 go_wp2_with fail
 refine(HI.out _ HT.out).mono ?_;rintro e w2 ⟨rfl,hb2⟩;go_wp2_with fail
 refine(HR.out _).mono ?_;rintro e w3 ⟨rfl,hb3⟩;go_wp2
 go_ret
 have hs2:=hb2.size;have hs0:w.heap.size≤w2.heap.size:=Nat.le_trans (by simp) hs2;exact⟨congrArg (fun z=>Ending.returned (Value.string z)) HN.out,((Below.refl _ _).alloc (Nat.le_refl _) _).trans ((hb2.mono (by simp)).trans (hb3.mono hs0))⟩
end Go.Proofs.YtalfbcbnljhldaaGreatDoor

namespace Go.Proofs.YtalfbcbnljhldaaGreatDoor
open Go.ChangeShapes Go.WideShapes Go.RowKit Go.Lib
def laidAll:List (String×DataW Unit):= [("math/bits.deBruijn32tab",Rows.laid_math_bits_deBruijn32tab),("math/bits.deBruijn64tab",Rows.laid_math_bits_deBruijn64tab),("internal/strconv.uint64pow10",Rows.laid_internal_strconv_uint64pow10),("strconv.ErrRange",Rows.laid_strconv_ErrRange),("strconv.ErrSyntax",Rows.laid_strconv_ErrSyntax)]
theorem starE: "*" ++ "errors.errorString" = "*errors.errorString" :=by decide
theorem rowE (u:TypeId) (h:Tryz.prog.typeName? 3 u=some "*errors.errorString"):u=222:=
 typeName_ptr_named (nm:= "errors.errorString") (by rw[starE];kernel_rfl) (by kernel_rfl) (by decide) u (by rw[starE];exact h)
theorem tabs_met {W:World} (h0:laidMetH Tryz.prog laidAll W):Tabs 3 W∧3≤W.heap.size:=by
 have h:laidMet Tryz.prog laidAll W:=h0;have h1:=h0.filter (fun x=>x.1 == "internal/strconv.uint64pow10");rw[show laidAll.filter (fun x=>x.1 == "internal/strconv.uint64pow10")= [("internal/strconv.uint64pow10",Rows.laid_internal_strconv_uint64pow10)] by kernel_rfl] at h1;have ht:Lib.TabIs Tryz.prog W "internal/strconv.uint64pow10" .u64 Lib.pow10Tab:=Lib.tabIs_of_head (rest:= []) (show Tryz.prog.globalNamed "internal/strconv.uint64pow10" =some 2 by kernel_rfl) (show(Tryz.prog.globals[2]?).map (·.type)=some 219 by kernel_rfl) Tryz.underlying219 Tryz.underlying37 (by kernel_rfl) (show Tryz.prog.cellsOf 219=20 by kernel_rfl) h1;have hc:=ht.cell (show Tryz.prog.globalNamed "internal/strconv.uint64pow10" =some 2 by kernel_rfl) 0 (by decide);have hlt:2<W.heap.size:=lt_of_cell hc;have h2:=h0.filter (fun x=>x.1 == "strconv.ErrSyntax");rw[show laidAll.filter (fun x=>x.1 == "strconv.ErrSyntax")= [("strconv.ErrSyntax",Rows.laid_strconv_ErrSyntax)] by kernel_rfl] at h2;have gE:Tryz.prog.globalNamed "strconv.ErrSyntax" =some 0:=by kernel_rfl
 obtain⟨a1,s1,hv1,-,-,-⟩:=laid_sentinel h2 gE (show(Tryz.prog.globals[0]?).map (·.type)=some 126 by kernel_rfl) Tryz.underlying126 rowE Tryz.underlying222 Tryz.underlying224 rfl rfl Tryz.underlying9 (by kernel_rfl) (by kernel_rfl);exact⟨⟨Nat.le_refl _,⟨a1,by simpa using World.var?_cell gE hv1 0⟩,ht⟩,hlt⟩
theorem ownLaid:ownKnob Tryz.prog.godebug=none:=by kernel_rfl
def flat0 (d:DataW Unit):List Value:=
 match d with
 | .lit (.int k z)=> [.int k z]
 | .lit (.string s)=> [.string ⟨s.toArray⟩]
 | _=> []
def flat1 (d:DataW Unit):List Value:=
 match d with
 | .agg l=>l.flatMap flat0
 | d=>flat0 d
def flat2 (d:DataW Unit):Array Value:=
 match d with
 | .agg l=>(l.flatMap flat1).toArray
 | .slice l _=>(l.flatMap flat1).toArray
 | _=> #[]
def errText (d:DataW Unit):Array Value:=
 match d with
 | .iface _ (.ptr d)=>(flat1 d).toArray
 | _=> #[]
def putC (h:Array Obj) (g:Nat) (cs:Array Value):Array Obj:=h.modify g fun
 | .cells _ t frozen=> .cells cs t frozen
 | o=>o
noncomputable def laidWorld (os:Os):World:=
 let N:=(World.settled Tryz.prog os).heap.size
 let w0:=World.holding Tryz.prog os ⟨#[.cells (errText Rows.laid_strconv_ErrSyntax) 224,.cells (errText Rows.laid_strconv_ErrRange) 224], #[],[]⟩
 let h0:=putC w0.heap 5 (flat2 Rows.laid_math_bits_deBruijn64tab)
 let h1:=putC h0 0 #[.iface 222 (.pointer (some ⟨N,0,none⟩))]
 let h2:=putC h1 1 #[.iface 222 (.pointer (some ⟨N+1,0,none⟩))]
 let h3:=putC h2 2 (flat2 Rows.laid_internal_strconv_uint64pow10)
 let h4:=putC h3 4 (flat2 Rows.laid_math_bits_deBruijn32tab)
 {w0 with heap:=h4}
noncomputable abbrev N0:Nat:=(World.settled Tryz.prog default).heap.size
section
variable (os:Os) (args:Array Value)
theorem piece1:LaidIn Tryz.prog ((laidWorld os).forCall (fun _ _=>0) ⟨#[],args,[]⟩).memory laidAll [4,5,2,1,N0+1,0,N0]:=
 LaidIn.of_run _ 8 (by kernel_rfl) (by kernel_rfl) (by kernel_rfl) (by kernel_rfl)
theorem laid_met:laidMet Tryz.prog laidAll ((laidWorld os).forCall (fun _ _=>0) ⟨#[],args,[]⟩).memory:=(piece1 os args).met
theorem world_ok:((laidWorld os).forCall (fun _ _=>0) ⟨#[],args,[]⟩).variablesRefB Tryz.prog=true:=by kernel_rfl
end
end Go.Proofs.YtalfbcbnljhldaaGreatDoor

namespace Go.Proofs.YtalfbcbnljhldaaGreatDoor
open Go.RowKit Go.Maps Dsk
open Go.MapKept Go.ChangeMaps
theorem nameLaw:Keyed Tryz.prog 9:=string_keyed Tryz.underlying9
structure FV where
 t:Bool
 sa:Option Addr
 sn:Nat
 sc:Nat
 wh:Int
 la:Option Addr
 ln:Nat
 lc:Nat
 ls:Bool
abbrev FV.sb (c:FV):Value:= .slice c.sa c.sn c.sc
abbrev FV.lt (c:FV):Value:= .slice c.la c.ln c.lc
def mkV (c:FV):Value:= .agg #[.bool c.t,.slice c.sa c.sn c.sc,.int .i64 c.wh,.slice c.la c.ln c.lc,.bool c.ls]
def FV.zero:FV:=⟨false,none,0,0,0,none,0,0,false⟩
def fileElem (v:Value):Option (DataW Value×List MemPlace):=
 match v with
 | .agg cs=>match cs.toList with
  | [.bool _,.slice _ _ _,.int .i64 _,.slice _ _ _,.bool _]=>some (.held v,[])
  | _=>none
 | _=>none
theorem fileElem_mk (c:FV):fileElem (mkV c)=some (.held (mkV c),[]):=rfl
theorem fileElem_inv {v:Value} {y:DataW Value×List MemPlace} (h:fileElem v=some y): ∃c,v=mkV c∧y=(.held (mkV c),[]):=by
 unfold fileElem at h;split at h
 ·rename_i cs
  split at h
  ·rename_i t sa sn sc wh la ln lc ls hcs
   cases h;have hc:cs= #[.bool t,.slice sa sn sc,.int .i64 wh,.slice la ln lc,.bool ls]:=by
    cases cs with | mk l=>simp at hcs;rw[hcs]
   subst hc;exact⟨⟨t,sa,sn,sc,wh,la,ln,lc,ls⟩,rfl,rfl⟩
  ·cases h
 ·cases h
theorem zero_file (w:World):(zeroValue 98).run Tryz.prog w= .ok (mkV FV.zero) w:=by kernel_rfl
inductive Tag where
 | disk
 | map
 | file (n:Name) (j:Nat)
abbrev Tags:=Nat→Option Tag
def Tags.own (o:Tags) (v:Value) (t:Tag):Tags:=fun k=>if v.ownBlock=some k then some t else o k
def Tags.only (o:Tags) (n:Name) (v:Value) (t:Tag):Tags:=fun k=>
 if v.ownBlock=some k then some t else match o k with
  | some (.file m j)=>if m=n then none else some (.file m j)
  | x=>x
def BytesAt (w:World) (B:Nat) (o:Tags) (g:Tag) (zs:List Int) (v:Value):Prop:=Row w B zs v∧ ∀k,v.ownBlock=some k→o k=some g
def verCells:List Ver→List Value→List Value
 | v::vs,s::ss=> .bool v.there::s:: .int .i64 v.whole::verCells vs ss
 | _,_=> []
theorem verCells_len: ∀(vs:List Ver) (ss:List Value),ss.length=vs.length→(verCells vs ss).length=vs.length*3
 | [],_,_=>by simp [verCells]
 | v::vs,[],h=>by simp at h
 | v::vs,s::ss,h=>by
  simp only[verCells,List.length_cons];rw[verCells_len vs ss (by simpa using h)];omega
theorem verCells_snoc: ∀(vs:List Ver) (ss:List Value) (v:Ver) (s:Value),ss.length=vs.length→verCells (vs++ [v]) (ss++ [s])=verCells vs ss++ [.bool v.there,s,.int .i64 v.whole]
 | [],[],v,s,_=>rfl
 | [],s'::ss,v,s,h=>by simp at h
 | v'::vs,[],v,s,h=>by simp at h
 | v'::vs,s'::ss,v,s,h=>by
  simp only[verCells,List.cons_append];rw[verCells_snoc vs ss v s (by simpa using h)]
theorem verCells_at: ∀(vs:List Ver) (ss:List Value) (i:Nat) (hi:i<vs.length),ss.length=vs.length→
  (verCells vs ss)[i*3]?=some (.bool vs[i].there)∧(verCells vs ss)[i*3+1]?=some (ss.getD i undef)∧(verCells vs ss)[i*3+2]?=some (.int .i64 vs[i].whole)
 | [],_,i,hi,_=>by simp at hi
 | v::vs,[],i,hi,h=>by simp at h
 | v::vs,s::ss,0,hi,h=>by simp [verCells]
 | v::vs,s::ss,i+1,hi,h=>by
  have:=verCells_at vs ss i (by simpa using hi) (by simpa using h);simp only[verCells];rw[show(i+1)*3=i*3+1+1+1 by omega];simpa using this
structure FileAt (w:World) (B:Nat) (o:Tags) (n:Name) (c:FV) (f:Fil):Prop where
 t:c.t=f.sure.there
 wh:c.wh=f.sure.whole
 ls:c.ls=f.loose
 sb:BytesAt w B o (.file n 0) f.sure.bs c.sb
 ok:f.ok
 lt: ∃ss:List Value,ss.length=f.later.length∧w.ownsRow B 95 3 c.lt f.later.length (verCells f.later ss)∧(∀k,c.lt.ownBlock=some k→o k=some (.file n 1))∧
  ∀i (h:i<f.later.length),BytesAt w B o (.file n (i+2)) f.later[i].bs (ss.getD i undef)
section
variable {w w':World} {B:Nat} {o o':Tags} {n:Name}
theorem Row.keep {zs:List Int} {v:Value} (h:Row w B zs v) (hk: ∀k,v.ownBlock=some k→w'.heap[k]?=w.heap[k]?):Row w' B zs v:=by
 refine⟨h.1,?_⟩;rcases h.2 with hn | ⟨g,cap,cur,rfl,hB,hg,rest⟩
 ·exact .inl hn
 ·exact .inr ⟨g,cap,cur,rfl,hB,(hk g rfl).trans hg,rest⟩
theorem ownsRow_keep {e:TypeId} {size m:Nat} {xs:List Value} {v:Value} (h:w.ownsRow B e size v m xs) (hk: ∀k,v.ownBlock=some k→w'.heap[k]?=w.heap[k]?):w'.ownsRow B e size v m xs:=by
 refine⟨h.1,?_⟩;rcases h.2 with hn | ⟨g,cap,cur,rfl,hB,hg,rest⟩
 ·exact .inl hn
 ·exact .inr ⟨g,cap,cur,rfl,hB,(hk g rfl).trans hg,rest⟩
theorem BytesAt.keep {g:Tag} {zs:List Int} {v:Value} (h:BytesAt w B o g zs v) (hk: ∀k,o k=some g→w'.heap[k]?=w.heap[k]?) (ho: ∀k,o k=some g→o' k=some g):BytesAt w' B o' g zs v:=
 ⟨h.1.keep fun k e=>hk k (h.2 k e),fun k e=>ho k (h.2 k e)⟩
theorem FileAt.keep {c:FV} {f:Fil} (h:FileAt w B o n c f) (hk: ∀k j,o k=some (.file n j)→w'.heap[k]?=w.heap[k]?) (ho: ∀k j,o k=some (.file n j)→o' k=some (.file n j)):FileAt w' B o' n c f:=by
 obtain⟨ss,h1,h2,h3,h4⟩:=h.lt;exact⟨h.t,h.wh,h.ls,h.sb.keep (fun k=>hk k 0) (fun k=>ho k 0),h.ok,ss,h1,ownsRow_keep h2 fun k e=>hk k 1 (h3 k e),fun k e=>ho k 1 (h3 k e),fun i hi=>(h4 i hi).keep (fun k=>hk k _) (fun k=>ho k _)⟩
theorem FileAt.zero (w:World) (B:Nat) (o:Tags) (n:Name):FileAt w B o n FV.zero Fil.zero:=
 ⟨rfl,rfl,rfl,⟨World.ownsRow_nil _ _ _ _,fun k e=>by cases e⟩,Fil.zero_ok,[],rfl,World.ownsRow_nil _ _ _ _,(fun k e=>by cases e),fun i hi=>absurd hi (by simp [Fil.zero])⟩
end
def Has1 (w:World) (B:Nat) (o:Tags) (D:DataW Value) (M:Files) (n:Name):Prop:=
 (M n=none∧has D (.string n)=false)∨ ∃f c,M n=some f∧has D (.string n)=true∧(∀zd,D.atKey (.string n) zd= .held (mkV c))∧FileAt w B o n c f
structure DiskIn (w:World) (B:Nat) (o:Tags) (g b:Nat) (D:DataW Value) (M:Files) (N:Nat) (l:Option Name):Prop where
 blk:w.heap[g]?=some (.cells #[.map (some b)] 58 (0,0))
 og:o g=some .disk
 ob:o b=some .map
 map:w.ownsMap Tryz.prog 9 fileElem b (Maps.size D) D
 le:Maps.size D≤N
 own: ∀k,o k≠none→B≤k∧k<w.heap.size
 files: ∀n,some n≠l→Has1 w B o D M n
 here: ∀n,some n=l→has D (.string n)=(M n).isSome
def DiskAt (w:World) (B:Nat) (o:Tags) (g:Nat) (M:Files) (N:Nat):Prop:= ∃b D,DiskIn w B o g b D M N none
section
variable {w w':World} {B:Nat} {o o':Tags} {g b N:Nat} {D:DataW Value} {M:Files} {l:Option Name}
theorem ownsMap_exact {P:Program} {k:TypeId} {R:Value→Option (DataW Value×List MemPlace)} {n:Nat} (h:w.ownsMap P k R b n D):w.ownsMap P k R b (Maps.size D) D:=by
 obtain⟨es,clock,hb,F,_,rfl⟩:=h;exact⟨es,clock,hb,F,by simp [Maps.size,length_sorted],rfl⟩
theorem DiskIn.keep {l':Option Name} (h:DiskIn w B o g b D M N l) (hl: ∀n,some n≠l'→some n≠l) (hh: ∀n,some n=l'→has D (.string n)=(M n).isSome)
  (hk: ∀k t,o k=some t→(∀n j,t= .file n j→some n≠l')→w'.heap[k]?=w.heap[k]?)
  (ho: ∀k t,o k=some t→(∀n j,t= .file n j→some n≠l')→o' k=some t)
  (hn: ∀k,o' k≠none→B≤k∧k<w'.heap.size):DiskIn w' B o' g b D M N l' where
 blk:=(hk g _ h.og (fun n j e=>by cases e)).trans h.blk
 og:=ho g _ h.og fun n j e=>by cases e
 ob:=ho b _ h.ob fun n j e=>by cases e
 map:=by
  obtain⟨es,clock,hb,r⟩:=h.map;exact⟨es,clock,(hk b _ h.ob (fun n j e=>by cases e)).trans hb,r⟩
 le:=h.le
 own:=hn
 files:=fun n hnl=>by
  rcases h.files n (hl n hnl) with h1 | ⟨f,c,h1,h2,h3,h4⟩
  ·exact .inl h1
  ·refine .inr ⟨f,c,h1,h2,h3,h4.keep (fun k j e=>hk k _ e fun m i e'=>?_) (fun k j e=>ho k _ e fun m i e'=>?_)⟩
   ·cases e';exact hnl
   ·cases e';exact hnl
 here:=fun n hnl=>hh n hnl
theorem DiskIn.same (h:DiskIn w B o g b D M N l) (hs:w.heap.size≤w'.heap.size) (hk: ∀k,o k≠none→w'.heap[k]?=w.heap[k]?):DiskIn w' B o g b D M N l:=
 h.keep (fun _ e=>e) h.here (fun k t e _=>hk k (by rw[e];simp)) (fun _ _ e _=>e) (fun k e=>⟨(h.own k e).1,Nat.lt_of_lt_of_le (h.own k e).2 hs⟩)
theorem DiskIn.below (h:DiskIn w B o g b D M N l) (hb:Below w.heap.size w w'):DiskIn w' B o g b D M N l:=h.same hb.size fun k e=>hb.block k (h.own k e).2
theorem DiskIn.drew (h:DiskIn w B o g b D M N l):DiskIn w.drew B o g b D M N l:=h.same (Nat.le_refl _) fun _ _=>rfl
theorem DiskIn.setCell (h:DiskIn w B o g b D M N l) {a:Addr} (ha:o a.block=none) (u:Value):DiskIn (w.setCell a u) B o g b D M N l:=
 h.same (by simp [World.setCell]) fun k e=>Below.heap_setCell _ _ _ _ fun e'=>e (by rw[e'];exact ha)
theorem DiskIn.but (h:DiskIn w B o g b D M N none) (n:Name):DiskIn w B o g b D M N (some n):=
 {h with
  files:=fun m _=>h.files m (by simp)
  here:=fun m e=>by
   obtain rfl:m=n:=by simpa using e
   rcases h.files m (by simp) with⟨h1,h2⟩ | ⟨f,c,h1,h2,_⟩
   ·rw[h1,h2];rfl
   ·rw[h1,h2];rfl}
theorem DiskIn.file (h:DiskIn w B o g b D M N none) (n:Name): ∃c,(∀zd,has D (.string n)=true→D.atKey (.string n) zd= .held (mkV c))∧(has D (.string n)=false→c=FV.zero)∧has D (.string n)=(M n).isSome∧FileAt w B o n c (M.at n):=by
 rcases h.files n (by simp) with⟨h1,h2⟩ | ⟨f,c,h1,h2,h3,h4⟩
 ·exact⟨FV.zero,(fun zd e=>by rw[h2] at e;cases e),fun _=>rfl,by rw[h1,h2];rfl,by simpa [Files.at,h1] using FileAt.zero w B o n⟩
 ·exact⟨c,fun zd _=>h3 zd,(fun e=>by rw[h2] at e;cases e),by rw[h1,h2];rfl,by simpa [Files.at,h1] using h4⟩
theorem key_name (n:Name) (hn:n.length≤maxLen):keyOf Tryz.prog 9 (.string ⟨n.toArray⟩)=some (.string n):=
 WideMaps.keyOf_string_mk Tryz.underlying9 (s:=⟨n.toArray⟩) (by simpa [ByteArray.size] using hn)
theorem DiskIn.look (h:DiskIn w B o g b D M N none) (n:Name) (hn:n.length≤maxLen): ∃c,FileAt w B o n c (M.at n)∧
  (Instr.lookup 56 (.map (some b)) (.string ⟨n.toArray⟩) false).run Tryz.prog w= .ok (mkV c) w∧
  (Instr.lookup 56 (.map (some b)) (.string ⟨n.toArray⟩) true).run Tryz.prog w= .ok (.tuple #[mkV c,.bool (M n).isSome]) w:=by
 obtain⟨c,h1,h2,h3,h4⟩:=h.file n;refine⟨c,h4,?_,?_⟩
 ·obtain⟨v,ps,hr,hv⟩:=h.map.lookup (t:=56) nameLaw Tryz.underlying56 (zero_file w) (fileElem_mk FV.zero) (key_name n hn)
  obtain⟨c',rfl,hc'⟩:=fileElem_inv hv;cases hh:has D (.string n)
  ·obtain rfl:=h2 hh
   rw[atKey_of_not_has hh] at hc';simp at hc';rw[hr,hc'.1]
  ·rw[h1 _ hh] at hc'
   simp at hc';rw[hr,hc'.1]
 ·obtain⟨v,ps,hr,hv⟩:=h.map.look_ok (t:=56) nameLaw Tryz.underlying56 (zero_file w) (fileElem_mk FV.zero) (key_name n hn)
  obtain⟨c',rfl,hc'⟩:=fileElem_inv hv;rw[h3] at hr;cases hh:has D (.string n)
  ·obtain rfl:=h2 hh
   rw[atKey_of_not_has hh] at hc';simp at hc';rw[hr,hc'.1]
  ·rw[h1 _ hh] at hc'
   simp at hc';rw[hr,hc'.1]
def cntN (M:Files) (n:Name) (N:Nat):Nat:=if (M n).isSome then N else N+1
theorem cntN_le (M:Files) (n:Name) (N:Nat):N≤cntN M n N∧cntN M n N≤N+1:=by unfold cntN;split<;>omega
theorem cntN_has {M:Files} {n:Name} (N:Nat) (h:(M n).isSome=true):cntN M n N=N:=by simp [cntN,h]
theorem isKey_name (n:Name):WideAt.IsKeyLit (.string n):=by constructor
theorem DiskIn.store {n:Name} {c:FV} {f:Fil} (h:DiskIn w B o g b D M N (some n)) (hf:FileAt w B o n c f) (hn:n.length≤maxLen) (hN:N<maxLen):
  ∃w',(Instr.mapUpdate 56 (.map (some b)) (.string ⟨n.toArray⟩) (mkV c)).run Tryz.prog w= .ok () w'∧
   DiskIn w' B o g b (D.put (.string n) (.held (mkV c))) (upd M n (some f)) (cntN M n N) none∧w.grownBy w' (some b)∧w'.heap.size=w.heap.size:=by
 obtain⟨w',hr,hm,ht⟩:=h.map.store (t:=56) nameLaw Tryz.underlying56 (Nat.lt_of_le_of_lt h.le hN) (key_name n hn) (fileElem_mk c);have hg:=ht.grown;have hz:w'.heap.size=w.heap.size:=by
  obtain⟨_,_,_,_,_,rfl⟩:=ht;simp [setBlock]
 have hne: ∀k t,o k=some t→t≠ .map→w'.heap[k]?=w.heap[k]?:=fun k t e ht'=>by
  refine hg.block k (h.own k (by rw[e];simp)).2 fun e'=>?_;cases e';rw[h.ob] at e;cases e;exact ht' rfl
 have hkf: ∀m k j,o k=some (.file m j)→w'.heap[k]?=w.heap[k]?:=fun m k j e=>hne k _ e (by simp);refine⟨w',hr,⟨(hne g _ h.og (by simp)).trans h.blk,h.og,h.ob,ownsMap_exact hm,?_,fun k e=>⟨(h.own k e).1,by rw[hz];exact(h.own k e).2⟩,fun m _=>?_,fun m e=>by cases e⟩,hg,hz⟩
 ·rw[size_put (h.map.tidy nameLaw),h.here n rfl]
  have:=h.le;unfold cntN;split<;>omega
 ·by_cases hmn:m=n
  ·subst hmn
   exact .inr ⟨f,c,upd_same _ _ _,has_put_same h.map.isMap (isKey_name m) _,fun zd=>atKey_put_same h.map.isMap (isKey_name m) _ _,hf.keep (fun k j e=>hkf m k j e) (fun k j e=>e)⟩
  ·have hk:(Lit.string m:Lit)≠ .string n:=fun e=>hmn (by cases e;rfl)
   rcases h.files m (by simpa using hmn) with⟨h1,h2⟩ | ⟨f',c',h1,h2,h3,h4⟩
   ·exact .inl ⟨by rw[upd_other _ _ hmn];exact h1,by rw[has_put_other hk];exact h2⟩
   ·exact .inr ⟨f',c',by rw[upd_other _ _ hmn];exact h1,by rw[has_put_other hk];exact h2,fun zd=>by rw[atKey_put_other hk];exact h3 zd,h4.keep (fun k j e=>hkf m k j e) (fun k j e=>e)⟩
theorem DiskIn.del {n:Name} (h:DiskIn w B o g b D M N (some n)) (hn:n.length≤maxLen) (ty:TypeId):
  ∃w',(Builtin.delete_ #[56,9] ty #[.map (some b),.string ⟨n.toArray⟩]).run Tryz.prog w= .ok (.tuple #[]) w'∧
   DiskIn w' B o g b (D.del (.string n)) (upd M n none) N none∧w.grownBy w' (some b)∧w'.heap.size=w.heap.size:=by
 obtain⟨w',hr,hm,ht⟩:=h.map.drop (t:=56) nameLaw Tryz.underlying56 (key_name n hn) ty;have hg:=ht.grown;have hz:w'.heap.size=w.heap.size:=by
  obtain⟨_,_,_,_,_,rfl⟩:=ht;simp [setBlock]
 have hne: ∀k t,o k=some t→t≠ .map→w'.heap[k]?=w.heap[k]?:=fun k t e ht'=>by
  refine hg.block k (h.own k (by rw[e];simp)).2 fun e'=>?_;cases e';rw[h.ob] at e;cases e;exact ht' rfl
 have hkf: ∀m k j,o k=some (.file m j)→w'.heap[k]?=w.heap[k]?:=fun m k j e=>hne k _ e (by simp);refine⟨w',hr,⟨(hne g _ h.og (by simp)).trans h.blk,h.og,h.ob,ownsMap_exact hm,?_,fun k e=>⟨(h.own k e).1,by rw[hz];exact(h.own k e).2⟩,fun m _=>?_,fun m e=>by cases e⟩,hg,hz⟩
 ·have h1:=size_del (k:= .string n) (h.map.tidy nameLaw)
  have:=h.le;omega
 ·by_cases hmn:m=n
  ·subst hmn
   exact .inl ⟨upd_same _ _ _,has_del_same⟩
  ·have hk:(Lit.string m:Lit)≠ .string n:=fun e=>hmn (by cases e;rfl)
   rcases h.files m (by simpa using hmn) with⟨h1,h2⟩ | ⟨f',c',h1,h2,h3,h4⟩
   ·exact .inl ⟨by rw[upd_other _ _ hmn];exact h1,by rw[has_del_other hk];exact h2⟩
   ·exact .inr ⟨f',c',by rw[upd_other _ _ hmn];exact h1,by rw[has_del_other hk];exact h2,fun zd=>by rw[atKey_del_other hk];exact h3 zd,h4.keep (fun k j e=>hkf m k j e) (fun k j e=>e)⟩
end
structure StepX (x:Value) (o:Tags) (w:World) (o':Tags) (w':World):Prop where
 os:w'.os=w.os
 tape:w'.tape=w.tape
 output:w'.output=w.output
 size:w.heap.size≤w'.heap.size
 block: ∀k,k<w.heap.size→o k=none→w'.heap[k]?=w.heap[k]?
 free: ∀k,k<w.heap.size→o k=none→x.ownBlock≠some k→o' k=none
abbrev Step (o:Tags) (w:World) (o':Tags) (w':World):Prop:=StepX (.slice none 0 0) o w o' w'
section
variable {w w0 w1 w2:World} {o o1 o2:Tags} {x:Value}
theorem Step.trans (h:Step o w o1 w1) (k:Step o1 w1 o2 w2):Step o w o2 w2:=
 ⟨k.os.trans h.os,k.tape.trans h.tape,k.output.trans h.output,Nat.le_trans h.size k.size,
  fun j hj e=>(k.block j (Nat.lt_of_lt_of_le hj h.size) (h.free j hj e (by simp [Value.ownBlock]))).trans (h.block j hj e),
  fun j hj e _=>k.free j (Nat.lt_of_lt_of_le hj h.size) (h.free j hj e (by simp [Value.ownBlock])) (by simp [Value.ownBlock])⟩
theorem StepX.behind (k:StepX x o w1 o2 w2) (h:Below w.heap.size w w1) (hx: ∀j,x.ownBlock=some j→w.heap.size≤j):Step o w o2 w2:=
 ⟨k.os.trans h.os,k.tape.trans h.tape,k.output.trans h.output,Nat.le_trans h.size k.size,
  fun j hj e=>(k.block j (Nat.lt_of_lt_of_le hj h.size) e).trans (h.block j hj),
  fun j hj e _=>k.free j (Nat.lt_of_lt_of_le hj h.size) e fun e'=>by have:=hx j e';omega⟩
theorem Step.refl (o:Tags) (w:World):Step o w o w:=⟨rfl,rfl,rfl,Nat.le_refl _,fun _ _ _=>rfl,fun _ _ e _=>e⟩
theorem Step.of_below (o:Tags) (h:Below w.heap.size w w1):Step o w o w1:=⟨h.os,h.tape,h.output,h.size,fun j hj _=>h.block j hj,fun _ _ e _=>e⟩
theorem StepX.below {B:Nat} (h:StepX x o w o1 w1) (ho: ∀k,o k≠none→B≤k∧k<w.heap.size) (hB:B≤w.heap.size):Below B w w1:=
 ⟨h.os,h.tape,h.output,h.size,fun k hk=>by
  refine h.block k (by omega) ?_;cases e:o k with
  | none=>rfl
  | some t=>have:=(ho k (by rw[e];simp)).1;omega⟩
end
end Go.Proofs.YtalfbcbnljhldaaGreatDoor
