/-  -/
import Derived.Test.YtalfbcbnljhldaaGreatDoorMap
import Derived.Test.YtalfbcbnljhldaaGreatDoorMaq
import Derived.Test.YtalfbcbnljhldaaGreatDoorMao
import Derived.Test.YtalfbcbnljhldaaGreatDoorMas
import Derived.Test.YtalfbcbnljhldaaGreatDoorMae
namespace Go.Proofs.YtalfbcbnljhldaaGreatDoor
open Go.RowKit
theorem infoInt:(Tryz.prog.info? 3).map (fun i=>(i.zero,i.size,i.bytes))=some (some (.int .i64 0),1,8):=by kernel_rfl
def bi (b:Bool):Int:=if b then 1 else 0
def cellsOf (N:Nat) (f:Nat→Bool):List Value:=(List.range N).map fun m=> .int .i64 (bi (f m))
theorem cellsOf_snoc (N:Nat) (f:Nat→Bool):cellsOf N f++ [.int .i64 (bi (f N))]=cellsOf (N+1) f:=by simp [cellsOf,List.range_succ]
theorem cellsOf_at (N:Nat) (f:Nat→Bool) (m:Nat) (hm:m<N):(cellsOf N f)[m]?=some (.int .i64 (bi (f m))):=by simp [cellsOf,hm]
theorem cellsOf_len (N:Nat) (f:Nat→Bool):(cellsOf N f).length=N:=by simp [cellsOf]
def Bits (w:World) (B N:Nat) (f:Nat→Bool) (v:Value):Prop:=w.ownsRow B 3 1 v N (cellsOf N f)
theorem Bits.shape {w:World} {B N:Nat} {f:Nat→Bool} {v:Value} (h:Bits w B N f v): ∃a c,v= .slice a N c:=by
 rcases h.2 with⟨rfl,hn⟩ | ⟨g,cap,cur,rfl,_⟩
 ·have:N=0:=by simpa [cellsOf_len] using hn
  subst this;exact⟨_,_,rfl⟩
 ·exact⟨_,_,rfl⟩
theorem Bits.snoc {w:World} {B N:Nat} {f:Nat→Bool} {v:Value} (h:w.ownsRow B 3 1 v (N+1) (cellsOf N f++ [.int .i64 (bi (f N))])):Bits w B (N+1) f v:=by
 rw[cellsOf_snoc] at h;exact h
def pows:Array Value:= #[.int .i64 28,.int .i64 27,.int .i64 26,.int .i64 25,.int .i64 23,.int .i64 22,.int .i64 20,.int .i64 19,.int .i64 18,.int .i64 14,.int .i64 13,.int .i64 11,.int .i64 10,.int .i64 9,.int .i64 8,.int .i64 6,.int .i64 0]
theorem pows_at (k:Nat) (hk:k<17):pows[k]?=some (.int .i64 (Crc.P k:Int)):=by
 have hall: ∀k,k<17→pows[k]?=some (.int .i64 (Crc.P k:Int)):=by
  intro k hk;have:k=0∨k=1∨k=2∨k=3∨k=4∨k=5∨k=6∨k=7∨k=8∨k=9∨k=10∨k=11∨k=12∨k=13∨k=14∨k=15∨k=16:=by omega
  rcases this with rfl | rfl | rfl | rfl | rfl | rfl | rfl | rfl | rfl | rfl | rfl | rfl | rfl | rfl | rfl | rfl | rfl<;>rfl
 exact hall k hk
theorem P_le (k:Nat) (hk:k<17):Crc.P k≤28:=by
 have hall: ∀k,k<17→Crc.P k≤28:=by decide
 exact hall k hk
structure Lay (w:World) (g N:Nat) (f:Nat→Bool):Prop where
 blk: ∃cs,w.heap[g]?=some (.cells cs 3 (0,0))∧ ∀m,m<N→cs[m]?=some (.int .i64 (bi (f m)))
theorem Lay.cell {w:World} {g N:Nat} {f:Nat→Bool} (h:Lay w g N f) (m:Nat) (hm:m<N):w.cell? ⟨g,m,none⟩=some (.int .i64 (bi (f m))):=by
 obtain⟨cs,hg,hc⟩:=h.blk;rw[cell_of_row w g m cs _ _ hg];exact hc m hm
theorem Lay.cellB {w:World} {g N:Nat} {f:Nat→Bool} (h:Lay w g N f) (m:Nat) (hm:m<N) (b:Bool) (hb:f m=b):w.cell? ⟨g,m,none⟩=some (.int .i64 (bi b)):=by
 rw[h.cell m hm,hb]
theorem Lay.free {w:World} {g N:Nat} {f:Nat→Bool} (h:Lay w g N f) (m:Nat):w.frozen? ⟨g,m,none⟩=false:=by
 obtain⟨cs,hg,_⟩:=h.blk;exact frozen_of_row w g m cs _ hg
theorem Lay.congr {w:World} {g N:Nat} {f f':Nat→Bool} (h:Lay w g N f) (hf: ∀m,m<N→f m=f' m):Lay w g N f':=by
 obtain⟨cs,hg,hc⟩:=h.blk;exact⟨cs,hg,fun m hm=>by rw[hc m hm,hf m hm]⟩
theorem Lay.store {w:World} {g N:Nat} {f:Nat→Bool} (h:Lay w g N f) (j:Nat) (b:Bool):Lay (w.setCell ⟨g,j,none⟩ (.int .i64 (bi b))) g N (fun m=>if m=j then b else f m):=by
 obtain⟨cs,hg,hc⟩:=h.blk;refine⟨_,heap_setCell_same w g j cs _ _ hg,fun m hm=>?_⟩;rw[Array.getElem?_setIfInBounds];have hlt:m<cs.size:=by
  rcases Nat.lt_or_ge m cs.size with h' | h'
  ·exact h'
  ·have:=hc m hm;rw[Array.getElem?_eq_none h'] at this;cases this
 by_cases hj:j=m
 ·subst hj
  simp [hlt]
 ·rw[if_neg hj,if_neg (fun e=>hj e.symm)]
  exact hc m hm
theorem Lay.other {w w':World} {g N:Nat} {f:Nat→Bool} (h:Lay w g N f) (he:w'.heap[g]?=w.heap[g]?):Lay w' g N f:=by
 obtain⟨cs,hg,hc⟩:=h.blk;exact⟨cs,he.trans hg,hc⟩
theorem Bits.lay {w:World} {B N:Nat} {f:Nat→Bool} {v:Value} (h:Bits w B N f v) (hN:0<N):
  ∃g cap,v= .slice (some ⟨g,0,none⟩) N cap∧B≤g∧g<w.heap.size∧Lay w g N f:=by
 rcases h.2 with⟨_,hn⟩ | ⟨g,cap,cur,rfl,hB,hg,rest⟩
 ·exfalso;have:N=0:=by simpa [cellsOf_len] using hn
  omega
 ·have h':=h
  unfold Bits at h';refine⟨g,cap,rfl,hB,lt_of_block hg,cur,hg,fun m hm=>?_⟩;have:=h'.cells (g:=g) rfl m _ (cellsOf_at N f m hm);rw[show((⟨g,0,none⟩:Addr).add m)=⟨g,m,none⟩ by unfold Addr.add;split<;>simp_all,cell_of_row w g m cur _ _ hg] at this;exact this
theorem bi_low (q:Nat):((q:Int) % 2)=bi (q.testBit 0):=by
 rw[Nat.testBit_zero];unfold bi;by_cases h:q % 2=1
 ·simp [h];omega
 ·simp [h];omega
theorem raw_bit (zs:List Int) (k t:Nat) (ht:t<8) (z:Nat) (hz:zs.getD k 0=z):Crc.raw zs (8*k+t)=(z / 2 ^ t).testBit 0:=by
 unfold Crc.raw;rw[show(8*k+t) / 8=k by omega,show(8*k+t) % 8=t by omega,hz,Int.toNat_natCast,Nat.testBit_div_two_pow,Nat.zero_add]
theorem bi_not (b:Bool):(1:Int) - bi b=bi (!b):=by cases b<;>rfl
theorem bi_le (b:Bool):0≤bi b∧bi b≤1:=by cases b<;>simp [bi]
theorem flip_next (r:Nat→Bool) (t m:Nat):(if m=t then !(r t) else(r m ^^ decide (m<t)))=(r m ^^ decide (m<t+1)):=by
 by_cases h:m=t
 ·subst h
  simp
 ·rw[if_neg h]
  congr 1
  simp;omega
def Turned (f:Nat→Bool) (k q:Nat) (f':Nat→Bool):Prop:= ∀m,k<m→f' m=(f m ^^ Crc.T q (m - k))
theorem Turned.zero (f:Nat→Bool) (k:Nat) (b:Bool):Turned f k 0 (fun m=>if m=k then b else f m):=fun m hm=>by
 show(if m=k then b else f m)=_;rw[if_neg (by omega)];simp [Crc.T]
theorem Turned.next {f f':Nat→Bool} {k q:Nat} (h:Turned f k q f') (hq:Crc.P q≤28):Turned f k (q+1) (fun m=>if m=k+32 - Crc.P q then !f' (k+32 - Crc.P q) else f' m):=fun m hm=>by
 show(if m=k+32 - Crc.P q then !f' (k+32 - Crc.P q) else f' m)=(f m ^^ (Crc.T q (m - k) ^^ decide (m - k=32 - Crc.P q)));by_cases hj:m=k+32 - Crc.P q
 ·rw[if_pos hj,←hj,h m hm,show decide (m - k=32 - Crc.P q)=true by simp;omega]
  cases f m<;>cases Crc.T q (m - k)<;>rfl
 ·rw[if_neg hj,h m hm,show decide (m - k=32 - Crc.P q)=false by simp;omega,Bool.xor_false]
theorem bits_new (w:World) (x:Value) (t:TypeId): ∀j u,[x][j]?=some u→(w.alloc (.cells #[x] t)).cell? ((⟨w.heap.size,0,none⟩:Addr).add j)=some u:=by
 intro j u hj;match j,hj with
 | 0,hj=>simp at hj;subst hj;simp [Addr.add]
end Go.Proofs.YtalfbcbnljhldaaGreatDoor

namespace Go.Proofs.YtalfbcbnljhldaaGreatDoor
open Go.Lib (hid)
open Go.RowKit
set_option maxRecDepth 100000 in
set_option maxHeartbeats 4000000 in
theorem refOf_any (a:Option Addr) (len cap:Nat) (zs:List Int) (w:World) (hz:len=zs.length) (hp:Reads w a zs) (hmax:zs.length≤100000):
  Calls Tryz.prog 86 #[.slice a len cap] w fun e w'=>e= .returned (.int .u32 (Crc.crc zs:Int))∧Below w.heap.size w w':=by
 subst hz;have HP:=hid hp;clear hp;obtain⟨i0,hi,hz0,hz1,hz2⟩:=info_parts infoInt;go_enter Tryz.func86,Tryz.ntmps86
 go_wp2
 go_loopw [3,4] (fun v i wr=> ∃k:Nat,k≤zs.length∧i= .int .i64 (k:Int)∧Bits wr w.heap.size (8*k) (Crc.raw zs) v∧Below w.heap.size w wr) (fun _ i _=>zs.length - (intOf i).toNat)
 case atStart=>exact⟨0,by omega,rfl,World.ownsRow_nil _ _ _ _,Below.refl _ _⟩
 case round=>
  obtain⟨k,hk,rfl,hbits,hbel⟩:=hrel;by_cases hlt:k<zs.length
  ·have hrg:=HP.out.range k
   obtain⟨x,hx,hxb,hcell⟩:=HP.out.cell k hlt;have hcell':=(hbel.cell (p:=x.add k) (by rw[add_block];exact hxb)).trans hcell;clear hcell;obtain⟨z,hzz⟩: ∃z:Nat,zs.getD k 0=z:=⟨(zs.getD k 0).toNat,by omega⟩;rw[hzz] at hcell' hrg;have HZ:=hid hzz;clear hzz;subst hx;have hd:decide ((k:Int)<(zs.length:Int))=true:=by simp;omega
   go_wp2
   go_loopw [3,5,6] (fun v y j wq=> ∃t:Nat,t≤8∧j= .int .i64 (t:Int)∧y= .int .i64 ((z / 2 ^ t:Nat):Int)∧Bits wq w.heap.size (8*k+t) (Crc.raw zs) v∧Below w.heap.size w wq) (fun _ _ j _=>8 - (intOf j).toNat)
   case atStart=>exact⟨0,by omega,rfl,by simp,hbits,hbel⟩
   case round=>
    clear hcell' hbits hbel;obtain⟨t,ht,rfl,rfl,hown,hbel⟩:=hrel;by_cases h8:t=8
    ·subst h8
     go_wp2
     go_roundw
     case rel=>exact⟨k+1,by omega,by go_num,hown,hbel⟩
     case measure=>simp [intOf];omega
    ·have ht8:t<8:=by omega
     have hq:z / 2 ^ t≤255:=Nat.le_trans (Nat.div_le_self _ _) (by omega);have hlow:=bi_low (z / 2 ^ t);have hbit:=raw_bit zs k t ht8 z HZ.out;have hnext:z / 2 ^ (t+1)=z / 2 ^ t / 2:=by rw[Nat.pow_succ,Nat.div_div_eq_div_mul]
     generalize hQ:z / 2 ^ t=q at*;rw[←hbit] at hlow;have HN:=hid hnext;clear hQ hbit hnext;unfold Bits at hown;go_wp2_with (at_builtin;refine wpList_append_own _ rfl _ _ 38 rfl w.heap.size 3 i0 (.int .i64 0) 1 8 Tryz.underlying38 hi hz0 hz1 hz2 rfl (by decide) _ _ _ rfl (hown.alloc _) ⟨wr.heap.size,0,none⟩ 1 1 [.int .i64 (bi (Crc.raw zs (8*k+t)))] rfl rfl (bits_new _ _ _) (ints_oneCell .i64 [bi (Crc.raw zs (8*k+t))]) (by unfold maxLen;omega) (by omega) (by have:=hbel.size;simp;omega) ?_)
     intro v' w1 hown1 hg1 _;have hbel1:=(hbel.alloc hbel.size (.cells #[.int .i64 (bi (Crc.raw zs (8*k+t)))] 3)).grown hg1 (by have:=hbel.size;simp;omega) (fun k hk=>(hown.lt k hk).1);have hown2:=Bits.snoc hown1;clear hown hg1 hown1 hbel hlow;go_wp2
     go_roundw
     case rel=>exact⟨t+1,by omega,by go_num,by rw[HN.out];go_num,hown2,hbel1⟩
     case measure=>simp [intOf];omega
  ·obtain rfl:k=zs.length:=by omega
   obtain⟨a1,c1,rfl⟩:=hbits.shape;clear hlt hk;generalize hn:8*zs.length=n at*;have hn24:n≤800000:=by omega
   have HNN:=hid hn;clear hn;go_wp2
   go_loopw [3,8] (fun v j wq=> ∃t:Nat,t≤32∧j= .int .i64 (t:Int)∧Bits wq w.heap.size (n+t) (Crc.raw zs) v∧Below w.heap.size w wq) (fun _ j _=>32 - (intOf j).toNat)
   case atStart=>exact⟨0,by omega,rfl,hbits,hbel⟩
   case round=>
    clear hbits hbel;obtain⟨t,ht,rfl,hown,hbel⟩:=hrel;by_cases h32:t=32
    ·subst h32
     obtain⟨g,cp,rfl,hgB,hgs,hlay⟩:=Bits.lay hown (by omega);clear hown ht;go_wp2
     go_loopw [9] (fun j wq=> ∃t:Nat,t≤32∧j= .int .i64 (t:Int)∧Lay wq g (n+32) (fun m=>(Crc.raw zs m ^^ decide (m<t)))∧Below w.heap.size w wq∧wr.heap.size≤wq.heap.size) (fun j _=>32 - (intOf j).toNat)
     case atStart=>exact⟨0,by omega,rfl,hlay.congr (by simp),hbel,Nat.le_refl _⟩
     case round=>
      clear hlay hbel;obtain⟨t,ht,rfl,hlay,hbel,hsz⟩:=hrel;by_cases h32:t=32
      ·subst h32
       clear ht;generalize hf:(fun m=>(Crc.raw zs m ^^ decide (m<32)))=f at hlay;have HF:=hid hf;clear hf;go_wp2
       have hgh:g<wr.heap.size:=by omega
       have hlay5:Lay (wr.alloc (.cells pows 3)) g (n+32) f:=hlay.other (Below.heap_alloc _ _ _ hgh);have hbel5:Below w.heap.size w (wr.alloc (.cells pows 3)):=hbel.alloc hbel.size _;have hpow5:(wr.alloc (.cells pows 3)).heap[wr.heap.size]?=some (.cells pows 3 (0,0)):=heap_alloc_new _ _;clear hlay hbel hsz hgs;generalize wr.heap.size=h at*;go_loopw [11] (fun i wq=> ∃(k:Nat) (f:Nat→Bool),k≤n∧i= .int .i64 (k:Int)∧Lay wq g (n+32) f∧Crc.Left (Crc.raw zs) k f∧Below w.heap.size w wq∧wq.heap[h]?=some (.cells pows 3 (0,0))) (fun i _=>n - (intOf i).toNat)
       case atStart=>exact⟨0,f,by omega,rfl,hlay5,Crc.Left.zero (fun m=>by rw[←HF.out]),hbel5,hpow5⟩
       case round=>
        clear hlay5 hbel5 hpow5 HF f;obtain⟨k,f,hk,rfl,hlay,hleft,hbel,hpow⟩:=hrel;have HL:=hid hleft;have HPW:=hid hpow;have HY:=hid hlay;clear hleft hpow hlay;by_cases hkn:k=n
        ·subst hkn
         go_wp2
         have hX:Crc.M ^^^ Crc.L Crc.M (Crc.raw zs) k<4294967296:=Crc.xor_lt Crc.M_lt (Crc.L_lt Crc.M_lt _ _);have hlast: ∀i,i<32→(!f (k+i))=(Crc.M ^^^ Crc.L Crc.M (Crc.raw zs) k).testBit i:=fun i hi=>HL.out.last (fun m hm=>Crc.raw_end zs m (by have:=HNN.out;omega)) i hi;have hcrc:Crc.crc zs=Crc.M ^^^ Crc.L Crc.M (Crc.raw zs) k:=by rw[←HNN.out];rfl
         generalize Crc.M ^^^ Crc.L Crc.M (Crc.raw zs) k=X at*;have HLA:=hid hlast;have HC:=hid hcrc;clear hlast hcrc HL HPW HNN hgh hi hz0 hz1 hz2;go_loop [14,15] (fun c i=> ∃t:Nat,t≤32∧i= .int .i64 ((t:Int) - 1)∧c= .int .u32 ((X / 2 ^ t:Nat):Int)) (fun _ i=>(intOf i+1).toNat)
         case atStart=>exact⟨32,by omega,rfl,by rw[Nat.div_eq_of_lt hX];rfl⟩
         case round=>
          obtain⟨t,ht,rfl,rfl⟩:=hrel;cases t with
          | zero=>
           rw[show(((0:Nat):Int) - 1)= -1 from rfl,Nat.pow_zero,Nat.div_one];go_wp2
           go_ret
           rw[HC.out];exact⟨rfl,hbel⟩
          | succ s=>
           rw[show(((s+1:Nat):Int) - 1)=(s:Int) by omega];have hy:=Crc.top_bits X s;have hy2:X / 2 ^ (s+1)≤2147483647:=by
            have:X / 2 ^ (s+1)≤X / 2 ^ 1:=Nat.div_le_div_left (Nat.pow_le_pow_right (by decide) (by omega)) (by decide);omega
           generalize X / 2 ^ (s+1)=y at*;have hbit:=HLA.out s (by omega);have hcell:=HY.out.cellB (k+s) (by omega) _ rfl;rw[←hbit] at hy;generalize f (k+s)=b at*;have HYY:=hid hy;clear hy hbit;cases b with
           | false=>
            have hcell0:wr.cell? ⟨g,k+s,none⟩=some (.int .i64 0):=hcell;clear hcell;go_wp2
            go_round
            case rel=>exact⟨s,by omega,by go_num,by rw[HYY.out];go_num⟩
            case measure=>simp [intOf]
           | true=>
            have hcell0:wr.cell? ⟨g,k+s,none⟩=some (.int .i64 1):=hcell;clear hcell;go_wp2
            go_round
            case rel=>exact⟨s,by omega,by go_num,by rw[HYY.out];go_num⟩
            case measure=>simp [intOf]
        ·have hlt:k<n:=by omega
         cases hfk:f k with
         | false=>
          have hcell:wr.cell? ⟨g,k,none⟩=some (.int .i64 0):=HY.out.cellB k (by omega) false hfk;have HFK:=hid hfk;clear hfk;go_wp2
          go_roundw
          case rel=>exact⟨k+1,f,by omega,by go_num,HY.out,HL.out.next0 HFK.out,hbel,HPW.out⟩
          case measure=>simp [intOf];omega
         | true=>
          have hcell:wr.cell? ⟨g,k,none⟩=some (.int .i64 1):=HY.out.cellB k (by omega) true hfk;have hfree:=HY.out.free k;have HFK:=hid hfk;have hst:Lay (wr.setCell ⟨g,k,none⟩ (.int .i64 0)) g (n+32) (fun m=>if m=k then false else f m):=HY.out.store k false;have HST:=hid hst;clear hfk hst;go_wp2
          go_loopw [12] (fun p wq=> ∃(q:Nat) (f2:Nat→Bool),q≤17∧p= .int .i64 (q:Int)∧Lay wq g (n+32) f2∧Turned f k q f2∧Below w.heap.size w wq∧wq.heap[h]?=some (.cells pows 3 (0,0))) (fun p _=>17 - (intOf p).toNat)
          case atStart=>exact⟨0,_,by omega,rfl,HST.out,Turned.zero f k false,hbel.setCell (p:=⟨g,k,none⟩) hgB _,(heap_setCell_other _ _ _ _ (by show h≠g;omega)).trans HPW.out⟩
          case round=>
           clear HST HPW HY hcell hfree hbel;obtain⟨q,f2,hq,rfl,hlay,hturn,hbel,hpow⟩:=hrel;have HT:=hid hturn;have HPW:=hid hpow;have HY:=hid hlay;clear hturn hpow hlay;by_cases h17:q=17
           ·subst h17
            go_wp2
            go_roundw
            case rel=>exact⟨k+1,f2,by omega,by go_num,HY.out,HL.out.next1 HFK.out HT.out,hbel,HPW.out⟩
            case measure=>simp [intOf];omega
           ·have hq17:q<17:=by omega
            have hp:=P_le q hq17;have hpc:=cell_of_row _ h q _ _ _ HPW.out;rw[pows_at q hq17] at hpc;have hnx:=HT.out.next hp;generalize Crc.P q=p at*;have HNX:=hid hnx;have hcell:=HY.out.cellB (k+32 - p) (by omega) _ rfl;have hfree:=HY.out.free (k+32 - p);have hst:=HY.out.store (k+32 - p) (!(f2 (k+32 - p)));generalize f2 (k+32 - p)=b at*;have h1:=bi_not b;have h2:=bi_le b;have HST:=hid hst;clear hst hnx HY;go_wp2
            go_roundw
            case rel=>exact⟨q+1,_,by omega,by go_num,HST.out,HNX.out,hbel.setCell (p:=⟨g,k+32 - p,none⟩) hgB _,(heap_setCell_other _ _ _ _ (by show h≠g;omega)).trans HPW.out⟩
            case measure=>simp [intOf];omega
      ·have ht32:t<32:=by omega
       have hcell:=hlay.cellB t (by omega) (Crc.raw zs t) (by simp);have hfree:=hlay.free t;have hst:=hlay.store t (!(Crc.raw zs t));generalize hb:Crc.raw zs t=b at hcell hst;have h1:=bi_not b;have h2:=bi_le b;have HB:=hid hb;have HST:=hid hst;clear hst hlay hb;go_wp2
       go_roundw
       case rel=>exact⟨t+1,by omega,by go_num,HST.out.congr (fun m _=>by rw[←HB.out];exact flip_next _ t m),hbel.setCell (p:=⟨g,t,none⟩) hgB _,by simpa using hsz⟩
       case measure=>simp [intOf];omega
    ·have ht32:t<32:=by omega
     have hbit:bi (Crc.raw zs (n+t))=0:=by rw[Crc.raw_end zs _ (by have:=HNN.out;omega)];rfl
     have HB:=hid hbit;clear hbit;unfold Bits at hown;go_wp2_with (at_builtin;refine wpList_append_own _ rfl _ _ 38 rfl w.heap.size 3 i0 (.int .i64 0) 1 8 Tryz.underlying38 hi hz0 hz1 hz2 rfl (by decide) _ _ _ rfl (hown.alloc _) ⟨wr.heap.size,0,none⟩ 1 1 [.int .i64 0] rfl rfl (bits_new _ _ _) (ints_oneCell .i64 [0]) (by unfold maxLen;omega) (by omega) (by have:=hbel.size;simp;omega) ?_)
     intro v' w1 hown1 hg1 _;have hbel1:=(hbel.alloc hbel.size (.cells #[.int .i64 0] 3)).grown hg1 (by have:=hbel.size;simp;omega) (fun k hk=>(hown.lt k hk).1);have hown2:=Bits.snoc (f:=Crc.raw zs) (by rw[HB.out];exact hown1);clear hown hg1 hown1 hbel;go_wp2
     go_roundw
     case rel=>exact⟨t+1,by omega,by go_num,hown2,hbel1⟩
     case measure=>simp [intOf];omega
set_option maxRecDepth 100000 in
set_option maxHeartbeats 400000 in
theorem refMasked_any (a:Option Addr) (len cap:Nat) (zs:List Int) (w:World) (hz:len=zs.length) (hp:Reads w a zs) (hmax:zs.length≤100000):
  Calls Tryz.prog 68 #[.slice a len cap] w fun e w'=>e= .returned (.int .u32 (Crc.mask (Crc.crc zs):Int))∧Below w.heap.size w w':=by
 have H:=hid (refOf_any a len cap zs w hz hp hmax);clear hz hp hmax;have hlt:=Crc.crc_lt zs;generalize Crc.crc zs=c at*;go_enter Tryz.func68,Tryz.ntmps68
 go_wp2_with fail
 refine H.out.mono ?_;rintro e w1 ⟨rfl,hb1⟩;clear H;go_wp2_with fail
 go_ret
 exact⟨by unfold Crc.mask;go_num,hb1⟩
end Go.Proofs.YtalfbcbnljhldaaGreatDoor

namespace Go.Proofs.YtalfbcbnljhldaaGreatDoor
open Go.RowKit
set_option maxRecDepth 100000 in
set_option maxHeartbeats 1000000 in
theorem refFramePut_any (a:Option Addr) (len cap:Nat) (zs:List Int) (w:World) (hz:len=zs.length) (hp:Reads w a zs) (hl:zs.length≤4096):
  Calls Tryz.prog 35 #[.slice a len cap] w fun e w'=> ∃g c,e= .returned (.tuple #[.slice (some ⟨g,0,none⟩) (Frame.frameOf zs).length c,.int .i64 0])∧
   Row w' w.heap.size (Frame.frameOf zs) (.slice (some ⟨g,0,none⟩) (Frame.frameOf zs).length c)∧Below w.heap.size w w':=by
 obtain⟨i0,hi,hz0,hz1,hz2⟩:=info_parts info5;have hcv:=hp.text len cap hz;have hsz:=strOfNums_size zs;have hbl:=bl_str hp.hr;have hrr:=hp.hr;clear hp hz;have HS:=Lib.hid hsz;have HB:=Lib.hid hbl;have HRR:=Lib.hid hrr;clear hsz hbl hrr;have PT:=Lib.hid (refPutText_any (strOfNums zs) (by rw[HS.out];exact hl) w);rw[HS.out,HB.out] at PT;go_enter Tryz.func35,Tryz.ntmps35
 go_wp2_with fail
 refine PT.out.mono ?_;rintro e w1 ⟨v,rfl,hr,hb⟩;clear PT;have htx:Num.put zs.length++zs=Frame.txt zs:=rfl;have htl:=Frame.txt_len zs;have hpl:=Num.put_len zs.length;have htr:=Frame.txt_range hl HRR.out;rw[htx] at hr;obtain⟨ts,hts⟩: ∃ts,ts=Frame.txt zs:=⟨_,rfl⟩;rw[←hts] at hr htl htr;have HTX:=Lib.hid hts;clear htx hts;have hne:ts≠ []:=by intro h;rw[h] at htl;simp at htl;omega
 obtain⟨g,cap2,rfl,hg0,hg1,hc1,hc2,_⟩:=hr.is hne;have hmax:maxLen=9223372036854775807:=rfl;have htl2:ts.length≤4106:=by omega
 clear htl hpl;have hhere:Here w1 g ts:=(hr.here htr (by omega)).1;go_wp2_with fail
 refine(refMasked_any (some ⟨g,0,none⟩) ts.length cap2 ts _ rfl hhere.reads (by omega)).mono ?_;rintro e w2 ⟨rfl,hb2⟩;have hmk:=Crc.mask_lt (Crc.crc ts);have hte:Frame.le4 (Crc.mask (Crc.crc ts))=Frame.tail ts:=rfl;obtain⟨mk,hmkd⟩: ∃mk,mk=Crc.mask (Crc.crc ts):=⟨_,rfl⟩;rw[←hmkd] at hmk hte ⊢;have HTE:=Lib.hid hte;clear hte hmkd;have hh2:=hhere.below hb2;have hbz:=hb.size;have hb12:=hb.trans (hb2.mono hbz);have hlit:=Row.lit1 w2 90;unfold Row at hlit;have hbl2:Below w2.heap.size w2 (w2.alloc (.cells #[.int .u8 90] 5)):=(Below.refl _ _).alloc (Nat.le_refl _) _;clear hb2 hr hhere;go_wp2_with (at_builtin;go_loud (refine wpList_append_own _ rfl _ _ 39 rfl w2.heap.size 5 i0 (.int .u8 0) 1 1 Tryz.underlying39 hi hz0 hz1 hz2 rfl (by decide) _ _ _ rfl hlit ⟨g,0,none⟩ ts.length cap2 (ts.map (Value.int .u8)) rfl (by simp) ((hh2.below hbl2).reads.news) (ints_oneCell .u8 _) (by unfold maxLen;simp;omega) (by simp;omega) (by simp) ?_))
 intro v3 w3 hown3 hg3 _;have hb3:=hbl2.grown hg3 (by simp) (fun k hk=>by simp [Value.ownBlock] at hk;omega);have hlit4: ∀(p q r s:Int) (j:Nat) (u:Value),[Value.int .u8 p,.int .u8 q,.int .u8 r,.int .u8 s][j]?=some u→(w3.alloc (.cells #[.int .u8 p,.int .u8 q,.int .u8 r,.int .u8 s] 5)).cell? ((⟨w3.heap.size,0,none⟩:Addr).add j)=some u:=by
  intro p q r s j u hj;match j,hj with
  | 0,hj=>simp at hj;subst hj;simp [Addr.add]
  | 1,hj=>simp at hj;subst hj;simp [Addr.add]
  | 2,hj=>simp at hj;subst hj;simp [Addr.add]
  | 3,hj=>simp at hj;subst hj;simp [Addr.add]
 have hw23:=hb3.size;have hown3':=hown3;clear hown3 hg3 hlit hbl2 hh2;go_wp2_with (at_builtin;go_loud (refine wpList_append_own _ rfl _ _ 39 rfl w2.heap.size 5 i0 (.int .u8 0) 1 1 Tryz.underlying39 hi hz0 hz1 hz2 rfl (by decide) _ _ _ rfl (hown3'.alloc _) ⟨w3.heap.size,0,none⟩ 4 4 [.int .u8 ((mk:Int) % 256),.int .u8 ((mk:Int) / 256 % 256),.int .u8 ((mk:Int) / 65536 % 256),.int .u8 ((mk:Int) / 16777216)] rfl rfl (hlit4 _ _ _ _) (ints_oneCell .u8 [(mk:Int) % 256,(mk:Int) / 256 % 256,(mk:Int) / 65536 % 256,(mk:Int) / 16777216]) (by unfold maxLen;simp;omega) (by simp;omega) (by simp;omega) ?_))
 intro v4 w4 hown4 hg4 _;have hb4:=(hb3.alloc hw23 (.cells #[.int .u8 ((mk:Int) % 256),.int .u8 ((mk:Int) / 256 % 256),.int .u8 ((mk:Int) / 65536 % 256),.int .u8 ((mk:Int) / 16777216)] 5)).grown hg4 (by simp;omega) (fun k hk=>(hown3'.lt k hk).1);have hF:Frame.frameOf zs=90::(ts++ [(mk:Int) % 256,(mk:Int) / 256 % 256,(mk:Int) / 65536 % 256,(mk:Int) / 16777216]):=by
  unfold Frame.frameOf;rw[←HTX.out,←HTE.out];simp only[Frame.le4];congr 4
 have hrow:Row w4 w.heap.size (Frame.frameOf zs) v4:=by
  refine Row.less (B:=w2.heap.size) ?_ hb12.size;unfold Row;rw[hF];have e:1+ts.length+4=(90::(ts++ [(mk:Int) % 256,(mk:Int) / 256 % 256,(mk:Int) / 65536 % 256,(mk:Int) / 16777216])).length:=by simp;omega
  rw[←e];simpa using hown4
 have HF:=Lib.hid hF;have HBB:=Lib.hid (hb12.trans (hb4.mono hb12.size));have HROW:=Lib.hid hrow;have hnef:Frame.frameOf zs≠ []:=by unfold Frame.frameOf;simp
 obtain⟨g4,c4,rfl,_⟩:=hrow.is hnef;clear hown4 hg4 hown3' hlit4 hb12 hb3 hb4 hb hF hrow;go_wp2
 go_ret2
 exact⟨g4,c4,rfl,HROW.out,HBB.out⟩
end Go.Proofs.YtalfbcbnljhldaaGreatDoor

set_option linter.unusedSimpArgs false
namespace Go.Proofs.YtalfbcbnljhldaaGreatDoor
open Go.Lib (hid)
open Go.RowKit Go.Maps Dsk Wl
theorem wp_append_run {P:Program} {o:Oper} {a:Act} {w w':World} {v v' x:Value} {s y:Operand} {t:TypeId} {K:Act→World→Prop} {Q:Exit→Act→World→Prop}
  (ho:o.op= .call {callee:= .builtin .append,args:= #[s,y],argTypes:= #[t,t]}) (hs:a.eval s=v) (hx:a.eval y=x) (hr:(Builtin.append_ #[t,t] o.type #[v,x]).run P w= .ok v' w') (hk:K (a.put o.dst v') w'):o.wp P a w K Q:=by
 unfold Oper.wp execOp;simp only[ho,resolve,invoke,builtin,Sem.run_bind,Sem.run_pure,Result.andThen_ok,List.map_toArray,List.map_cons,List.map_nil,hs,hx,hr];exact hk
set_option maxRecDepth 100000 in
set_option maxHeartbeats 1000000 in
theorem refRecord_zero (t:Int) (x:Value) (w:World):Calls Tryz.prog 39 #[.agg #[.int .u64 0,.int .u64 t,x]] w fun r w'=>r= .returned (.tuple #[.slice none 0 0,.int .i64 2])∧Below w.heap.size w w':=by
 go_enter Tryz.func39,Tryz.ntmps39
 go_wp2
 go_ret2
 exact⟨rfl,(Below.refl _ _).alloc (Nat.le_refl _) _⟩
set_option maxRecDepth 100000 in
set_option maxHeartbeats 1000000 in
theorem refRecord_long (n t:Int) (a:Option Addr) (len c:Nat) (w:World) (hn:n≠0) (hl:2000<len):Calls Tryz.prog 39 #[.agg #[.int .u64 n,.int .u64 t,.slice a len c]] w fun r w'=>r= .returned (.tuple #[.slice none 0 0,.int .i64 3])∧Below w.heap.size w w':=by
 have hd:(n == 0)=false:=by simpa using hn
 have hd2:decide ((2000:Int)<(len:Int))=true:=by simp;omega
 go_enter Tryz.func39,Tryz.ntmps39
 go_wp2
 go_ret2
 exact⟨rfl,(Below.refl _ _).alloc (Nat.le_refl _) _⟩
set_option maxRecDepth 100000 in
set_option maxHeartbeats 4000000 in
theorem refRecord_any (e:Ent) (a:Option Addr) (c:Nat) (w:World) (he:e.ok) (hp:Reads w a e.body):
  Calls Tryz.prog 39 #[.agg #[.int .u64 (e.ix:Int),.int .u64 (e.term:Int),.slice a e.body.length c]] w fun r w'=> ∃g c',r= .returned (.tuple #[.slice (some ⟨g,0,none⟩) (recOf e).length c',.int .i64 0])∧Row w' w.heap.size (recOf e) (.slice (some ⟨g,0,none⟩) (recOf e).length c')∧Below w.heap.size w w':=by
 obtain⟨i0,hi,hz0,hz1,hz2⟩:=info_parts info5;have hd:((e.ix:Int) == 0)=false:=by rw[beq_eq_false_iff_ne];have:=he.1;omega
 have hd2:decide ((2000:Int)<(e.body.length:Int))=false:=by have:=he.2.2.2.1;simp;omega
 have hw1:Below w.heap.size w (w.alloc (.cells #[.int .u64 (e.ix:Int),.int .u64 (e.term:Int),.slice a e.body.length c] 55)):=(Below.refl _ _).alloc (Nat.le_refl _) _;have hb1:(w.alloc (.cells #[.int .u64 (e.ix:Int),.int .u64 (e.term:Int),.slice a e.body.length c] 55)).heap[w.heap.size]?=some (.cells #[.int .u64 (e.ix:Int),.int .u64 (e.term:Int),.slice a e.body.length c] 55 (0,0)):=heap_alloc_new _ _;have hcv:=(hp.below hw1).text e.body.length c rfl;have hsz:=strOfNums_size e.body;have hbl:=bl_str he.2.2.2.2;have hbn:=he.2.2.2.1;have hlen:=rec_len he;generalize hS:strOfNums e.body=S at*;have HN:=hid he.2.1;have HT:=hid he.2.2.1;have HBN:=hid hbn;have HB1:=hid hb1;have HW1:=hid hw1;have HLEN:=hid hlen;have HI:=hid hi;have HZ0:=hid hz0;have HZ1:=hid hz1;have HZ2:=hid hz2;clear hi hz0 hz1 hz2;have HPT:=hid (fun W=>refPutText_any S (by omega) W);rw[hbl,hsz] at HPT;obtain⟨tt,htt⟩: ∃tt,tt=Num.put e.body.length++e.body:=⟨_,rfl⟩;rw[←htt] at HPT;have hne:tt≠ []:=by rw[htt];exact fun h=>Num.enc_ne 9 e.body.length (List.append_eq_nil_iff.1 h).1
 have HTL:=hid (show tt.length≤2010 by rw[htt,List.length_append];have:=Num.put_len e.body.length;omega);have HTT:=hid htt;have HNE:=hid hne;clear htt hne hS hbn hlen he hsz hbl hp hb1 hw1;go_enter Tryz.func39,Tryz.ntmps39
 go_wp2_with fail
 refine(HPT.out _).mono ?_;rintro r w2 ⟨v2,rfl,hr2,hb2⟩;obtain⟨g2,cap2,rfl,hg20,hg21,_,_,_⟩:=hr2.is HNE.out;have hz12:=hb2.size;have HEB:=hid ((hb2.block w.heap.size (by simp)).trans HB1.out);have HC0:=hid (show∀W,Below w2.heap.size w2 W→W.cell? ⟨w.heap.size,0,none⟩=some (.int .u64 (e.ix:Int)) from fun W h=>by
  rw[cell_of_row W w.heap.size 0 _ _ _ ((h.block w.heap.size (lt_of_block HEB.out)).trans HEB.out)];rfl)
 have HC1:=hid (show∀W,Below w2.heap.size w2 W→W.cell? ⟨w.heap.size,1,none⟩=some (.int .u64 (e.term:Int)) from fun W h=>by
  rw[cell_of_row W w.heap.size 1 _ _ _ ((h.block w.heap.size (lt_of_block HEB.out)).trans HEB.out)];rfl)
 have HR2:=hid hr2;have B2:=hid (HW1.out.trans (hb2.mono HW1.out.size));have HG2:=hid hg21;clear hr2 hb2 hg21;go_wp2_with fail
 refine wp_region_held_drew (S:=fun W=>Below w2.heap.size w2 W) (by kernel_rfl) (Below.refl _ _).drew (fun hHeld=>?_);refine zkH 0 (v:=?_) (h2:=?_) (h:=?_);rotate_left;focus (intro W hS;(try dsimp only at hS);go_simp;(try with_reducible rfl))
 try simp only[Act.put,zsA,zsS,zsZ]
 refine zkH 1 (v:=?_) (h2:=?_) (h:=?_);rotate_left;focus (intro W hS;(try dsimp only at hS);have q:=HC0.out W hS;go_simp;(try with_reducible rfl))
 try simp only[Act.put,zsA,zsS,zsZ]
 refine zkH 3 (v:=?_) (h2:=?_) (h:=?_);rotate_left;focus (intro W hS;(try dsimp only at hS);go_simp;(try with_reducible rfl))
 try simp only[Act.put,zsA,zsS,zsZ]
 refine zkH 4 (v:=?_) (h2:=?_) (h:=?_);rotate_left;focus (intro W hS;(try dsimp only at hS);have q:=HC1.out W hS;go_simp;(try with_reducible rfl))
 try simp only[Act.put,zsA,zsS,zsZ]
 refine zkH 7 (v:=?_) (h2:=?_) (h:=?_);rotate_left;focus (intro W hS;(try dsimp only at hS);go_simp;(try with_reducible rfl))
 try simp only[Act.put,zsA,zsS,zsZ]
 refine zrH 2 (h:=fun K hK=>?_);rw[if_pos (by rfl)];go_simp
 refine(refPut_any 9 e.ix _ (Nat.le_refl _) (Nat.lt_trans HN.out (by decide)) HN.out).mono ?_;rintro r w3 ⟨v3,rfl,hr3,hb3⟩;have h3:=(Below.refl w2.heap.size w2).drew.trans hb3;obtain⟨g3,cap3,rfl,_,_,_,_,_⟩:=hr3.is (Num.enc_ne 9 e.ix);have HR3:=hid (show Row w3 w2.heap.size (Num.put e.ix) (.slice (some ⟨g3,0,none⟩) (Num.put e.ix).length cap3) from hr3);clear hr3 hb3;go_wp2_with fail
 refine hK.out _ _ h3 (fun hHeld=>?_);clear hK K;try simp only[Act.put,zsA,zsS,zsZ]
 refine zrH 5 (h:=fun K hK=>?_);rw[if_pos (by rfl)];go_simp
 refine(refPut_any 9 e.term _ (Nat.le_refl _) (Nat.lt_trans HT.out (by decide)) HT.out).mono ?_;rintro r w4 ⟨v4,rfl,hr4,h4⟩;obtain⟨g4,cap4,rfl,hg40,_,_,_,_⟩:=hr4.is (Num.enc_ne 9 e.term);have HR4:=hid (show Row w4 w3.heap.size (Num.put e.term) (.slice (some ⟨g4,0,none⟩) (Num.put e.term).length cap4) from hr4);have h34:=h3.trans (h4.mono h3.size);clear hr4;go_wp2_with fail
 refine hK.out _ _ h34 (fun hHeld=>?_);clear hK K;try simp only[Act.put,zsA,zsS,zsZ]
 have hl3:=Num.put_len e.ix;have hl4:=Num.put_len e.term;obtain⟨v5,w5,hrun5,hown5,hgr5,_⟩:=run_append_own (P:=Tryz.prog) w4 w2.heap.size 39 39 5 i0 (.int .u8 0) 1 1 Tryz.underlying39 HI.out HZ0.out HZ1.out HZ2.out rfl (by decide) _ _ _ (HR3.out.below h4) ⟨g4,0,none⟩ (Num.put e.term).length cap4 ((Num.put e.term).map (Value.int .u8)) (by simp) (HR4.out.news (Below.refl _ _) rfl) (ints_oneCell .u8 _) (by unfold maxLen;omega) (by omega) h34.size;have h5:Below w2.heap.size w2 w5:=h34.grown hgr5 h34.size (fun k hk=>(HR3.out.own k hk).1);rw[←List.map_append,←List.length_append] at hown5;have HR5:=hid (show Row w5 w2.heap.size (Num.put e.ix++Num.put e.term) v5 from hown5);clear hown5 hgr5;refine zrH 6 (h:=fun K hK=>?_);rw[if_pos (by rfl)];refine wp_append_run rfl rfl rfl hrun5 ?_;refine hK.out _ _ h5 (fun hHeld=>?_);clear hK K;clear hrun5;try simp only[Act.put,zsA,zsS,zsZ]
 obtain⟨v6,w6,hrun6,hown6,hgr6,_⟩:=run_append_own (P:=Tryz.prog) w5 w2.heap.size 39 39 5 i0 (.int .u8 0) 1 1 Tryz.underlying39 HI.out HZ0.out HZ1.out HZ2.out rfl (by decide) _ _ _ HR5.out ⟨g2,0,none⟩ tt.length cap2 (tt.map (Value.int .u8)) (by simp) (HR2.out.news h5 rfl) (ints_oneCell .u8 _) (by have:=HTL.out;unfold maxLen;simp;omega) (by have:=HTL.out;simp;omega) h5.size;have h6:Below w2.heap.size w2 w6:=h5.grown hgr6 h5.size (fun k hk=>(HR5.out.own k hk).1);rw[←List.map_append,←List.length_append] at hown6;have hrec:Num.put e.ix++Num.put e.term++tt=recOf e:=by simp [recOf,HTT.out]
 rw[hrec] at hown6;have HR6:=hid (show Row w6 w2.heap.size (recOf e) v6 from hown6);clear hown6 hgr6 hrec;refine zrH 8 (h:=fun K hK=>?_);rw[if_pos (by rfl)];refine wp_append_run rfl rfl rfl hrun6 ?_;refine hK.out _ _ h6 (fun hHeld=>?_);clear hK K;clear hrun6;try simp only[Act.put,zsA,zsS,zsZ]
 refine zkH 9 (v:=?_) (h2:=?_) (h:=?_);rotate_left;focus (intro W hS;(try dsimp only at hS);go_simp;(try with_reducible rfl))
 try simp only[Act.put,zsA,zsS,zsZ]
 refine zkH 10 (v:=?_) (h2:=?_) (h:=?_);rotate_left;focus (intro W hS;(try dsimp only at hS);go_simp;(try with_reducible rfl))
 try simp only[Act.put,zsA,zsS,zsZ]
 refine wpAnyH_done (by kernel_rfl) ?_ _;have hrne:recOf e≠ []:=by
  unfold recOf;exact fun h=>Num.enc_ne 9 e.ix (List.append_eq_nil_iff.1 h).1
 obtain⟨g6,c6,rfl,_,_,_,_,_⟩:=HR6.out.is hrne;go_wp2
 go_ret2
 exact⟨g6,c6,rfl,HR6.out.less B2.out.size,B2.out.trans (h6.mono B2.out.size)⟩
end Go.Proofs.YtalfbcbnljhldaaGreatDoor
