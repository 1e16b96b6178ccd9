/-  -/
import Derived.Lib.EndianBits
import Derived.Laws.BitsAllLaws
import Derived.Test.YtalfbcbnljhldaaGreatDoorMaa
import Derived.Sort.KeysCollected
import Derived.Lib.ParseIntB
namespace Go.Proofs.YtalfbcbnljhldaaGreatDoor.Crc
def D:Nat:=2197175160
def M:Nat:=4294967295
theorem M_bit (j:Nat):M.testBit j=decide (j<32):=by
 have:=Nat.testBit_two_pow_sub_one 32 j;exact this
def step (x:Nat):Nat:=(x / 2) ^^^ (if x.testBit 0 then D else 0)
theorem step_bit (x j:Nat):(step x).testBit j=(x.testBit (j+1) ^^ (x.testBit 0&&D.testBit j)):=by
 unfold step;rw[Nat.testBit_xor,Nat.testBit_div_two];cases x.testBit 0<;>simp
theorem step_lt {x:Nat} (h:x<4294967296):step x<4294967296:=by
 unfold step;have h1:x / 2<2 ^ 32:=by omega
 have h2:(if x.testBit 0 then D else 0)<2 ^ 32:=by split<;>decide
 exact Nat.xor_lt_two_pow h1 h2
theorem step_xor (a b:Nat):step (a ^^^ b)=step a ^^^ step b:=by
 apply Nat.eq_of_testBit_eq;intro j;simp only[Nat.testBit_xor,step_bit];generalize a.testBit (j+1)=p;generalize b.testBit (j+1)=q;generalize a.testBit 0=r;generalize b.testBit 0=s;generalize D.testBit j=t;revert p q r s t
 decide
def steps:Nat→Nat→Nat
 | 0,x=>x
 | k+1,x=>step (steps k x)
theorem steps_lt {x:Nat} (h:x<4294967296): ∀k,steps k x<4294967296
 | 0=>h
 | k+1=>step_lt (steps_lt h k)
theorem steps_xor (a b:Nat): ∀k,steps k (a ^^^ b)=steps k a ^^^ steps k b
 | 0=>rfl
 | k+1=>by simp only[steps];rw[steps_xor a b k,step_xor]
theorem steps_add (x j:Nat): ∀k,steps (j+k) x=steps k (steps j x)
 | 0=>rfl
 | k+1=>by show step (steps (j+k) x)=step (steps k (steps j x));rw[steps_add x j k]
theorem steps_pow: ∀(k t:Nat),steps k (t*2 ^ k)=t
 | 0,t=>by simp [steps]
 | k+1,t=>by
  show step (steps k _)=t;rw[show t*2 ^ (k+1)=(t*2)*2 ^ k by rw[Nat.pow_succ,Nat.mul_assoc,Nat.mul_comm 2],steps_pow k];apply Nat.eq_of_testBit_eq;intro j;rw[step_bit];rw[Nat.testBit_succ,Nat.mul_div_cancel _ (by decide)];simp
theorem split_pow (x k:Nat):x=(x / 2 ^ k*2 ^ k) ^^^ (x % 2 ^ k):=by
 apply Nat.eq_of_testBit_eq;intro j;rw[Nat.testBit_xor,Nat.testBit_mul_two_pow,Nat.testBit_mod_two_pow,Nat.testBit_div_two_pow];by_cases h:k≤j
 ·have: ¬j<k:=by omega
  simp [h,this]
 ·have:j<k:=by omega
  simp [h,this]
theorem steps_half (x:Nat):steps 4 x=(x / 16) ^^^ steps 4 (x % 16):=by
 conv=>lhs;rw[split_pow x 4]
 rw[steps_xor,steps_pow]
def L (x:Nat) (r:Nat→Bool):Nat→Nat
 | 0=>x
 | i+1=>step (L x r i ^^^ (r i).toNat)
theorem L_lt {x:Nat} (h:x<4294967296) (r:Nat→Bool): ∀i,L x r i<4294967296
 | 0=>h
 | i+1=>by
  apply step_lt;have h1:L x r i<2 ^ 32:=L_lt h r i;have h2:(r i).toNat<2 ^ 32:=Nat.lt_of_le_of_lt (Bool.toNat_le _) (by decide);exact Nat.xor_lt_two_pow h1 h2
theorem bit_toNat (m:Nat):(m.testBit 0).toNat=m % 2:=by
 rw[Nat.testBit_zero];have:=Nat.mod_two_eq_zero_or_one m;rcases this with h | h<;>simp [h]
theorem L_block (x:Nat) (r:Nat→Bool) (i:Nat): ∀(k m:Nat),(∀t,t<k→r (i+t)=m.testBit t)→m<2 ^ k→L x r (i+k)=steps k (L x r i ^^^ m)
 | 0,m,_,hm=>by
  have:m=0:=by simpa using hm
  subst this;simp [steps]
 | k+1,m,h,hm=>by
  show step (L x r (i+k) ^^^ (r (i+k)).toNat)=step (steps k _);have hlow: ∀t,t<k→r (i+t)=(m % 2 ^ k).testBit t:=fun t ht=>by
   rw[h t (by omega),Nat.testBit_mod_two_pow];simp [ht]
  rw[L_block x r i k (m % 2 ^ k) hlow (Nat.mod_lt _ (Nat.two_pow_pos k))];have htop:(r (i+k)).toNat=m / 2 ^ k:=by
   have h1:m / 2 ^ k<2:=Nat.div_lt_of_lt_mul (by rw[←Nat.pow_succ];exact hm);rw[h k (by omega),show m.testBit k=(m / 2 ^ k).testBit 0 by rw[Nat.testBit_div_two_pow,Nat.zero_add],bit_toNat,Nat.mod_eq_of_lt h1]
  rw[htop];conv=>rhs;rw[split_pow m k]
  simp only[steps_xor,steps_pow];rw[Nat.xor_comm (m / 2 ^ k),Nat.xor_assoc]
def raw (zs:List Int) (m:Nat):Bool:=(zs.getD (m / 8) 0).toNat.testBit (m % 8)
theorem raw_end (zs:List Int) (m:Nat) (h:8*zs.length≤m):raw zs m=false:=by
 unfold raw;rw[List.getD,List.getElem?_eq_none (by omega)];simp
theorem L_byte (x:Nat) (zs:List Int) (k:Nat) (hr:0≤zs.getD k 0∧zs.getD k 0≤255):
  L x (raw zs) (8*(k+1))=steps 8 (L x (raw zs) (8*k) ^^^ (zs.getD k 0).toNat):=by
 rw[show 8*(k+1)=8*k+8 by omega];apply L_block
 ·intro t ht
  unfold raw;rw[show(8*k+t) / 8=k by omega,show(8*k+t) % 8=t by omega]
 ·have:(zs.getD k 0).toNat<256:=by omega
  exact this
def crc (zs:List Int):Nat:=M ^^^ L M (raw zs) (8*zs.length)
def on (c:Nat) (zs:List Int):Nat:=M ^^^ L (M ^^^ c) (raw zs) (8*zs.length)
theorem M_lt:M<4294967296:=by decide
theorem xor_lt {a b:Nat} (ha:a<4294967296) (hb:b<4294967296):a ^^^ b<4294967296:=
 Nat.xor_lt_two_pow (n:=32) ha hb
theorem crc_lt (zs:List Int):crc zs<4294967296:=xor_lt M_lt (L_lt M_lt _ _)
theorem on_zero (zs:List Int):on 0 zs=crc zs:=by unfold on crc;rw[Nat.xor_zero]
def P (k:Nat):Nat:= [28,27,26,25,23,22,20,19,18,14,13,11,10,9,8,6,0].getD k 0
def T:Nat→Nat→Bool
 | 0,_=>false
 | k+1,j=>T k j ^^ decide (j=32 - P k)
theorem T_high (j:Nat) (h:32<j): ∀k,T k j=false
 | 0=>rfl
 | k+1=>by simp only[T];rw[T_high j h k];simp;omega
theorem T_D (j:Nat):T 17 (j+1)=D.testBit j:=by
 by_cases h:j<32
 ·have hall: ∀j,j<32→T 17 (j+1)=D.testBit j:=by decide
  exact hall j h
 ·rw[T_high _ (by omega),Nat.testBit_lt_two_pow]
  exact Nat.lt_of_lt_of_le (show D<2 ^ 32 by decide) (Nat.pow_le_pow_right (by decide) (by omega))
def Left (r:Nat→Bool) (i:Nat) (f:Nat→Bool):Prop:= ∀m,i≤m→f m=((L M r i).testBit (m - i) ^^ r m)
theorem Left.zero {r f:Nat→Bool} (h: ∀m,f m=(r m ^^ decide (m<32))):Left r 0 f:=fun m _=>by
 rw[h m,show L M r 0=M from rfl,Nat.sub_zero,M_bit,Bool.xor_comm]
theorem Left.low {r f:Nat→Bool} {i:Nat} (h:Left r i f):f i=(L M r i ^^^ (r i).toNat).testBit 0:=by
 rw[h i (Nat.le_refl _),Nat.sub_self,Nat.testBit_xor];congr 1
 cases r i<;>rfl
theorem bool_bit (b:Bool) (j:Nat):b.toNat.testBit (j+1)=false:=by
 apply Nat.testBit_lt_two_pow;have:=Bool.toNat_le b;have:2 ^ 1≤2 ^ (j+1):=Nat.pow_le_pow_right (by decide) (by omega);omega
theorem Left.next0 {r f:Nat→Bool} {i:Nat} (h:Left r i f) (h0:f i=false):Left r (i+1) f:=fun m hm=>by
 obtain⟨j,rfl⟩: ∃j,m=i+1+j:=⟨m - (i+1),by omega⟩;rw[show i+1+j - (i+1)=j by omega];simp only[L];rw[step_bit,←h.low,h0,Bool.false_and,Bool.xor_false,Nat.testBit_xor,bool_bit,Bool.xor_false,h _ (by omega)];congr 2
 omega
theorem Left.next1 {r f g:Nat→Bool} {i:Nat} (h:Left r i f) (h1:f i=true) (hg: ∀m,i<m→g m=(f m ^^ T 17 (m - i))):Left r (i+1) g:=fun m hm=>by
 obtain⟨j,rfl⟩: ∃j,m=i+1+j:=⟨m - (i+1),by omega⟩;rw[hg _ (by omega),show i+1+j - (i+1)=j by omega,show i+1+j - i=j+1 by omega,T_D];simp only[L];rw[step_bit,←h.low,h1,Bool.true_and,Nat.testBit_xor,bool_bit,Bool.xor_false,h _ (by omega),show i+1+j - i=j+1 by omega];generalize (L M r i).testBit (j+1)=x;generalize D.testBit j=y;generalize r (i+1+j)=z;revert x y z
 decide
theorem top_bits (X i:Nat):X / 2 ^ i=2*(X / 2 ^ (i+1))+(X.testBit i).toNat:=by
 rw[show X.testBit i=(X / 2 ^ i).testBit 0 by rw[Nat.testBit_div_two_pow,Nat.zero_add],bit_toNat,Nat.pow_succ,←Nat.div_div_eq_div_mul];omega
theorem not_bit (X i:Nat) (hi:i<32):(M ^^^ X).testBit i=!X.testBit i:=by
 rw[Nat.testBit_xor,M_bit];simp [hi]
theorem Left.last {r f:Nat→Bool} {n:Nat} (h:Left r n f) (hr: ∀m,n≤m→r m=false) (i:Nat) (hi:i<32):(!f (n+i))=(M ^^^ L M r n).testBit i:=by
 rw[not_bit _ _ hi,h _ (by omega),hr _ (by omega),Bool.xor_false,Nat.add_sub_cancel_left]
def mask (c:Nat):Nat:=(c / 32768+c % 32768*131072+2726488792) % 4294967296
theorem mask_lt (c:Nat):mask c<4294967296:=Nat.mod_lt _ (by decide)
theorem turn_lt {a:Nat} (ha:a<4294967296):a / 32768+a % 32768*131072<4294967296:=by omega
end Go.Proofs.YtalfbcbnljhldaaGreatDoor.Crc

namespace Go.Proofs.YtalfbcbnljhldaaGreatDoor
open Num (dec enc put)
theorem Num.dec_back: ∀(f k acc:Nat) (l:List Int) (n j:Nat),(∀x∈l,0≤x∧x≤255)→dec (f+1) k acc l=some (n,j)→
  ∃q,n=acc+q*128 ^ k∧l.take (j - k)=enc f q∧j=k+(enc f q).length∧(0<k→0<q)
 | _,_,_,[],_,_,_,h=>by simp [dec] at h
 | f,k,acc,c::r,n,j,hr,h=>by
  have hc:=hr c (by simp);by_cases h1:c=0∧0<k
  ·rw[Num.dec_zero h1.1 h1.2] at h;cases h
  ·by_cases h2:9≤k∧1<c
   ·rw[Num.dec_tenth h2.2 h2.1] at h;cases h
   ·by_cases h3:c<128
    ·rw[Num.dec_last h1 h2 h3] at h
     simp only[Option.some.injEq,Prod.mk.injEq] at h;obtain⟨rfl,rfl⟩:=h;refine⟨c.toNat,rfl,?_,?_,fun hk=>by omega⟩
     ·rw[Num.enc_small _ _ (by omega),show k+1 - k=1 by omega]
      simp;omega
     ·rw[Num.enc_small _ _ (by omega)];rfl
    ·rw[Num.dec_more h1 h2 h3] at h
     cases f with
     | zero=>simp [dec] at h
     | succ f=>
      obtain⟨q,hn,ht,hj,hq⟩:=Num.dec_back f (k+1) _ r n j (fun x hx=>hr x (by simp [hx])) h;have hq0:=hq (by omega);have hb: ¬(c.toNat % 128+128*q)<128:=by omega
      have e1:(c.toNat % 128+128*q) / 128=q:=by omega
      have e2:(((c.toNat % 128+128*q) % 128+128:Nat):Int)=c:=by omega
      refine⟨c.toNat % 128+128*q,?_,?_,?_,fun _=>by omega⟩
      ·rw[hn,Nat.pow_succ,Nat.add_mul,Nat.add_assoc]
       congr 2
       rw[Nat.mul_comm 128 q,Nat.mul_assoc,Nat.mul_comm 128 (128 ^ k)]
      ·rw[Num.enc_big _ _ hb,e1,e2]
       obtain⟨i,hi⟩: ∃i,j - k=i+1:=⟨j - k - 1,by omega⟩;rw[hi,List.take_succ_cons,show i=j - (k+1) by omega,ht]
      ·rw[Num.enc_big _ _ hb,e1,List.length_cons];omega
theorem Num.dec_is {l:List Int} {n j:Nat} (hr: ∀x∈l,0≤x∧x≤255) (h:dec 10 0 0 l=some (n,j)):l.take j=put n∧j=(put n).length:=by
 obtain⟨q,hn,ht,hj,_⟩:=Num.dec_back 9 0 0 l n j hr h;obtain rfl:n=q:=by simpa using hn
 exact⟨by simpa [put] using ht,by simpa [put] using hj⟩
namespace Frame
def le4 (c:Nat):List Int:= [((c % 256:Nat):Int),((c / 256 % 256:Nat):Int),((c / 65536 % 256:Nat):Int),((c / 16777216:Nat):Int)]
theorem le4_len (c:Nat):(le4 c).length=4:=rfl
theorem le4_range {c:Nat} (hc:c<4294967296): ∀x∈le4 c,0≤x∧x≤255:=by
 intro x hx;simp only[le4,List.mem_cons,List.not_mem_nil,or_false] at hx;rcases hx with rfl | rfl | rfl | rfl<;>omega
def txt (zs:List Int):List Int:=put zs.length++zs
def tail (t:List Int):List Int:=le4 (Crc.mask (Crc.crc t))
def frameOf (zs:List Int):List Int:=90::(txt zs++tail (txt zs))
theorem txt_len (zs:List Int):(txt zs).length=(put zs.length).length+zs.length:=by simp [txt]
theorem tail_len (t:List Int):(tail t).length=4:=rfl
theorem frame_len (zs:List Int):(frameOf zs).length=1+(put zs.length).length+zs.length+4:=by
 simp [frameOf,txt_len,tail_len];omega
def firstOf (bs:List Int):Option (List Int×Nat):=
 match bs with
 | []=>none
 | h::r=>
  if h=90 then
   match dec 10 0 0 r with
   | none=>none
   | some (n,k)=>if n≤4096∧k+n+4≤r.length∧(r.drop (k+n)).take 4=tail (r.take (k+n)) then some ((r.drop k).take n,1+k+n+4) else none
  else none
theorem first_frame (zs rest:List Int) (hl:zs.length≤4096):firstOf (frameOf zs++rest)=some (zs,(frameOf zs).length):=by
 have hd:dec 10 0 0 (put zs.length++(zs++(tail (txt zs)++rest)))=some (zs.length,(put zs.length).length):=Num.dec_put _ (by omega) _;have e:frameOf zs++rest=90::(put zs.length++(zs++(tail (txt zs)++rest))):=by simp [frameOf,txt]
 have et:put zs.length++(zs++(tail (txt zs)++rest))=txt zs++(tail (txt zs)++rest):=by simp [txt]
 rw[e];simp only[firstOf,if_true,hd];have hk:(put zs.length).length+zs.length=(txt zs).length:=(txt_len zs).symm;have e1:(put zs.length++(zs++(tail (txt zs)++rest))).take ((put zs.length).length+zs.length)=txt zs:=by
  rw[et,hk,List.take_left]
 have e2:((put zs.length++(zs++(tail (txt zs)++rest))).drop ((put zs.length).length+zs.length)).take 4=tail (txt zs):=by
  rw[et,hk,List.drop_left,←tail_len (txt zs),List.take_left]
 have e3:((put zs.length++(zs++(tail (txt zs)++rest))).drop (put zs.length).length).take zs.length=zs:=by
  rw[List.drop_left,List.take_left]
 rw[e1,e2,e3,if_pos ⟨hl,by simp [tail_len];omega,rfl⟩,frame_len]
theorem first_is {bs zs:List Int} {m:Nat} (hr: ∀x∈bs,0≤x∧x≤255) (h:firstOf bs=some (zs,m)):zs.length≤4096∧m=(frameOf zs).length∧bs.take m=frameOf zs∧m≤bs.length:=by
 cases bs with
 | nil=>cases h
 | cons b r=>
  simp only[firstOf] at h;by_cases hb:b=90
  ·subst hb
   rw[if_pos rfl] at h;cases hd:dec 10 0 0 r with
   | none=>rw[hd] at h;cases h
   | some nk=>
    obtain⟨n,k⟩:=nk;rw[hd] at h;dsimp only at h;by_cases hc:n≤4096∧k+n+4≤r.length∧(r.drop (k+n)).take 4=tail (r.take (k+n))
    ·rw[if_pos hc] at h
     simp only[Option.some.injEq,Prod.mk.injEq] at h;obtain⟨rfl,rfl⟩:=h;obtain⟨hp,hk⟩:=Num.dec_is (fun x hx=>hr x (by simp [hx])) hd;obtain⟨h1,h2,h3⟩:=hc;have hlen:((r.drop k).take n).length=n:=by rw[List.length_take,List.length_drop];omega
     have htx:r.take (k+n)=txt ((r.drop k).take n):=by
      rw[List.take_add,hp,txt,hlen]
     refine⟨by omega,?_,?_,by simp;omega⟩
     ·rw[frame_len,hlen,←hk]
     ·rw[show 1+k+n+4=(k+n+4)+1 by omega,List.take_succ_cons,List.take_add,h3,htx]
      rfl
    ·rw[if_neg hc] at h;cases h
  ·rw[if_neg hb] at h;cases h
theorem first_iff {bs:List Int} (hr: ∀x∈bs,0≤x∧x≤255) (zs:List Int) (m:Nat):
  firstOf bs=some (zs,m)↔zs.length≤4096∧m=(frameOf zs).length∧bs.take m=frameOf zs:=by
 constructor
 ·intro h
  obtain⟨h1,h2,h3,_⟩:=first_is hr h;exact⟨h1,h2,h3⟩
 ·rintro⟨h1,rfl,h3⟩
  have e:=List.take_append_drop (frameOf zs).length bs;rw[h3] at e;rw[←e];exact first_frame zs _ h1
theorem txt_range {zs:List Int} (hl:zs.length≤4096) (hr: ∀x∈zs,0≤x∧x≤255): ∀x∈txt zs,0≤x∧x≤255:=by
 intro x hx;rcases List.mem_append.1 hx with h | h
 ·exact Num.enc_range 9 zs.length (Nat.lt_of_le_of_lt hl (by decide)) x h
 ·exact hr x h
theorem frame_range {zs:List Int} (hl:zs.length≤4096) (hr: ∀x∈zs,0≤x∧x≤255): ∀x∈frameOf zs,0≤x∧x≤255:=by
 intro x hx;rcases List.mem_cons.1 hx with rfl | hx
 ·omega
 ·rcases List.mem_append.1 hx with h | h
  ·exact txt_range hl hr x h
  ·exact le4_range (Crc.mask_lt _) x h
inductive Scans:List Int→List (List Int)→Nat→Prop
 | stop {bs} :firstOf bs=none→Scans bs [] 0
 | more {bs zs m l g} :firstOf bs=some (zs,m)→Scans (bs.drop m) l g→Scans bs (zs::l) (m+g)
theorem frame_ends {m p z g b l:Nat} (h2:m=1+p+z+4) (h7:1≤p) (h4:m≤b) (h5:g≤b - m∧6*l≤g):m+g≤b∧6*(l+1)≤m+g:=by omega
theorem Scans.le {bs:List Int} {l:List (List Int)} {g:Nat} (h:Scans bs l g):(∀x∈bs,0≤x∧x≤255)→g≤bs.length∧6*l.length≤g:=by
 induction h with
 | stop _=>intro _;simp
 | more h0 _ ih=>
  intro hr;obtain⟨_,h2,_,h4⟩:=first_is hr h0;have h5:=ih (fun x hx=>hr x (List.mem_of_mem_drop hx));rw[frame_len] at h2;rw[List.length_drop] at h5;simp only[List.length_cons];exact frame_ends h2 (Num.put_len _).1 h4 h5
end Frame
end Go.Proofs.YtalfbcbnljhldaaGreatDoor

namespace Go.Proofs.YtalfbcbnljhldaaGreatDoor.Dsk
structure Ver where
 there:Bool
 bs:List Int
 whole:Nat
structure Fil where
 sure:Ver
 later:List Ver
 loose:Bool
def Ver.zero:Ver:=⟨false,[],0⟩
def Fil.zero:Fil:=⟨Ver.zero,[],false⟩
def Ver.ok (v:Ver):Prop:=v.whole≤v.bs.length∧v.bs.length≤1048576∧ ∀x∈v.bs,0≤x∧x≤255
def Fil.ok (f:Fil):Prop:=f.sure.ok∧ ∀v∈f.later,v.ok
theorem Ver.zero_ok:Ver.zero.ok:=⟨Nat.le_refl _,by simp [Ver.zero],fun x hx=>by cases hx⟩
theorem Fil.zero_ok:Fil.zero.ok:=⟨Ver.zero_ok,fun v hv=>by cases hv⟩
def Fil.now (f:Fil):Ver:=f.later.getLast?.getD f.sure
theorem Fil.now_nil {f:Fil} (h:f.later= []):f.now=f.sure:=by simp [Fil.now,h]
theorem Fil.now_some {f:Fil} {l:List Ver} {v:Ver} (h:f.later=l++ [v]):f.now=v:=by simp [Fil.now,h]
theorem Fil.now_ok {f:Fil} (h:f.ok):f.now.ok:=by
 unfold Fil.now;cases hl:f.later.getLast? with
 | none=>exact h.1
 | some v=>exact h.2 v (List.mem_of_getLast? hl)
abbrev Name:=List UInt8
abbrev Files:=Name→Option Fil
def Files.at (M:Files) (n:Name):Fil:=(M n).getD Fil.zero
def upd (M:Files) (n:Name) (x:Option Fil):Files:=fun m=>if m=n then x else M m
theorem upd_same (M:Files) (n:Name) (x:Option Fil):upd M n x n=x:=by simp [upd]
theorem upd_other (M:Files) {n m:Name} (x:Option Fil) (h:m≠n):upd M n x m=M m:=by simp [upd,h]
theorem upd_at (M:Files) (n:Name) (f:Fil):(upd M n (some f)).at n=f:=by simp [Files.at,upd]
theorem upd_at_other (M:Files) {n m:Name} (x:Option Fil) (h:m≠n):(upd M n x).at m=M.at m:=by simp [Files.at,upd,h]
def Ver.app (v:Ver) (zs:List Int):Ver:= {v with bs:=v.bs++zs}
def Fil.app (f:Fil) (zs:List Int):Fil:=
 if f.later= [] then {f with sure:=f.sure.app zs,loose:=true} else {f with later:=f.later.dropLast++ [f.now.app zs],loose:=true}
theorem Fil.app_nil {f:Fil} (h:f.later= []) (zs:List Int):f.app zs=⟨f.sure.app zs,[],true⟩:=by
 simp [Fil.app,h]
theorem Fil.app_some {f:Fil} {l:List Ver} {v:Ver} (h:f.later=l++ [v]) (zs:List Int):f.app zs=⟨f.sure,l++ [v.app zs],true⟩:=by
 have hn:=Fil.now_some h;simp [Fil.app,h,hn]
def Fil.chg (f:Fil) (v:Ver):Fil:=⟨f.sure,f.later++ [v],true⟩
theorem Fil.chg_ok {f:Fil} {v:Ver} (h:f.ok) (hv:v.ok):(f.chg v).ok:=⟨h.1,fun x hx=>by
 rcases List.mem_append.1 hx with hx | hx
 ·exact h.2 x hx
 ·simp at hx;subst hx;exact hv⟩
def settled (v:Ver):Option Fil:=if v.there then some ⟨⟨v.there,v.bs,v.bs.length⟩,[],false⟩ else none
def Ver.appended (v:Ver):Nat:=v.bs.length - v.whole
def tornGo:Nat→Ver→List Ver→Nat×Ver
 | p,v,[]=>(p,v)
 | p,v,x::r=>if p≤v.appended then(p,v) else tornGo (p - (v.appended+1)) x r
def tornOf (p:Nat) (v:Ver):Ver:= {v with bs:=v.bs.take (v.whole+min p v.appended)}
def Fil.torn (f:Fil) (p:Nat):Ver:=tornOf (tornGo p f.sure f.later).1 (tornGo p f.sure f.later).2
theorem tornGo_mem: ∀(p:Nat) (v:Ver) (l:List Ver),(tornGo p v l).2=v∨(tornGo p v l).2∈l
 | p,v,[]=> .inl rfl
 | p,v,x::r=>by
  unfold tornGo;split
  ·exact .inl rfl
  ·rcases tornGo_mem (p - (v.appended+1)) x r with h | h
   ·rw[h];exact .inr (.head _)
   ·exact .inr (.tail _ h)
def NamesOf (M:Files) (q:Fil→Bool) (ks:List Name):Prop:=ks.Pairwise (· < ·)∧ ∀n,n∈ks↔ ∃f,M n=some f∧q f=true
theorem sorted_ext: ∀ {a b:List Name},a.Pairwise (· < ·)→b.Pairwise (· < ·)→(∀n,n∈a↔n∈b)→a=b:=by
 intro a b ha hb h;refine List.Perm.eq_of_pairwise (le:=fun x y:Name=>x<y) (fun x y _ _ h1 h2=>absurd (List.lt_trans h1 h2) (List.lt_irrefl x)) ha hb ?_;have nd: ∀ {l:List Name},l.Pairwise (· < ·)→l.Nodup:=fun h=>h.imp fun {x y} hxy=>by
  intro e;subst e;exact List.lt_irrefl _ hxy
 exact(List.perm_ext_iff_of_nodup (nd ha) (nd hb)).2 h
theorem NamesOf.one {M:Files} {q:Fil→Bool} {a b:List Name} (ha:NamesOf M q a) (hb:NamesOf M q b):a=b:=
 sorted_ext ha.1 hb.1 fun n=>(ha.2 n).trans (hb.2 n).symm
theorem NamesOf.nodup {M:Files} {q:Fil→Bool} {a:List Name} (ha:NamesOf M q a):a.Nodup:=ha.1.imp fun {x y} hxy=>by
 intro e;subst e;exact List.lt_irrefl _ hxy
theorem rises {l:List Name} (hs:l.Pairwise (fun a b=>leB a b=true)) (hn:l.Nodup):l.Pairwise (· < ·):=by
 refine(List.Pairwise.and hs hn).imp fun {a b} h=>?_;have h1:a≤b:=by simpa [leB] using h.1
 rcases List.le_iff_lt_or_eq.1 h1 with h2 | h2
 ·exact h2
 ·exact absurd h2 h.2
def crashed (M:Files) (ks:List Name) (stay:Nat→Nat):Files:=fun n=>if n∈ks then settled ((M.at n).torn (stay (ks.idxOf n))) else M n
end Go.Proofs.YtalfbcbnljhldaaGreatDoor.Dsk

namespace Go.Proofs.YtalfbcbnljhldaaGreatDoor.Wl
open Num (dec enc put)
structure Ent where
 ix:Nat
 term:Nat
 body:List Int
deriving DecidableEq
def Ent.ok (e:Ent):Prop:=1≤e.ix∧e.ix<18446744073709551616∧e.term<18446744073709551616∧e.body.length≤2000∧ ∀x∈e.body,0≤x∧x≤255
def recOf (e:Ent):List Int:=put e.ix++(put e.term++(put e.body.length++e.body))
def parseOf (bs:List Int):Option Ent:=
 match dec 10 0 0 bs with
 | none=>none
 | some (n,k)=>match dec 10 0 0 (bs.drop k) with
  | none=>none
  | some (t,j)=>match dec 10 0 0 (bs.drop (k+j)) with
   | none=>none
   | some (m,i)=>if m≤2000∧k+j+i+m=bs.length∧n≠0 then some ⟨n,t,bs.drop (k+j+i)⟩ else none
theorem rec_len {e:Ent} (h:e.ok):3≤(recOf e).length∧(recOf e).length≤2030:=by
 have h1:=Num.put_len e.ix;have h2:=Num.put_len e.term;have h3:=Num.put_len e.body.length;have:=h.2.2.2.1;simp [recOf];omega
theorem put_range {n:Nat} (hn:n<18446744073709551616): ∀x∈put n,0≤x∧x≤255:=Num.enc_range 9 n (by omega)
theorem rec_range {e:Ent} (h:e.ok): ∀x∈recOf e,0≤x∧x≤255:=by
 intro x hx;simp only[recOf,List.mem_append] at hx;rcases hx with hx | hx | hx | hx
 ·exact put_range h.2.1 x hx
 ·exact put_range h.2.2.1 x hx
 ·exact put_range (by have:=h.2.2.2.1;omega) x hx
 ·exact h.2.2.2.2 x hx
theorem parse_rec {e:Ent} (h:e.ok):parseOf (recOf e)=some e:=by
 have h1:dec 10 0 0 (recOf e)=some (e.ix,(put e.ix).length):=Num.dec_put _ h.2.1 _;have d1:(recOf e).drop (put e.ix).length=put e.term++(put e.body.length++e.body):=by simp [recOf]
 have h2:dec 10 0 0 (put e.term++(put e.body.length++e.body))=some (e.term,(put e.term).length):=Num.dec_put _ h.2.2.1 _;have d2:(recOf e).drop ((put e.ix).length+(put e.term).length)=put e.body.length++e.body:=by
  rw[←List.drop_drop,d1,List.drop_left]
 have h3:dec 10 0 0 (put e.body.length++e.body)=some (e.body.length,(put e.body.length).length):=Num.dec_put _ (by have:=h.2.2.2.1;omega) _;have d3:(recOf e).drop ((put e.ix).length+(put e.term).length+(put e.body.length).length)=e.body:=by
  rw[←List.drop_drop,d2,List.drop_left]
 unfold parseOf;simp only[h1,d1,h2,d2,h3,d3];rw[if_pos ⟨h.2.2.2.1,by simp [recOf];omega,by have:=h.1;omega⟩]
theorem parse_is {bs:List Int} {e:Ent} (hr: ∀x∈bs,0≤x∧x≤255) (h:parseOf bs=some e):e.ok∧recOf e=bs:=by
 unfold parseOf at h;cases h1:dec 10 0 0 bs with
 | none=>simp [h1] at h
 | some p1=>
  obtain⟨n,k⟩:=p1;simp only[h1] at h;cases h2:dec 10 0 0 (bs.drop k) with
  | none=>simp [h2] at h
  | some p2=>
   obtain⟨t,j⟩:=p2;simp only[h2] at h;cases h3:dec 10 0 0 (bs.drop (k+j)) with
   | none=>simp [h3] at h
   | some p3=>
    obtain⟨m,i⟩:=p3;simp only[h3] at h;split at h
    ·rename_i hc
     obtain⟨hm,hl,hn⟩:=hc;have e2:Ent.mk n t (bs.drop (k+j+i))=e:=by simpa using h
     have b1:=Num.dec_lt 10 0 0 bs n k (by omega) (by simp) hr h1;have b2:=Num.dec_lt 10 0 0 _ t j (by omega) (by simp) (fun x hx=>hr x (List.mem_of_mem_drop hx)) h2;have i1:=Num.dec_is hr h1;have i2:=Num.dec_is (fun x hx=>hr x (List.mem_of_mem_drop hx)) h2;have i3:=Num.dec_is (fun x hx=>hr x (List.mem_of_mem_drop hx)) h3;have hbl:(bs.drop (k+j+i)).length=m:=by rw[List.length_drop];omega
     subst e2;refine⟨⟨by dsimp only;omega,b1.1,b2.1,by dsimp only;omega,fun x hx=>hr x (List.mem_of_mem_drop hx)⟩,?_⟩;show put n++(put t++(put (bs.drop (k+j+i)).length++bs.drop (k+j+i)))=bs;rw[hbl,←i1.1,←i2.1,←i3.1];rw[←List.drop_drop (i:=i) (j:=k+j),List.take_append_drop,←List.drop_drop (i:=j) (j:=k),List.take_append_drop,List.take_append_drop]
    ·cases h
def lastIx (l:List Ent):Nat:=match l.getLast? with
 | none=>0
 | some e=>e.ix
theorem lastIx_nil:lastIx []=0:=rfl
theorem lastIx_snoc (l:List Ent) (e:Ent):lastIx (l++ [e])=e.ix:=by simp [lastIx]
def follows (last ix:Nat):Bool:=decide (0<ix)&&(decide (last=0)||decide (ix≤(last+1) % 18446744073709551616))
def cutTo (ix:Nat) (l:List Ent):List Ent:=(l.reverse.dropWhile fun e=>decide (ix≤e.ix)).reverse
theorem cutTo_snoc_yes {ix:Nat} {l:List Ent} {e:Ent} (h:ix≤e.ix):cutTo ix (l++ [e])=cutTo ix l:=by simp [cutTo,h]
theorem cutTo_snoc_no {ix:Nat} {l:List Ent} {e:Ent} (h: ¬ix≤e.ix):cutTo ix (l++ [e])=l++ [e]:=by simp [cutTo,h]
theorem snoc_of {l:List Ent} (h:l≠ []): ∃r e,l=r++ [e]:=⟨l.dropLast,l.getLast h,(List.dropLast_concat_getLast h).symm⟩
theorem cutTo_stop {ix:Nat} {l:List Ent} (h:l= []∨ ¬ix≤lastIx l):cutTo ix l=l:=by
 rcases h with rfl | h
 ·rfl
 ·by_cases hl:l= []
  ·subst hl;rfl
  ·obtain⟨r,e,rfl⟩:=snoc_of hl
   rw[lastIx_snoc] at h;exact cutTo_snoc_no h
theorem cutTo_mem {ix:Nat} {l:List Ent} {e:Ent} (h:e∈cutTo ix l):e∈l:=by
 unfold cutTo at h;rw[List.mem_reverse] at h;exact List.mem_reverse.1 ((List.dropWhile_sublist _).subset h)
def follow (l:List Ent) (e:Ent):Option (List Ent):=if follows (lastIx l) e.ix then some (cutTo e.ix l++ [e]) else none
theorem follow_ok {l l':List Ent} {e:Ent} (hl: ∀e∈l,e.ok) (he:e.ok) (h:follow l e=some l'): ∀e∈l',e.ok:=by
 unfold follow at h;split at h
 ·cases h
  intro x hx;rcases List.mem_append.1 hx with hx | hx
  ·exact hl x (cutTo_mem hx)
  ·simp at hx;subst hx;exact he
 ·cases h
theorem follow_last {l l':List Ent} {e:Ent} (h:follow l e=some l'):lastIx l'=e.ix∧l'≠ []∧follows (lastIx l) e.ix=true:=by
 unfold follow at h;split at h
 ·cases h
  exact⟨lastIx_snoc _ _,by simp,by assumption⟩
 ·cases h
theorem follow_len {l l':List Ent} {e:Ent} (h:follow l e=some l'):l'.length≤l.length+1:=by
 unfold follow at h;split at h
 ·cases h
  have h1:(cutTo e.ix l).length≤l.length:=by
   unfold cutTo;rw[List.length_reverse];have:=(List.dropWhile_sublist (l:=l.reverse) (fun x=>decide (e.ix≤x.ix))).length_le;simpa using this
  simp;omega
 ·cases h
def chain:List Ent→List Ent→Option (List Ent)
 | E,[]=>some E
 | E,e::r=>match follow E e with
  | none=>none
  | some E'=>chain E' r
theorem chain_cons {E E':List Ent} {e:Ent} (r:List Ent) (h:follow E e=some E'):chain E (e::r)=chain E' r:=by simp [chain,h]
theorem chain_append: ∀(E a b:List Ent) {E':List Ent},chain E a=some E'→chain E (a++b)=chain E' b
 | E,[],b,E',h=>by cases h;rfl
 | E,e::a,b,E',h=>by
  cases hf:follow E e with
  | none=>simp [chain,hf] at h
  | some E1=>
   rw[chain_cons a hf] at h;rw[List.cons_append,chain_cons (a++b) hf];exact chain_append E1 a b h
theorem chain_snoc {E E':List Ent} {l:List Ent} (e:Ent) (h:chain E l=some E'):chain E (l++ [e])=follow E' e:=by
 rw[chain_append _ _ _ h];simp only[chain];cases follow E' e<;>rfl
theorem chain_split: ∀(E a b:List Ent) {E2:List Ent},chain E (a++b)=some E2→ ∃E1,chain E a=some E1∧chain E1 b=some E2
 | E,[],b,E2,h=>⟨E,rfl,h⟩
 | E,e::a,b,E2,h=>by
  cases hf:follow E e with
  | none=>simp [chain,hf] at h
  | some E1=>
   rw[List.cons_append,chain_cons (a++b) hf] at h;obtain⟨E',h1,h2⟩:=chain_split E1 a b h;exact⟨E',by rw[chain_cons a hf];exact h1,h2⟩
def frm (e:Ent):List Int:=Frame.frameOf (recOf e)
def flatE (l:List Ent):List Int:=(l.map frm).flatten
theorem flatE_cons (e:Ent) (l:List Ent):flatE (e::l)=frm e++flatE l:=by simp [flatE]
theorem flatE_append (a b:List Ent):flatE (a++b)=flatE a++flatE b:=by simp [flatE]
theorem flatE_snoc (l:List Ent) (e:Ent):flatE (l++ [e])=flatE l++frm e:=by simp [flatE]
theorem frm_range {e:Ent} (h:e.ok): ∀x∈frm e,0≤x∧x≤255:=Frame.frame_range (by have:=(rec_len h).2;omega) (rec_range h)
theorem frm_len {e:Ent} (h:e.ok):9≤(frm e).length∧(frm e).length≤2050:=by
 have:=rec_len h;have h2:=Num.put_len (recOf e).length;rw[frm,Frame.frame_len];omega
theorem flatE_range: ∀ {l:List Ent},(∀e∈l,e.ok)→ ∀x∈flatE l,0≤x∧x≤255
 | [],_=>fun x hx=>by cases hx
 | e::l,h=>fun x hx=>by
  rw[flatE_cons] at hx;rcases List.mem_append.1 hx with hx | hx
  ·exact frm_range (h e (by simp)) x hx
  ·exact flatE_range (fun e he=>h e (by simp [he])) x hx
theorem flatE_len: ∀ {l:List Ent},(∀e∈l,e.ok)→9*l.length≤(flatE l).length∧(flatE l).length≤2050*l.length
 | [],_=>by simp [flatE]
 | e::l,h=>by
  have h1:=frm_len (h e (by simp));have h2:=flatE_len (l:=l) (fun e he=>h e (by simp [he]));rw[flatE_cons];simp;omega
def step1 (bs:List Int):Option (Ent×Nat):=match Frame.firstOf bs with
 | none=>none
 | some (r,n)=>match parseOf r with
  | none=>none
  | some e=>some (e,n)
theorem step1_none {bs:List Int} (h:Frame.firstOf bs=none):step1 bs=none:=by simp [step1,h]
theorem step1_bad {bs r:List Int} {n:Nat} (h:Frame.firstOf bs=some (r,n)) (hp:parseOf r=none):step1 bs=none:=by simp [step1,h,hp]
theorem step1_some {bs r:List Int} {n:Nat} {e:Ent} (h:Frame.firstOf bs=some (r,n)) (hp:parseOf r=some e):step1 bs=some (e,n):=by simp [step1,h,hp]
theorem step1_frm {e:Ent} (h:e.ok) (rest:List Int):step1 (frm e++rest)=some (e,(frm e).length):=by
 refine step1_some (r:=recOf e) ?_ (parse_rec h);have:=rec_len h;exact Frame.first_frame (recOf e) rest (by omega)
theorem step1_is {bs:List Int} {e:Ent} {n:Nat} (hr: ∀x∈bs,0≤x∧x≤255) (h:step1 bs=some (e,n)):e.ok∧bs.take n=frm e∧n=(frm e).length∧n≤bs.length:=by
 unfold step1 at h;cases hf:Frame.firstOf bs with
 | none=>simp [hf] at h
 | some p=>
  obtain⟨r,m⟩:=p;simp only[hf] at h;cases hp:parseOf r with
  | none=>simp [hp] at h
  | some e'=>
   simp only[hp,Option.some.injEq,Prod.mk.injEq] at h;obtain⟨rfl,rfl⟩:=h;obtain⟨h1,h2,h3,h4⟩:=Frame.first_is hr hf;have hrr: ∀x∈r,0≤x∧x≤255:=by
    intro x hx;have:x∈Frame.frameOf r:=by simp [Frame.frameOf,Frame.txt,hx]
    rw[←h3] at this;exact hr x (List.mem_of_mem_take this)
   obtain⟨h5,h6⟩:=parse_is hrr hp;rw[←h6] at h2 h3;exact⟨h5,h3,h2,h4⟩
def walk:Nat→List Int→Nat→List Ent→List Ent→Nat×List Ent×List Ent×Bool
 | 0,_,good,recs,ents=>(good,recs,ents,false)
 | f+1,bs,good,recs,ents=>
  if bs.length≤good then(good,recs,ents,true)
  else match step1 (bs.drop good) with
   | none=>(good,recs,ents,false)
   | some (e,n)=>match follow ents e with
    | none=>(good,recs,ents,false)
    | some E=>walk f bs (good+n) (recs++ [e]) E
theorem walk_end {f:Nat} {bs:List Int} {good:Nat} (recs ents:List Ent) (h:bs.length≤good):walk (f+1) bs good recs ents=(good,recs,ents,true):=by simp [walk,h]
theorem walk_none {f:Nat} {bs:List Int} {good:Nat} (recs ents:List Ent) (h: ¬bs.length≤good) (hs:step1 (bs.drop good)=none):walk (f+1) bs good recs ents=(good,recs,ents,false):=by simp [walk,h,hs]
theorem walk_stop {f:Nat} {bs:List Int} {good n:Nat} {e:Ent} (recs:List Ent) {ents:List Ent} (h: ¬bs.length≤good) (hs:step1 (bs.drop good)=some (e,n)) (hf:follow ents e=none):walk (f+1) bs good recs ents=(good,recs,ents,false):=by simp [walk,h,hs,hf]
theorem walk_more {f:Nat} {bs:List Int} {good n:Nat} {e:Ent} (recs:List Ent) {ents E:List Ent} (h: ¬bs.length≤good) (hs:step1 (bs.drop good)=some (e,n)) (hf:follow ents e=some E):walk (f+1) bs good recs ents=walk f bs (good+n) (recs++ [e]) E:=by simp [walk,h,hs,hf]
structure Walked (bs:List Int) (good:Nat) (recs ents:List Ent) (R:Nat×List Ent×List Ent×Bool):Prop where
 more: ∃l,R.2.1=recs++l∧(∀e∈l,e.ok)∧chain ents l=some R.2.2.1∧(bs.drop good).take (flatE l).length=flatE l∧R.1=good+(flatE l).length∧(flatE l).length≤bs.length - good
 all:R.2.2.2=true→bs.length≤R.1
theorem walked: ∀(f:Nat) {bs:List Int} (good:Nat) (recs ents:List Ent),(∀x∈bs,0≤x∧x≤255)→Walked bs good recs ents (walk f bs good recs ents)
 | 0,bs,good,recs,ents,_=>⟨⟨[],by simp [walk],(fun e he=>by cases he),rfl,by simp [flatE],by simp [walk,flatE],by simp [flatE]⟩,fun h=>by simp [walk] at h⟩
 | f+1,bs,good,recs,ents,hr=>by
  have stop:Walked bs good recs ents (good,recs,ents,false):=⟨⟨[],by simp,(fun e he=>by cases he),rfl,by simp [flatE],by simp [flatE],by simp [flatE]⟩,fun h=>by cases h⟩;by_cases h:bs.length≤good
  ·rw[walk_end recs ents h]
   exact⟨⟨[],by simp,(fun e he=>by cases he),rfl,by simp [flatE],by simp [flatE],by simp [flatE]⟩,fun _=>h⟩
  ·cases hs:step1 (bs.drop good) with
   | none=>rw[walk_none recs ents h hs];exact stop
   | some p=>
    obtain⟨e,n⟩:=p;obtain⟨h1,h2,h3,h4⟩:=step1_is (fun x hx=>hr x (List.mem_of_mem_drop hx)) hs;rw[List.length_drop] at h4;cases hf:follow ents e with
    | none=>rw[walk_stop recs h hs hf];exact stop
    | some E=>
     rw[walk_more recs h hs hf];obtain⟨⟨l,m1,m2,m3,m4,m5,m6⟩,ha⟩:=walked f (good+n) (recs++ [e]) E hr;refine⟨⟨e::l,by rw[m1];simp,fun x hx=>?_,by rw[chain_cons l hf];exact m3,?_,?_,?_⟩,ha⟩
     ·rcases List.mem_cons.1 hx with rfl | hx
      ·exact h1
      ·exact m2 x hx
     ·rw[flatE_cons,List.length_append,List.take_add,←h3,h2,List.drop_drop,m4]
     ·rw[m5,flatE_cons,List.length_append,←h3];omega
     ·rw[flatE_cons,List.length_append,←h3];omega
theorem walk_flat: ∀(l:List Ent) (f:Nat) (pre rest:List Int) (recs ents:List Ent) {E:List Ent},(∀e∈l,e.ok)→chain ents l=some E→
  walk (f+l.length) (pre++(flatE l++rest)) pre.length recs ents=walk f (pre++(flatE l++rest)) (pre.length+(flatE l).length) (recs++l) E
 | [],f,pre,rest,recs,ents,E,_,h=>by cases h;simp [flatE]
 | e::l,f,pre,rest,recs,ents,E,hl,h=>by
  cases hf:follow ents e with
  | none=>simp [chain,hf] at h
  | some E1=>
   rw[chain_cons l hf] at h;have he:=hl e (by simp);have hn:=frm_len he;have hnl: ¬(pre++(flatE (e::l)++rest)).length≤pre.length:=by rw[flatE_cons];simp;omega
   have hs:step1 ((pre++(flatE (e::l)++rest)).drop pre.length)=some (e,(frm e).length):=by
    rw[List.drop_left,flatE_cons,List.append_assoc];exact step1_frm he _
   rw[List.length_cons,show f+(l.length+1)=(f+l.length)+1 by omega,walk_more recs hnl hs hf];have ih:=walk_flat l f (pre++frm e) rest (recs++ [e]) E1 (fun x hx=>hl x (by simp [hx])) h;rw[show pre++(flatE (e::l)++rest)=pre++frm e++(flatE l++rest) by rw[flatE_cons];simp];rw[show pre.length+(frm e).length=(pre++frm e).length by simp,ih];congr 1
   ·rw[flatE_cons];simp;omega
   ·simp
theorem walk_whole {l:List Ent} {ents E:List Ent} (hl: ∀e∈l,e.ok) (h:chain ents l=some E):walk ((flatE l).length+1) (flatE l) 0 [] ents=((flatE l).length,l,E,true):=by
 have h2:=flatE_len hl;obtain⟨f,hf⟩: ∃f,(flatE l).length+1=(f+1)+l.length:=⟨(flatE l).length - l.length,by omega⟩;have h1:=walk_flat l (f+1) [] [] [] ents hl h;simp only[List.nil_append,List.append_nil,List.length_nil,Nat.zero_add] at h1;rw[hf,h1];exact walk_end _ _ (Nat.le_refl _)
structure Sg where
 num:Nat
 bs:List Int
 good:Nat
 recs:List Ent
def readGo:List (Nat×List Int)→List Ent→List Sg×List Ent
 | [],E=>([],E)
 | x::r,E=>
  if (walk (x.2.length+1) x.2 0 [] E).2.2.2=true∧(walk (x.2.length+1) x.2 0 [] E).2.1≠ [] then
   (⟨x.1,x.2,(walk (x.2.length+1) x.2 0 [] E).1,(walk (x.2.length+1) x.2 0 [] E).2.1⟩::(readGo r (walk (x.2.length+1) x.2 0 [] E).2.2.1).1,(readGo r (walk (x.2.length+1) x.2 0 [] E).2.2.1).2)
  else(⟨x.1,x.2,(walk (x.2.length+1) x.2 0 [] E).1,(walk (x.2.length+1) x.2 0 [] E).2.1⟩::r.map (fun y=>⟨y.1,[],0,[]⟩),(walk (x.2.length+1) x.2 0 [] E).2.2.1)
theorem readGo_more {x:Nat×List Int} {E:List Ent} {good:Nat} {recs E':List Ent} (r:List (Nat×List Int)) (h:walk (x.2.length+1) x.2 0 [] E=(good,recs,E',true)) (hr:recs≠ []):
  readGo (x::r) E=(⟨x.1,x.2,good,recs⟩::(readGo r E').1,(readGo r E').2):=by
 simp only[readGo,h];rw[if_pos ⟨trivial,hr⟩]
theorem readGo_stop {x:Nat×List Int} {E:List Ent} {good:Nat} {recs E':List Ent} {b:Bool} (r:List (Nat×List Int)) (h:walk (x.2.length+1) x.2 0 [] E=(good,recs,E',b)) (hr:b=false∨recs= []):
  readGo (x::r) E=(⟨x.1,x.2,good,recs⟩::r.map (fun y=>⟨y.1,[],0,[]⟩),E'):=by
 simp only[readGo,h];rw[if_neg];rintro⟨h1,h2⟩;rcases hr with hr | hr
 ·rw[hr] at h1;cases h1
 ·exact h2 hr
def top (l:List Ent):Nat:=l.foldl (fun a e=>max a e.ix) 0
theorem top_snoc (l:List Ent) (e:Ent):top (l++ [e])=max (top l) e.ix:=by simp [top]
end Go.Proofs.YtalfbcbnljhldaaGreatDoor.Wl

namespace Go.Proofs.YtalfbcbnljhldaaGreatDoor.Wl
open Dsk
def digs:Nat→Nat→List UInt8
 | 0,_=> []
 | w+1,n=>digs w (n / 10)++ [UInt8.ofNat (48+n % 10)]
def isDig (c:UInt8):Bool:=decide (48≤c.toNat)&&decide (c.toNat≤57)
def valGo:Nat→List UInt8→Nat
 | a,[]=>a
 | a,c::r=>valGo (a*10+(c.toNat - 48)) r
def valOf (l:List UInt8):Nat:=valGo 0 l
theorem valGo_append (l r:List UInt8): ∀a,valGo a (l++r)=valGo (valGo a l) r:=by
 induction l with
 | nil=>intro a;rfl
 | cons c l ih=>intro a;exact ih _
theorem dig_toNat (d:Nat) (h:d<10):(UInt8.ofNat (48+d)).toNat=48+d:=by
 rw[UInt8.toNat_ofNat'];exact Nat.mod_eq_of_lt (by omega)
theorem digs_len: ∀(w n:Nat),(digs w n).length=w
 | 0,_=>rfl
 | w+1,n=>by simp [digs,digs_len w]
theorem digs_all: ∀(w n:Nat),(digs w n).all isDig=true
 | 0,_=>rfl
 | w+1,n=>by
  have h:n % 10<10:=Nat.mod_lt _ (by decide);have h1:isDig (UInt8.ofNat (48+n % 10))=true:=by
   unfold isDig;rw[dig_toNat _ h];simp;omega
  rw[digs,List.all_append,digs_all w,List.all_cons,h1];rfl
theorem val_digs (w:Nat): ∀n:Nat,n<10 ^ w→valOf (digs w n)=n:=by
 induction w with
 | zero=>intro n h;simp at h;subst h;rfl
 | succ w ih0=>
  intro n h;have ih:=ih0 (n / 10) (by rw[Nat.pow_succ] at h;exact Nat.div_lt_of_lt_mul (by rw[Nat.mul_comm];exact h));unfold valOf at ih ⊢;rw[digs,valGo_append,ih];show n / 10*10+((UInt8.ofNat (48+n % 10)).toNat - 48)=n;rw[dig_toNat _ (Nat.mod_lt _ (by decide))];clear ih ih0 h;omega
theorem dig_back {c:UInt8} (h:isDig c=true):UInt8.ofNat (48+(c.toNat - 48))=c∧c.toNat - 48<10:=by
 unfold isDig at h;simp only[Bool.and_eq_true,decide_eq_true_eq] at h;refine⟨?_,by omega⟩;rw[show 48+(c.toNat - 48)=c.toNat by omega];exact UInt8.ofNat_toNat
theorem valOf_snoc (l:List UInt8) (c:UInt8):valOf (l++ [c])=valOf l*10+(c.toNat - 48):=by
 unfold valOf;rw[valGo_append];rfl
theorem digs_val: ∀(w:Nat) (l:List UInt8),l.length=w→l.all isDig=true→digs w (valOf l)=l∧valOf l<10 ^ w
 | 0,l,h,_=>by rw[List.eq_nil_of_length_eq_zero h];exact⟨rfl,by decide⟩
 | w+1,l,h,ha=>by
  have hne:l≠ []:=fun e=>by rw[e] at h;cases h
  obtain⟨r,c,rfl⟩: ∃r c,l=r++ [c]:=⟨l.dropLast,l.getLast hne,(List.dropLast_concat_getLast hne).symm⟩;rw[List.all_append,Bool.and_eq_true] at ha;obtain⟨h1,h2⟩:=digs_val w r (by simpa using h) ha.1;obtain⟨h3,h4⟩:=dig_back (c:=c) (by simpa using ha.2);rw[valOf_snoc];refine⟨?_,by rw[Nat.pow_succ];omega⟩;rw[digs,show(valOf r*10+(c.toNat - 48)) / 10=valOf r by omega,show(valOf r*10+(c.toNat - 48)) % 10=c.toNat - 48 by omega,h1,h3]
theorem parse_digits: ∀(l:List UInt8) (a:Nat),l.all isDig=true→(a+1)*10 ^ l.length≤1000000000→Lib.parseUintM 4294967295 a l= .ok (valGo a l)
 | [],a,_,_=>rfl
 | c::r,a,h,hb=>by
  simp only[List.all_cons,Bool.and_eq_true] at h;obtain⟨_,h4⟩:=dig_back h.1;have hd:=h.1;unfold isDig at hd;simp only[Bool.and_eq_true,decide_eq_true_eq] at hd;have hp:(a+1)*10 ^ (r.length+1)≤1000000000:=hb;have hp1:0<10 ^ r.length:=Nat.pow_pos (by decide);have hle:(a*10+(c.toNat - 48)+1)*10 ^ r.length≤1000000000:=by
   refine Nat.le_trans (Nat.mul_le_mul_right _ (show a*10+(c.toNat - 48)+1≤(a+1)*10 by omega)) ?_;rw[Nat.mul_assoc,←Nat.pow_succ'];exact hp
  have hsm:a*10+(c.toNat - 48)+1≤1000000000:=Nat.le_trans (Nat.le_mul_of_pos_right _ hp1) hle;rw[Lib.parseUintM,if_pos hd,if_neg (by omega),if_neg (by omega)];exact parse_digits r _ h.2 hle
theorem parse_other: ∀(l:List UInt8) (a:Nat),l.all isDig=false→(a+1)*10 ^ l.length≤1000000000→(∀n,Lib.parseUintM 4294967295 a l≠ .ok n)∧Lib.parseUintM 4294967295 a l≠ .range
 | [],a,h,_=>by cases h
 | c::r,a,h,hb=>by
  by_cases hd:48≤c.toNat∧c.toNat≤57
  ·have hc:isDig c=true:=by simp [isDig,hd]
   have hr:r.all isDig=false:=by simpa [hc] using h
   have hp:(a+1)*10 ^ (r.length+1)≤1000000000:=hb;have hp1:0<10 ^ r.length:=Nat.pow_pos (by decide);have hle:(a*10+(c.toNat - 48)+1)*10 ^ r.length≤1000000000:=by
    refine Nat.le_trans (Nat.mul_le_mul_right _ (show a*10+(c.toNat - 48)+1≤(a+1)*10 by omega)) ?_;rw[Nat.mul_assoc,←Nat.pow_succ'];exact hp
   have hsm:a*10+(c.toNat - 48)+1≤1000000000:=Nat.le_trans (Nat.le_mul_of_pos_right _ hp1) hle;rw[Lib.parseUintM,if_pos hd,if_neg (by omega),if_neg (by omega)];exact parse_other r _ hr hle
  ·rw[Lib.parseUintM,if_neg hd]
   exact⟨fun n e=>(by cases e),fun e=>(by cases e)⟩
def dot:Name:= [108,111,103,46]
def nameOf (k:Nat):Name:=dot++digs 8 k
def numOf (n:Name):Option Nat:=if n.take 4=dot∧n.length=12∧(n.drop 4).all isDig=true∧valOf (n.drop 4)≠0 then some (valOf (n.drop 4)) else none
theorem name_len (k:Nat):(nameOf k).length=12:=by simp [nameOf,dot,digs_len]
theorem num_name {k:Nat} (h1:1≤k) (h2:k≤99999999):numOf (nameOf k)=some k:=by
 have e1:(nameOf k).take 4=dot:=rfl;have e2:(nameOf k).drop 4=digs 8 k:=rfl;have e3:=val_digs 8 k (by omega);unfold numOf;rw[e1,e2,e3,if_pos ⟨rfl,name_len k,digs_all 8 k,by omega⟩]
theorem name_num {n:Name} {k:Nat} (h:numOf n=some k):n=nameOf k∧1≤k∧k≤99999999:=by
 unfold numOf at h;split at h
 ·rename_i hc
  obtain⟨h1,h2,h3,h4⟩:=hc;cases h;obtain⟨e1,e2⟩:=digs_val 8 (n.drop 4) (by rw[List.length_drop];omega) h3;refine⟨?_,by omega,by omega⟩;rw[nameOf,e1,←h1,List.take_append_drop]
 ·cases h
theorem name_inj {j k:Nat} (hj:1≤j∧j≤99999999) (hk:1≤k∧k≤99999999) (h:nameOf j=nameOf k):j=k:=by
 have h1:=num_name hj.1 hj.2;rw[h,num_name hk.1 hk.2] at h1;exact(Option.some.inj h1).symm
theorem digs_lt: ∀(w j k:Nat),j<k→k<10 ^ w→digs w j<digs w k
 | 0,j,k,h,hk=>by simp at hk;omega
 | w+1,j,k,h,hk=>by
  have hk':k / 10<10 ^ w:=by rw[Nat.pow_succ] at hk;exact Nat.div_lt_of_lt_mul (by rw[Nat.mul_comm];exact hk)
  rw[digs,digs];by_cases e:j / 10=k / 10
  ·rw[e]
   have hlt:UInt8.ofNat (48+j % 10)<UInt8.ofNat (48+k % 10):=by
    rw[UInt8.lt_iff_toNat_lt,dig_toNat _ (Nat.mod_lt _ (by decide)),dig_toNat _ (Nat.mod_lt _ (by decide))];omega
   exact List.append_left_lt (List.cons_lt_cons_iff.2 (.inl hlt))
  ·have ih:=digs_lt w (j / 10) (k / 10) (by omega) hk'
   exact lt_append (by rw[digs_len,digs_len]) ih
where
 lt_append {a b x y:List UInt8} (hl:a.length=b.length) (h:a<b):a++x<b++y:=by
  induction a generalizing b with
  | nil=>
   cases b with
   | nil=>exact absurd h (List.lt_irrefl _)
   | cons c b=>cases hl
  | cons c a ih=>
   cases b with
   | nil=>cases hl
   | cons d b=>
    rw[List.cons_append,List.cons_append,List.cons_lt_cons_iff];rcases List.cons_lt_cons_iff.1 h with h1 | ⟨h1,h2⟩
    ·exact .inl h1
    ·exact .inr ⟨h1,ih (by simpa using hl) h2⟩
theorem name_lt {j k:Nat} (h:j<k) (hk:k≤99999999):nameOf j<nameOf k:=List.append_left_lt (digs_lt 8 j k h (by omega))
def SegList (M:Files) (l:List (Nat×List Int)):Prop:=l.Pairwise (fun a b=>a.1<b.1)∧ ∀k bs,(k,bs)∈l↔(1≤k∧k≤99999999)∧(M.at (nameOf k)).now.there=true∧bs=(M.at (nameOf k)).now.bs
theorem SegList.one {M:Files} {a b:List (Nat×List Int)} (ha:SegList M a) (hb:SegList M b):a=b:=by
 refine List.Perm.eq_of_pairwise (le:=fun x y:Nat×List Int=>x.1<y.1) (fun x y _ _ h1 h2=>by omega) ha.1 hb.1 ?_;have nd: ∀ {l:List (Nat×List Int)},l.Pairwise (fun a b=>a.1<b.1)→l.Nodup:=fun h=>h.imp fun {x y} hxy e=>by subst e;omega
 exact(List.perm_ext_iff_of_nodup (nd ha.1) (nd hb.1)).2 fun x=>by
  obtain⟨k,bs⟩:=x;exact(ha.2 k bs).trans (hb.2 k bs).symm
def numsOf (ks:List Name):List Nat:=ks.filterMap numOf
theorem nums_rise: ∀ {ks:List Name},ks.Pairwise (· < ·)→(numsOf ks).Pairwise (· < ·)
 | [],_=> .nil
 | n::ks,h=>by
  have ih:=nums_rise (List.Pairwise.tail h);unfold numsOf;cases hn:numOf n with
  | none=>rw[List.filterMap_cons_none hn];exact ih
  | some k=>
   rw[List.filterMap_cons_some hn];refine List.Pairwise.cons (fun j hj=>?_) ih;obtain⟨m,hm,hmj⟩:=List.mem_filterMap.1 hj;have h1:=(List.pairwise_cons.1 h).1 m hm;obtain⟨rfl,hk1,hk2⟩:=name_num hn;obtain⟨rfl,hj1,hj2⟩:=name_num hmj;rcases Nat.lt_trichotomy k j with h2 | h2 | h2
   ·exact h2
   ·subst h2;exact absurd h1 (List.lt_irrefl _)
   ·exact absurd (List.lt_trans h1 (name_lt h2 hk2)) (List.lt_irrefl _)
theorem nums_mem {ks:List Name} {k:Nat} :k∈numsOf ks↔nameOf k∈ks∧1≤k∧k≤99999999:=by
 unfold numsOf;rw[List.mem_filterMap];constructor
 ·rintro⟨n,hn,h⟩
  obtain⟨rfl,h1,h2⟩:=name_num h;exact⟨hn,h1,h2⟩
 ·rintro⟨hn,h1,h2⟩
  exact⟨_,hn,num_name h1 h2⟩
def segsOf (M:Files) (ns:List Nat):List (Nat×List Int):=ns.map fun k=>(k,(M.at (nameOf k)).now.bs)
theorem segs_of {M:Files} {ks:List Name} (h:NamesOf M (fun f=>f.now.there) ks):SegList M (segsOf M (numsOf ks)):=by
 refine⟨?_,fun k bs=>?_⟩
 ·unfold segsOf
  rw[List.pairwise_map];exact(nums_rise h.1).imp fun h=>h
 ·unfold segsOf
  rw[List.mem_map];have hat: ∀n,n∈ks↔(M.at n).now.there=true:=fun n=>by
   rw[h.2 n];unfold Files.at;cases hM:M n with
   | none=>simp [Fil.zero,Fil.now,Ver.zero]
   | some f=>simp
  constructor
  ·rintro⟨j,hj,e⟩
   simp only[Prod.mk.injEq] at e;obtain⟨rfl,rfl⟩:=e;obtain⟨h1,h2⟩:=nums_mem.1 hj;exact⟨h2,(hat _).1 h1,rfl⟩
  ·rintro⟨h1,h2,rfl⟩
   exact⟨k,nums_mem.2 ⟨(hat _).2 h2,h1⟩,rfl⟩
end Go.Proofs.YtalfbcbnljhldaaGreatDoor.Wl
