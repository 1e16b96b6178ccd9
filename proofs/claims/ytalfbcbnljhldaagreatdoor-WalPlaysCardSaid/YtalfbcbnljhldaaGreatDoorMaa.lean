/-  -/
import Derived.Lib.EndianBits
import Derived.Lib.VarintBits
import Derived.Test.YtalfbcbnljhldaaGreatDoorProg
import Derived.WalkKit
import Derived.Lib.Hide
import Derived.Laws.BytesArg
import Derived.Deep.AppendLies
import Derived.LaidEql
import Derived.Stop.Asserts
import Derived.RowKitTokens
import Derived.Shelf.Strings.Builder1
import Derived.Shelf.Strings.Builder2
import Derived.Shelf.Small.Wraps
import Derived.Shelf.Strings.BuilderF
import Derived.Shelf.Strconv.Itoa0
import Derived.Shelf.Strconv.Itoa1
import Derived.Shelf.LaysM
import Derived.Shelf.Strconv.Itoa2
import Derived.Shelf.Strconv.Itoa3
import Derived.Ground.MpProg
import Derived.Shelf.Pu.ParseUintPublic10
import Derived.Shelf.Pu.ErrVarParseUint
import Derived.Shelf.Sort.Plain
import Derived.Shelf.Strings.Prefix
import Derived.Shelf.Bits.Mul64
import Derived.Shelf.Strings.Repeat
import Derived.Shelf.Slices.In.SortNone
import Derived.Ground.SlbCloneProg
import Derived.Shelf.Bytes.SlClone
import Derived.Shelf.Bytes.SlSmallAll
import Derived.Shelf.Bytes.Small
namespace Go.Proofs.YtalfbcbnljhldaaGreatDoor.Num
def enc:Nat→Nat→List Int
 | 0,n=> [(n:Int)]
 | f+1,n=>if n<128 then [(n:Int)] else((n % 128+128:Nat):Int)::enc f (n / 128)
theorem enc_ne (f n:Nat):enc f n≠ []:=by
 cases f with
 | zero=>simp [enc]
 | succ f=>unfold enc;split<;>simp
theorem enc_len: ∀(f n:Nat),1≤(enc f n).length∧(enc f n).length≤f+1
 | 0,n=>by simp [enc]
 | f+1,n=>by
  unfold enc;split
  ·simp
  ·have:=enc_len f (n / 128);simp;omega
theorem enc_range: ∀(f n:Nat),n<128 ^ (f+1)→ ∀x∈enc f n,0≤x∧x≤255
 | 0,n,h=>by intro x hx;simp [enc] at hx;subst hx;simp at h;omega
 | f+1,n,h=>by
  intro x hx;unfold enc at hx;split at hx
  ·simp at hx;subst hx;omega
  ·rcases List.mem_cons.1 hx with rfl | hx
   ·have:=Nat.mod_lt n (show 0<128 by decide);omega
   ·exact enc_range f (n / 128) (by rw[Nat.pow_succ] at h;exact Nat.div_lt_of_lt_mul (by rw[Nat.mul_comm];exact h)) x hx
theorem enc_small (f n:Nat) (h:n<128):enc f n= [(n:Int)]:=by
 cases f with
 | zero=>simp [enc]
 | succ f=>simp [enc,h]
theorem enc_big (f n:Nat) (h: ¬n<128):enc (f+1) n=((n % 128+128:Nat):Int)::enc f (n / 128):=by
 simp [enc,h]
def put (n:Nat):List Int:=enc 9 n
theorem put_len (n:Nat):1≤(put n).length∧(put n).length≤10:=enc_len 9 n
theorem and127 (q:Nat) (h:q<18446744073709551616):bits .and .u64 (q:Int) 127=(q:Int) % 128:=by
 have:=bits_mask .u64 64 (by decide) wraps_u64 7 (by decide) (q:Int) (by omega) (by omega);rw[show(127:Int)=2 ^ 7 - 1 by decide,this];omega
theorem or128 (q:Nat):bits .or .u64 ((q:Int) % 128) 128=(q:Int) % 128+128:=
 u64_orv7 ((q:Int) % 128) 128 (by omega) (by omega) (by omega) (by omega) (by omega)
theorem top_small (n k:Nat) (hk:9≤k) (hn:n<18446744073709551616):n / 128 ^ k<128:=by
 have h1:(128:Nat) ^ 9≤128 ^ k:=Nat.pow_le_pow_right (by decide) hk;have h2:n / 128 ^ k≤n / 128 ^ 9:=Nat.div_le_div_left h1 (by decide);have h3:n / 128 ^ 9<128:=by
  apply Nat.div_lt_of_lt_mul;exact Nat.lt_of_lt_of_le hn (by decide)
 omega
theorem wrap_div (n:Nat) (h:n<18446744073709551616):IntKind.u64.wrap ((n:Int) / 128)=((n / 128:Nat):Int):=by
 rw[IntKind.wrap_u64];omega
def dec:Nat→Nat→Nat→List Int→Option (Nat×Nat)
 | 0,_,_,_=>none
 | _+1,_,_,[]=>none
 | f+1,k,acc,c::r=>
  if c=0∧0<k then none
  else if 9≤k∧1<c then none
  else if c<128 then some (acc+c.toNat*128 ^ k,k+1)
  else dec f (k+1) (acc+c.toNat % 128*128 ^ k) r
theorem dec_nil (f k acc:Nat):dec f k acc []=none:=by cases f<;>rfl
theorem dec_zero {f k acc:Nat} {c:Int} {r:List Int} (h:c=0) (hk:0<k):dec (f+1) k acc (c::r)=none:=by simp [dec,h,hk]
theorem dec_tenth {f k acc:Nat} {c:Int} {r:List Int} (h:1<c) (hk:9≤k):dec (f+1) k acc (c::r)=none:=by
 have: ¬c=0:=by omega
 simp [dec,h,hk,this]
theorem dec_last {f k acc:Nat} {c:Int} {r:List Int} (h1: ¬(c=0∧0<k)) (h2: ¬(9≤k∧1<c)) (h3:c<128):dec (f+1) k acc (c::r)=some (acc+c.toNat*128 ^ k,k+1):=by
 simp only[dec,if_neg h1,if_neg h2,if_pos h3]
theorem dec_more {f k acc:Nat} {c:Int} {r:List Int} (h1: ¬(c=0∧0<k)) (h2: ¬(9≤k∧1<c)) (h3: ¬c<128):dec (f+1) k acc (c::r)=dec f (k+1) (acc+c.toNat % 128*128 ^ k) r:=by
 simp only[dec,if_neg h1,if_neg h2,if_neg h3]
theorem pow128 (k:Nat):(2:Int) ^ (7*k)=((128 ^ k:Nat):Int):=by
 rw[Int.pow_mul];norm_cast
theorem join_acc (acc k:Nat) (c:Int) (hacc:acc<128 ^ k) (hk:k≤9) (h0:0≤c) (h1:c≤255) (h9: ¬(9≤k∧1<c)):
  bits .or .u64 (acc:Int) (IntKind.u64.wrap (c % 128*2 ^ (7*k)))=((acc+c.toNat % 128*128 ^ k:Nat):Int)∧acc+c.toNat % 128*128 ^ k<128 ^ (k+1):=by
 obtain⟨x,hx⟩: ∃x:Nat,c.toNat % 128=x∧x<128:=⟨_,rfl,Nat.mod_lt _ (by decide)⟩;have ex:c % 128=(x:Int):=by omega
 have hle:128 ^ k≤128 ^ 9:=Nat.pow_le_pow_right (by decide) hk;have hbig:x*128 ^ k<18446744073709551616:=by
  by_cases h:k=9
  ·have:x≤1:=by omega
   subst h
   calc x*128 ^ 9≤1*128 ^ 9:=Nat.mul_le_mul_right _ this
     _<18446744073709551616:=by decide
  ·have h8:128 ^ k≤128 ^ 8:=Nat.pow_le_pow_right (by decide) (by omega)
   calc x*128 ^ k≤127*128 ^ 8:=Nat.mul_le_mul (by omega) h8
     _<18446744073709551616:=by decide
 rw[hx.1,ex,pow128];have e:(x:Int)*((128 ^ k:Nat):Int)=((x*128 ^ k:Nat):Int):=by norm_cast
 rw[e,IntKind.wrap_u64,show((x*128 ^ k:Nat):Int) % 18446744073709551616=((x*128 ^ k:Nat):Int) by omega];have hacc2:acc<18446744073709551616:=Nat.lt_of_lt_of_le hacc (Nat.le_trans hle (by decide));refine⟨?_,?_⟩
 ·rw[bits_join_low .u64 64 (by decide) wraps_u64 (7*k) (acc:Int) ((x*128 ^ k:Nat):Int) (by omega) (by rw[pow128];exact_mod_cast hacc) (by omega) (by omega)
   (by rw[pow128];norm_cast;exact Nat.mul_mod_left _ _) (by omega)]
  norm_cast
 ·rw[Nat.pow_succ]
  have:x*128 ^ k≤127*128 ^ k:=Nat.mul_le_mul_right _ (by omega);omega
theorem dec_enc: ∀(f k acc q:Nat) (rest:List Int),k+f=9→q<128 ^ (f+1)→(k=9→q≤1)→(f+k=9→0<k→0<q)→(∀j,j≤f→j+k=9→q / 128 ^ j≤1)→
  dec (f+1) k acc (enc f q++rest)=some (acc+q*128 ^ k,k+(enc f q).length)
 | 0,k,acc,q,rest,hf,hq,h9,hpos,_=>by
  have h1:=h9 (by omega);simp only[enc,List.cons_append,List.nil_append,List.length_cons,List.length_nil];rw[dec_last (fun h=>by have:=hpos (by omega) h.2;omega) (fun h=>by omega) (by omega)];simp
 | f+1,k,acc,q,rest,hf,hq,h9,hpos,htop=>by
  by_cases hb:q<128
  ·rw[enc_small _ _ hb]
   simp only[List.cons_append,List.nil_append,List.length_cons,List.length_nil];rw[dec_last (fun h=>by have:=hpos (by omega) h.2;omega) (fun h=>by omega) (by omega)];simp
  ·rw[enc_big _ _ hb,List.cons_append,dec_more (fun h=>by omega) (fun h=>by omega) (by omega)]
   have hd:q / 128<128 ^ (f+1):=by rw[Nat.pow_succ] at hq;exact Nat.div_lt_of_lt_mul (by rw[Nat.mul_comm];exact hq)
   rw[dec_enc f (k+1) _ (q / 128) rest (by omega) hd (fun h=>by have:=htop 1 (by omega) (by omega);simpa using this) (fun _ _=>by omega)
    (fun j hj hk=>by have:=htop (j+1) (by omega) (by omega);rw[Nat.pow_succ,Nat.mul_comm,←Nat.div_div_eq_div_mul] at this;exact this)]
   have e1:((q % 128+128:Nat):Int).toNat % 128=q % 128:=by omega
   rw[e1];simp only[List.length_cons,Option.some.injEq,Prod.mk.injEq];refine⟨?_,by omega⟩;rw[Nat.pow_succ,Nat.add_assoc];congr 1
   have:=Nat.mod_add_div q 128
   calc q % 128*128 ^ k+q / 128*(128 ^ k*128)=(q % 128+128*(q / 128))*128 ^ k:=by
         rw[Nat.add_mul,Nat.mul_comm (128 ^ k) 128,←Nat.mul_assoc,Nat.mul_comm (q / 128) 128]
     _=q*128 ^ k:=by rw[this]
theorem dec_put (n:Nat) (hn:n<18446744073709551616) (rest:List Int):dec 10 0 0 (put n++rest)=some (n,(put n).length):=by
 have h:=dec_enc 9 0 0 n rest (by omega) (Nat.lt_of_lt_of_le hn (by decide)) (by omega) (by omega) (fun j _ hk=>by
  obtain rfl:j=9:=by omega
  have:n / 128 ^ 9<2:=Nat.div_lt_of_lt_mul (Nat.lt_of_lt_of_le hn (by decide));omega)
 simpa [put] using h
theorem dec_lt: ∀(f k acc:Nat) (l:List Int) (n j:Nat),k+f=10→acc<128 ^ k→(∀x∈l,0≤x∧x≤255)→dec f k acc l=some (n,j)→n<18446744073709551616∧k<j∧j≤k+l.length
 | 0,_,_,_,_,_,_,_,_,h=>by simp [dec] at h
 | _+1,_,_,[],_,_,_,_,_,h=>by simp [dec] at h
 | f+1,k,acc,c::r,n,j,hf,hacc,hr,h=>by
  have hc:=hr c (by simp);by_cases h1:c=0∧0<k
  ·rw[dec_zero h1.1 h1.2] at h;cases h
  ·by_cases h2:9≤k∧1<c
   ·rw[dec_tenth h2.2 h2.1] at h;cases h
   ·have hk9:k≤9:=by omega
    have hj:=(join_acc acc k c hacc hk9 hc.1 hc.2 h2).2;by_cases h3:c<128
    ·rw[dec_last h1 h2 h3] at h
     simp only[Option.some.injEq,Prod.mk.injEq] at h;obtain⟨rfl,rfl⟩:=h;refine⟨?_,by omega,by simp⟩;by_cases h9:k=9
     ·have h1':c.toNat≤1:=by omega
      have h7:c.toNat*128 ^ k≤1*128 ^ k:=Nat.mul_le_mul_right _ h1';have h6:(128:Nat) ^ k=9223372036854775808:=by rw[h9]
      rw[h6] at h7 hacc ⊢;clear hj h6;omega
     ·have e:c.toNat % 128=c.toNat:=Nat.mod_eq_of_lt (by omega)
      rw[e] at hj;have h8:128 ^ (k+1)≤9223372036854775808:=Nat.le_trans (Nat.pow_le_pow_right (by decide) (show k+1≤9 by omega)) (by decide);exact Nat.lt_of_lt_of_le hj (Nat.le_trans h8 (by decide))
    ·rw[dec_more h1 h2 h3] at h
     by_cases h9:k=9
     ·exact absurd ⟨by omega,by omega⟩ h2
     ·have:=dec_lt f (k+1) _ r n j (by omega) hj (fun x hx=>hr x (by simp [hx])) h
      refine⟨this.1,by omega,by simp;omega⟩
end Go.Proofs.YtalfbcbnljhldaaGreatDoor.Num

namespace Go.Proofs.YtalfbcbnljhldaaGreatDoor
open Go.RowKit
theorem info5:(Tryz.prog.info? 5).map (fun i=>(i.zero,i.size,i.bytes))=some (some (.int .u8 0),1,1):=by kernel_rfl
def Row (w:World) (B:Nat) (zs:List Int) (v:Value):Prop:=w.ownsRow B 5 1 v zs.length (zs.map (Value.int .u8))
section
variable {w w':World} {B:Nat} {zs:List Int} {v:Value}
theorem Row.below (h:Row w B zs v) (hb:Below w.heap.size w w'):Row w' B zs v:=by
 refine⟨h.1,?_⟩;rcases h.2 with hn | ⟨g,cap,cur,rfl,hB,hg,rest⟩
 ·exact .inl hn
 ·exact .inr ⟨g,cap,cur,rfl,hB,(hb.block g (Array.getElem?_eq_some_iff.1 hg).1).trans hg,rest⟩
theorem Row.less {B':Nat} (h:Row w B zs v) (hB:B'≤B):Row w B' zs v:=by
 refine⟨h.1,?_⟩;rcases h.2 with hn | ⟨g,cap,cur,rfl,hb,rest⟩
 ·exact .inl hn
 ·exact .inr ⟨g,cap,cur,rfl,by omega,rest⟩
theorem Row.is (h:Row w B zs v) (hne:zs≠ []):
  ∃g cap,v= .slice (some ⟨g,0,none⟩) zs.length cap∧B≤g∧g<w.heap.size∧zs.length≤cap∧cap≤maxLen∧ ∀i,i<zs.length→w.cell? ⟨g,i,none⟩=some (.int .u8 (zs.getD i 0)):=by
 rcases h.2 with⟨_,hn⟩ | ⟨g,cap,cur,rfl,hB,hg,hc,hm,_⟩
 ·exact absurd (List.eq_nil_of_length_eq_zero hn) hne
 ·refine⟨g,cap,rfl,hB,(Array.getElem?_eq_some_iff.1 hg).1,hc,hm,fun i hi=>?_⟩
  have h':=h;unfold Row at h';rw[h'.cellAt i (by omega)];simp [List.getD,List.getElem?_eq_getElem hi]
theorem Row.text (h:Row w B zs v) (hb:Below w.heap.size w w'):(convert 39 9 v).run Tryz.prog w'= .ok (.string (strOfNums zs)) w':=by
 have h':=h.below hb;by_cases hne:zs= []
 ·subst hne
  rcases h'.2 with⟨rfl,_⟩ | ⟨g,cap,cur,rfl,_⟩
  ·exact run_convert_bytes_nil w' _ _ Tryz.underlying39 Tryz.underlying5 0 0 _ Tryz.underlying9
  ·exact run_convert_bytes_arg w' _ _ Tryz.underlying39 Tryz.underlying5 g 0 0 cap [] rfl (fun i hi=>by omega) _ Tryz.underlying9
 ·obtain⟨g,cap,rfl,_,_,_,_,hc⟩:=h'.is hne
  exact run_convert_bytes_arg w' _ _ Tryz.underlying39 Tryz.underlying5 g 0 _ cap zs rfl (fun i hi=>by rw[Nat.zero_add];exact hc i hi) _ Tryz.underlying9
theorem Row.news (h:Row w B zs v) (hb:Below w.heap.size w w') {g n cap:Nat} (hv:v= .slice (some ⟨g,0,none⟩) n cap):
  ∀j u,(zs.map (Value.int .u8))[j]?=some u→w'.cell? ((⟨g,0,none⟩:Addr).add j)=some u:=by
 subst hv;exact(h.below hb).cells (g:=g) rfl
end
theorem one_new (w:World) (x:Value) (t:TypeId): ∀j u,[x][j]?=some u→(w.alloc (.cells #[x] t)).cell? ((⟨w.heap.size,0,none⟩:Addr).add j)=some u:=by
 intro j u hj;match j,hj with
 | 0,hj=>simp at hj;subst hj;simp [Addr.add]
theorem Row.lit1 (w:World) (x:Int):Row (w.alloc (.cells #[.int .u8 x] 5)) w.heap.size [x] (.slice (some ⟨w.heap.size,0,none⟩) 1 1):=
 World.ownsRow_lit w #[.int .u8 x] 1 (Nat.le_refl _) (by unfold maxLen;omega) rfl
end Go.Proofs.YtalfbcbnljhldaaGreatDoor

namespace Go.Proofs.YtalfbcbnljhldaaGreatDoor
open Go.RowKit Go.Extern.Stop Go.Stop Go.Extern
theorem isTypeOf (v:Value) (w:World):(Extern.ReflectliteType.typeOf #[.iface 222 v]).run Tryz.prog w= .ok (.iface 162 (.agg #[.pointer (some ⟨6,222,none⟩)])) w:=by kernel_rfl
theorem isComparable (w:World):((Extern.ReflectliteType.method fun t=>do Go.Extern.Rtype.noPackHeld "Comparable" t;(fun a=>Value.bool a.comparable) <$> typeInfo t) #[.agg #[.pointer (some ⟨6,222,none⟩)]]).run Tryz.prog w= .ok (.bool true) w:=by kernel_rfl
theorem isMethodComparable (n:Nat) (v:Value) (w:World):(Go.method (n+8) 162 v "Comparable").run Tryz.prog w= .ok (182,v) w:=by kernel_rfl
theorem isComp:(Tryz.prog.info? 222).map (·.comparable)=some true:=by kernel_rfl
theorem isSize:(Tryz.prog.info? 224).map (·.size)=some 1:=by kernel_rfl
set_option maxRecDepth 100000 in
theorem is_same (a:Addr) (w:World):
  Calls Tryz.prog 74 #[.iface 222 (.pointer (some a)),.iface 222 (.pointer (some a))] w fun e w'=>e= .returned (.bool true)∧w'=w:=by
 obtain⟨i,hi,hcmp⟩:=Option.map_eq_some_iff.1 isComp;obtain⟨j,hj,hjs⟩:=Option.map_eq_some_iff.1 isSize;have h8:= @run_callFunc_extern Tryz.prog 94 _ Extern.ReflectliteType.typeOf Tryz.func94 (by kernel_rfl) (by kernel_rfl) (by kernel_rfl) (by kernel_rfl);have h32:= @run_callFunc_extern Tryz.prog 182 _ (Extern.ReflectliteType.method fun t=>do Go.Extern.Rtype.noPackHeld "Comparable" t;pure (.bool (←typeInfo t).comparable)) Tryz.func182 (by kernel_rfl) (by kernel_rfl) (by kernel_rfl) (by kernel_rfl);have tT:=isTypeOf;have cT:=isComparable;have mR:=isMethodComparable;have heq:=run_eql_iface_ptr_same (P:=Tryz.prog) w a Tryz.underlying126 Tryz.underlying222 hi hcmp hj;go_enter Tryz.func74,Tryz.ntmps74
 go_wp2
 refine wp_loop_rounds 1 ?_;rw[rounds_succ];go_wp2
 go_ret
 exact⟨rfl,rfl⟩
theorem is_nil (b:Addr) (w:World):
  Calls Tryz.prog 74 #[.nilIface,.iface 222 (.pointer (some b))] w fun e w'=>e= .returned (.bool false)∧w'=w:=by
 have hn:=run_eql_iface_nil_left (P:=Tryz.prog) w 222 (.pointer (some b)) Tryz.underlying126;go_enter Tryz.func74,Tryz.ntmps74
 go_wp2
 go_ret
 exact⟨rfl,rfl⟩
end Go.Proofs.YtalfbcbnljhldaaGreatDoor

namespace Go.Proofs
open Go.Shelf
def Tryz.lays103_ren:Go.Shelf.Ren:=⟨fun | 103=>92 | 210=>109 | 206=>117 | n=>n,fun | 9=>9 | 4=>4 | 24=>139 | 3=>3 | n=>n,fun | n=>n⟩
theorem Tryz.lays103:Go.Proofs.Lays.n103 Tryz.prog Tryz.lays103_ren:= {
 mixed:=by kernel_rfl
 f103:=Tryz.func92.trans (congrArg some (by kernel_rfl))
 f206:=Tryz.func117.trans (congrArg some (by kernel_rfl))
 f210:=Tryz.func109.trans (congrArg some (by kernel_rfl))
 t3:=Tryz.underlying3
 a3:=Tryz.isAgg3
 z3:=Tryz.sizeOf3
 v3:=Tryz.zeroValue3
 t4:=Tryz.underlying4
 a4:=Tryz.isAgg4
 z4:=Tryz.sizeOf4
 v4:=Tryz.zeroValue4
 t9:=Tryz.underlying9
 a9:=Tryz.isAgg9
 z9:=Tryz.sizeOf9
 v9:=Tryz.zeroValue9
 t24:=Tryz.underlying139
 a24:=Tryz.isAgg139
 z24:=Tryz.sizeOf139
 v24:=Tryz.zeroValue139}
open Go.RowKit in
theorem Tryz.strings_CutPrefix (s p:ByteArray) (w:World):
  Calls Tryz.prog 92 #[.string s,.string p] w fun e w'=>e= .returned (.tuple #[.string ⟨(Lib.trimPrefix s.data.toList p.data.toList).toArray⟩,.bool (Lib.hasPrefix s.data.toList p.data.toList)])∧w'=w:=Any.strings_CutPrefix Tryz.lays103 s p w
def Tryz.laysM171_ren:Go.Shelf.Ren:=⟨fun | 171=>77 | 243=>97 | 246=>114 | 283=>138 | 284=>139 | 285=>140 | 286=>141 | 129=>137 | 317=>153 | 318=>154 | 319=>155 | 320=>156 | 337=>159 | 338=>160 | n=>n,fun | 3=>3 | 9=>9 | 2=>2 | 4=>4 | 171=>198 | 0=>0 | 53=>37 | 37=>39 | 5=>5 | 173=>200 | 212=>219 | 51=>122 | 20=>20 | 213=>220 | 46=>148 | 232=>228 | 233=>229 | n=>n,fun | 17=>2 | 18=>4 | 19=>5 | n=>n⟩
theorem Tryz.laysM171:Go.Proofs.LaysM.n171 Tryz.prog Tryz.laysM171_ren:= {
 mixed:=by kernel_rfl
 f129:=Tryz.func137.trans (congrArg some (by kernel_rfl))
 f171:=Tryz.func77.trans (congrArg some (by kernel_rfl))
 f243:=Tryz.func97.trans (congrArg some (by kernel_rfl))
 f246:=Tryz.func114.trans (congrArg some (by kernel_rfl))
 f283:=Tryz.func138.trans (congrArg some (by kernel_rfl))
 f284:=Tryz.func139.trans (congrArg some (by kernel_rfl))
 f285:=Tryz.func140.trans (congrArg some (by kernel_rfl))
 f286:=Tryz.func141.trans (congrArg some (by kernel_rfl))
 f317:=Tryz.func153.trans (congrArg some (by kernel_rfl))
 f318:=Tryz.func154.trans (congrArg some (by kernel_rfl))
 f319:=Tryz.func155.trans (congrArg some (by kernel_rfl))
 f320:=Tryz.func156.trans (congrArg some (by kernel_rfl))
 f337:=Tryz.func159.trans (congrArg some (by kernel_rfl))
 f338:=Tryz.func160.trans (congrArg some (by kernel_rfl))
 t0:=Tryz.underlying0
 a0:=Tryz.isAgg0
 z0:=Tryz.sizeOf0
 v0:=Tryz.zeroValue0
 t2:=Tryz.underlying2
 a2:=Tryz.isAgg2
 z2:=Tryz.sizeOf2
 v2:=Tryz.zeroValue2
 t3:=Tryz.underlying3
 a3:=Tryz.isAgg3
 z3:=Tryz.sizeOf3
 v3:=Tryz.zeroValue3
 t4:=Tryz.underlying4
 a4:=Tryz.isAgg4
 z4:=Tryz.sizeOf4
 v4:=Tryz.zeroValue4
 t5:=Tryz.underlying5
 a5:=Tryz.isAgg5
 z5:=Tryz.sizeOf5
 v5:=Tryz.zeroValue5
 t9:=Tryz.underlying9
 a9:=Tryz.isAgg9
 z9:=Tryz.sizeOf9
 v9:=Tryz.zeroValue9
 t20:=Tryz.underlying20
 a20:=Tryz.isAgg20
 z20:=Tryz.sizeOf20
 v20:=Tryz.zeroValue20
 t37:=Tryz.underlying39
 a37:=Tryz.isAgg39
 z37:=Tryz.sizeOf39
 v37:=Tryz.zeroValue39
 t46:=Tryz.underlying148
 a46:=Tryz.isAgg148
 z46:=Tryz.sizeOf148
 v46:=Tryz.zeroValue148
 t51:=Tryz.underlying122
 a51:=Tryz.isAgg122
 z51:=Tryz.sizeOf122
 v51:=Tryz.zeroValue122
 t53:=Tryz.underlying37
 a53:=Tryz.isAgg37
 z53:=Tryz.sizeOf37
 v53:=Tryz.zeroValue37
 t171:=Tryz.underlying198
 a171:=Tryz.isAgg198
 z171:=Tryz.sizeOf198
 v171:=Tryz.zeroValue198
 t173:=Tryz.underlying200
 a173:=Tryz.isAgg200
 z173:=Tryz.sizeOf200
 v173:=Tryz.zeroValue200
 t212:=Tryz.underlying219
 a212:=Tryz.isAgg219
 z212:=Tryz.sizeOf219
 v212:=Tryz.zeroValue219
 t213:=Tryz.underlying220
 a213:=Tryz.isAgg220
 z213:=Tryz.sizeOf220
 t232:=Tryz.underlying228
 a232:=Tryz.isAgg228
 z232:=Tryz.sizeOf228
 v232:=Tryz.zeroValue228
 t233:=Tryz.underlying229
 a233:=Tryz.isAgg229
 z233:=Tryz.sizeOf229
 v233:=Tryz.zeroValue229
 g17:=by kernel_rfl
 g18:=by kernel_rfl
 g19:=by kernel_rfl
 i0:=by kernel_rfl
 i2:=by kernel_rfl
 i3:=by kernel_rfl
 i4:=by kernel_rfl
 i5:=by kernel_rfl
 i9:=by kernel_rfl
 i20:=by kernel_rfl
 i37:=by kernel_rfl
 i46:=by kernel_rfl
 i51:=by kernel_rfl
 i53:=by kernel_rfl
 i171:=by kernel_rfl
 i173:=by kernel_rfl
 i212:=by kernel_rfl
 i232:=by kernel_rfl
 i233:=by kernel_rfl
 m17:=by kernel_rfl
 m18:=by kernel_rfl
 m19:=by kernel_rfl}
open Go.RowKit Go.Sort Go.Lib in
theorem Tryz.strconv_Itoa (n:Int) (h0: -9223372036854775808≤n) (h1:n≤9223372036854775807) (w:World) (htab:Lib.TabIs Tryz.prog w "internal/strconv.uint64pow10" .u64 Lib.pow10Tab):
  Calls Tryz.prog 77 #[.int .i64 n] w fun e w'=>e= .returned (.string ⟨(Lib.itoa n).toArray⟩)∧ ∃k os,w'=grow (w.drewN k) os:=Any.strconv_Itoa Tryz.laysM171 n h0 h1 w htab
open Go.RowKit Go.Sort Go.Lib in
def Tryz.laysPu14_ren:Go.Shelf.Ren:=⟨fun | 14=>93 | 16=>110 | 17=>111 | 19=>121 | 20=>122 | 21=>123 | 22=>124 | 23=>125 | 24=>126 | 25=>145 | 27=>77 | 26=>146 | 28=>97 | 29=>114 | 30=>138 | 31=>139 | 32=>140 | 33=>141 | 35=>137 | 34=>153 | 36=>154 | 37=>155 | 38=>156 | 39=>159 | 40=>160 | n=>n,fun | 9=>9 | 3=>3 | 22=>37 | 24=>126 | 25=>141 | 4=>4 | 34=>182 | 5=>5 | 36=>148 | 37=>39 | 0=>0 | 39=>185 | 21=>21 | 44=>209 | 47=>179 | 50=>224 | 48=>222 | 2=>2 | 52=>198 | 55=>200 | 59=>219 | 60=>122 | 20=>20 | 61=>220 | 65=>228 | 66=>229 | 67=>92 | n=>n,fun | 0=>0 | 1=>1 | 2=>2 | 3=>4 | 4=>5 | n=>n⟩
theorem Tryz.laysPu14:Go.Proofs.LaysPu.n14 Tryz.prog Tryz.laysPu14_ren:= {
 mixed:=by kernel_rfl
 f14:=Tryz.func93.trans (congrArg some (by kernel_rfl))
 f16:=Tryz.func110.trans (congrArg some (by kernel_rfl))
 f17:=Tryz.func111.trans (congrArg some (by kernel_rfl))
 f19:=Tryz.func121.trans (congrArg some (by kernel_rfl))
 f20:=Tryz.func122.trans (congrArg some (by kernel_rfl))
 f21:=Tryz.func123.trans (congrArg some (by kernel_rfl))
 f22:=Tryz.func124.trans (congrArg some (by kernel_rfl))
 f23:=Tryz.func125.trans (congrArg some (by kernel_rfl))
 f24:=Tryz.func126.trans (congrArg some (by kernel_rfl))
 f25:=Tryz.func145.trans (congrArg some (by kernel_rfl))
 f26:=Tryz.func146.trans (congrArg some (by kernel_rfl))
 f27:=Tryz.func77.trans (congrArg some (by kernel_rfl))
 f28:=Tryz.func97.trans (congrArg some (by kernel_rfl))
 f29:=Tryz.func114.trans (congrArg some (by kernel_rfl))
 f30:=Tryz.func138.trans (congrArg some (by kernel_rfl))
 f31:=Tryz.func139.trans (congrArg some (by kernel_rfl))
 f32:=Tryz.func140.trans (congrArg some (by kernel_rfl))
 f33:=Tryz.func141.trans (congrArg some (by kernel_rfl))
 f34:=Tryz.func153.trans (congrArg some (by kernel_rfl))
 f35:=Tryz.func137.trans (congrArg some (by kernel_rfl))
 f36:=Tryz.func154.trans (congrArg some (by kernel_rfl))
 f37:=Tryz.func155.trans (congrArg some (by kernel_rfl))
 f38:=Tryz.func156.trans (congrArg some (by kernel_rfl))
 f39:=Tryz.func159.trans (congrArg some (by kernel_rfl))
 f40:=Tryz.func160.trans (congrArg some (by kernel_rfl))
 t0:=Tryz.underlying0
 a0:=Tryz.isAgg0
 z0:=Tryz.sizeOf0
 v0:=Tryz.zeroValue0
 i0:=by kernel_rfl
 t2:=Tryz.underlying2
 a2:=Tryz.isAgg2
 z2:=Tryz.sizeOf2
 v2:=Tryz.zeroValue2
 i2:=by kernel_rfl
 t3:=Tryz.underlying3
 a3:=Tryz.isAgg3
 z3:=Tryz.sizeOf3
 v3:=Tryz.zeroValue3
 i3:=by kernel_rfl
 t4:=Tryz.underlying4
 a4:=Tryz.isAgg4
 z4:=Tryz.sizeOf4
 v4:=Tryz.zeroValue4
 i4:=by kernel_rfl
 t5:=Tryz.underlying5
 a5:=Tryz.isAgg5
 z5:=Tryz.sizeOf5
 v5:=Tryz.zeroValue5
 i5:=by kernel_rfl
 t9:=Tryz.underlying9
 a9:=Tryz.isAgg9
 z9:=Tryz.sizeOf9
 v9:=Tryz.zeroValue9
 i9:=by kernel_rfl
 t20:=Tryz.underlying20
 a20:=Tryz.isAgg20
 z20:=Tryz.sizeOf20
 v20:=Tryz.zeroValue20
 i20:=by kernel_rfl
 t21:=Tryz.underlying21
 a21:=Tryz.isAgg21
 z21:=Tryz.sizeOf21
 v21:=Tryz.zeroValue21
 i21:=by kernel_rfl
 t22:=Tryz.underlying37
 a22:=Tryz.isAgg37
 z22:=Tryz.sizeOf37
 v22:=Tryz.zeroValue37
 i22:=by kernel_rfl
 t24:=Tryz.underlying126
 a24:=Tryz.isAgg126
 z24:=Tryz.sizeOf126
 v24:=Tryz.zeroValue126
 i24:=by kernel_rfl
 t25:=Tryz.underlying141
 a25:=Tryz.isAgg141
 z25:=Tryz.sizeOf141
 v25:=Tryz.zeroValue141
 i25:=by kernel_rfl
 t34:=Tryz.underlying182
 a34:=Tryz.isAgg182
 z34:=Tryz.sizeOf182
 v34:=Tryz.zeroValue182
 i34:=by kernel_rfl
 c34:=by kernel_rfl
 t36:=Tryz.underlying148
 a36:=Tryz.isAgg148
 z36:=Tryz.sizeOf148
 v36:=Tryz.zeroValue148
 i36:=by kernel_rfl
 t37:=Tryz.underlying39
 a37:=Tryz.isAgg39
 z37:=Tryz.sizeOf39
 v37:=Tryz.zeroValue39
 i37:=by kernel_rfl
 t39:=Tryz.underlying185
 a39:=Tryz.isAgg185
 z39:=Tryz.sizeOf185
 v39:=Tryz.zeroValue185
 i39:=by kernel_rfl
 t44:=Tryz.underlying209
 a44:=Tryz.isAgg209
 z44:=Tryz.sizeOf209
 v44:=Tryz.zeroValue209
 i44:=by kernel_rfl
 t47:=Tryz.underlying179
 a47:=Tryz.isAgg179
 z47:=Tryz.sizeOf179
 v47:=Tryz.zeroValue179
 i47:=by kernel_rfl
 t48:=Tryz.underlying222
 a48:=Tryz.isAgg222
 z48:=Tryz.sizeOf222
 v48:=Tryz.zeroValue222
 i48:=by kernel_rfl
 t50:=Tryz.underlying224
 a50:=Tryz.isAgg224
 z50:=Tryz.sizeOf224
 v50:=Tryz.zeroValue224
 i50:=by kernel_rfl
 t52:=Tryz.underlying198
 a52:=Tryz.isAgg198
 z52:=Tryz.sizeOf198
 v52:=Tryz.zeroValue198
 i52:=by kernel_rfl
 t55:=Tryz.underlying200
 a55:=Tryz.isAgg200
 z55:=Tryz.sizeOf200
 v55:=Tryz.zeroValue200
 i55:=by kernel_rfl
 t59:=Tryz.underlying219
 a59:=Tryz.isAgg219
 z59:=Tryz.sizeOf219
 v59:=Tryz.zeroValue219
 i59:=by kernel_rfl
 t60:=Tryz.underlying122
 a60:=Tryz.isAgg122
 z60:=Tryz.sizeOf122
 v60:=Tryz.zeroValue122
 i60:=by kernel_rfl
 t61:=Tryz.underlying220
 a61:=Tryz.isAgg220
 z61:=Tryz.sizeOf220
 t65:=Tryz.underlying228
 a65:=Tryz.isAgg228
 z65:=Tryz.sizeOf228
 v65:=Tryz.zeroValue228
 i65:=by kernel_rfl
 t66:=Tryz.underlying229
 a66:=Tryz.isAgg229
 z66:=Tryz.sizeOf229
 v66:=Tryz.zeroValue229
 i66:=by kernel_rfl
 t67:=Tryz.underlying92
 a67:=Tryz.isAgg92
 z67:=Tryz.sizeOf92
 v67:=Tryz.zeroValue92
 i67:=by kernel_rfl
 g0:=by kernel_rfl
 m0:=by kernel_rfl
 g1:=by kernel_rfl
 m1:=by kernel_rfl
 g2:=by kernel_rfl
 m2:=by kernel_rfl
 g3:=by kernel_rfl
 m3:=by kernel_rfl
 g4:=by kernel_rfl
 m4:=by kernel_rfl}
open Go.RowKit in
theorem Tryz.strconv_ParseUint_10_at32_ok (s:ByteArray) (hmax:s.size≤9223372036854775806) (u:Nat) (h:Lib.parseUintB 32 s.data.toList= .ok u) (w:World):
  Calls Tryz.prog 93 #[.string s,.int .i64 10,.int .i64 32] w fun e w'=>e= .returned (.tuple #[.int .u64 u,.nilIface])∧(w'=w∨w'=Lib.bytesWorld w 5 s):=Any.strconv_ParseUint_10_at32_ok Tryz.laysPu14 s hmax u h w
open Go.RowKit in
theorem Tryz.strconv_ParseUint_10_at32_bad (s:ByteArray) (hlim:s.size≤281474976710656) (h1: ∀n,Lib.parseUintB 32 s.data.toList≠ .ok n) (h2:Lib.parseUintB 32 s.data.toList≠ .range) (ev:Value) (w:World) (hv:w.cell? ⟨0,0,none⟩=some ev) (hev:ev= .nilIface∨ ∃te pe,ev= .iface te pe):
  Calls Tryz.prog 93 #[.string s,.int .i64 10,.int .i64 32] w fun e w'=> ∃N,e= .returned (.tuple #[.int .u64 0,.iface 185 (.pointer (some ⟨N,0,none⟩))])∧w.heap.size≤N∧w'.heap[N]?=some (.cells #[.string ⟨#[80,97,114,115,101,85,105,110,116]⟩,.string s,ev] 209 (0,0))∧Below w.heap.size w w':=by
 refine Any.strconv_ParseUint_10_at32_syntax Tryz.laysPu14 s hlim ?_ ev w hv hev;revert h1 h2
 cases Lib.parseUintB 32 s.data.toList
 ·exact fun h1 _=>absurd rfl (h1 _)
 ·exact fun _ _=>rfl
 ·exact fun _ h2=>absurd rfl h2
def Tryz.lays190_ren:Go.Shelf.Ren:=⟨fun | 190=>96 | 125=>113 | 258=>112 | 128=>136 | 129=>137 | 302=>127 | 303=>128 | 304=>129 | 305=>130 | 306=>131 | 307=>132 | 308=>133 | 309=>134 | 310=>135 | 333=>147 | 329=>148 | 330=>149 | 334=>150 | 335=>151 | 336=>152 | 344=>158 | n=>n,fun | 31=>70 | 9=>9 | 3=>3 | 46=>148 | 0=>0 | 51=>122 | 53=>37 | 4=>4 | 183=>190 | 182=>189 | 131=>194 | 5=>5 | 218=>211 | 222=>215 | 228=>225 | 229=>226 | n=>n,fun | n=>n⟩
theorem Tryz.lays190:Go.Proofs.Lays.n190 Tryz.prog Tryz.lays190_ren:= {
 mixed:=by kernel_rfl
 f125:=Tryz.func113.trans (congrArg some (by kernel_rfl))
 f128:=Tryz.func136.trans (congrArg some (by kernel_rfl))
 f129:=Tryz.func137.trans (congrArg some (by kernel_rfl))
 f190:=Tryz.func96.trans (congrArg some (by kernel_rfl))
 f258:=Tryz.func112.trans (congrArg some (by kernel_rfl))
 f302:=Tryz.func127.trans (congrArg some (by kernel_rfl))
 f303:=Tryz.func128.trans (congrArg some (by kernel_rfl))
 f304:=Tryz.func129.trans (congrArg some (by kernel_rfl))
 f305:=Tryz.func130.trans (congrArg some (by kernel_rfl))
 f306:=Tryz.func131.trans (congrArg some (by kernel_rfl))
 f307:=Tryz.func132.trans (congrArg some (by kernel_rfl))
 f308:=Tryz.func133.trans (congrArg some (by kernel_rfl))
 f309:=Tryz.func134.trans (congrArg some (by kernel_rfl))
 f310:=Tryz.func135.trans (congrArg some (by kernel_rfl))
 f329:=Tryz.func148.trans (congrArg some (by kernel_rfl))
 f330:=Tryz.func149.trans (congrArg some (by kernel_rfl))
 f333:=Tryz.func147.trans (congrArg some (by kernel_rfl))
 f334:=Tryz.func150.trans (congrArg some (by kernel_rfl))
 f335:=Tryz.func151.trans (congrArg some (by kernel_rfl))
 f336:=Tryz.func152.trans (congrArg some (by kernel_rfl))
 f344:=Tryz.func158.trans (congrArg some (by kernel_rfl))
 t0:=Tryz.underlying0
 a0:=Tryz.isAgg0
 z0:=Tryz.sizeOf0
 v0:=Tryz.zeroValue0
 t3:=Tryz.underlying3
 a3:=Tryz.isAgg3
 z3:=Tryz.sizeOf3
 v3:=Tryz.zeroValue3
 t4:=Tryz.underlying4
 a4:=Tryz.isAgg4
 z4:=Tryz.sizeOf4
 v4:=Tryz.zeroValue4
 t5:=Tryz.underlying5
 a5:=Tryz.isAgg5
 z5:=Tryz.sizeOf5
 v5:=Tryz.zeroValue5
 t9:=Tryz.underlying9
 a9:=Tryz.isAgg9
 z9:=Tryz.sizeOf9
 v9:=Tryz.zeroValue9
 t31:=Tryz.underlying70
 a31:=Tryz.isAgg70
 z31:=Tryz.sizeOf70
 v31:=Tryz.zeroValue70
 t46:=Tryz.underlying148
 a46:=Tryz.isAgg148
 z46:=Tryz.sizeOf148
 v46:=Tryz.zeroValue148
 t51:=Tryz.underlying122
 a51:=Tryz.isAgg122
 z51:=Tryz.sizeOf122
 v51:=Tryz.zeroValue122
 t53:=Tryz.underlying37
 a53:=Tryz.isAgg37
 z53:=Tryz.sizeOf37
 v53:=Tryz.zeroValue37
 t131:=Tryz.underlying194
 a131:=Tryz.isAgg194
 z131:=Tryz.sizeOf194
 v131:=Tryz.zeroValue194
 t182:=Tryz.underlying189
 a182:=Tryz.isAgg189
 z182:=Tryz.sizeOf189
 v182:=Tryz.zeroValue189
 t183:=Tryz.underlying190
 a183:=Tryz.isAgg190
 z183:=Tryz.sizeOf190
 v183:=Tryz.zeroValue190
 t218:=Tryz.underlying211
 a218:=Tryz.isAgg211
 z218:=Tryz.sizeOf211
 v218:=Tryz.zeroValue211
 t222:=Tryz.underlying215
 a222:=Tryz.isAgg215
 z222:=Tryz.sizeOf215
 v222:=Tryz.zeroValue215
 t228:=Tryz.underlying225
 a228:=Tryz.isAgg225
 z228:=Tryz.sizeOf225
 v228:=Tryz.zeroValue225
 t229:=Tryz.underlying226
 a229:=Tryz.isAgg226
 z229:=Tryz.sizeOf226
 v229:=Tryz.zeroValue226}
open Go.Sort Go.RowKit in
theorem Tryz.slices_Sort_string (blk off cap:Nat) (ss:List (List UInt8)) (w:World) (hH:Holds encStr w blk off ss.toArray) (hblk:blk<w.heap.size) (hsz:ss.length<4611686018427387904):
  Calls Tryz.prog 96 #[.slice (some ⟨blk,off,none⟩) ss.length cap] w fun e w'=>
   e= .returned (.tuple #[])∧ ∃n os,w'=grow (putRow encStr (Sort.ahead w n) blk off (ss.mergeSort fun x y=>decide (x≤y)).toArray) os:=Any.slices_Sort_string Tryz.lays190 blk off cap ss w hH hblk hsz
def Tryz.lays105_ren:Go.Shelf.Ren:=⟨fun | 105=>78 | 212=>98 | 99=>99 | 165=>100 | 166=>101 | 170=>102 | 169=>103 | 263=>115 | 264=>116 | 206=>117 | 240=>118 | 241=>119 | 276=>142 | 277=>143 | n=>n,fun | 9=>9 | 3=>3 | 4=>4 | 20=>20 | 0=>0 | 46=>148 | 109=>149 | 5=>5 | 72=>154 | 76=>127 | 51=>122 | 146=>175 | 53=>37 | 148=>177 | 70=>152 | 37=>39 | 75=>126 | 127=>179 | 164=>202 | 80=>92 | n=>n,fun | n=>n⟩
theorem Tryz.lays105:Go.Proofs.Lays.n105 Tryz.prog Tryz.lays105_ren:= {
 mixed:=by kernel_rfl
 f99:=Tryz.func99.trans (congrArg some (by kernel_rfl))
 f105:=Tryz.func78.trans (congrArg some (by kernel_rfl))
 f165:=Tryz.func100.trans (congrArg some (by kernel_rfl))
 f166:=Tryz.func101.trans (congrArg some (by kernel_rfl))
 f169:=Tryz.func103.trans (congrArg some (by kernel_rfl))
 f170:=Tryz.func102.trans (congrArg some (by kernel_rfl))
 f206:=Tryz.func117.trans (congrArg some (by kernel_rfl))
 f212:=Tryz.func98.trans (congrArg some (by kernel_rfl))
 f240:=Tryz.func118.trans (congrArg some (by kernel_rfl))
 f241:=Tryz.func119.trans (congrArg some (by kernel_rfl))
 f263:=Tryz.func115.trans (congrArg some (by kernel_rfl))
 f264:=Tryz.func116.trans (congrArg some (by kernel_rfl))
 f276:=Tryz.func142.trans (congrArg some (by kernel_rfl))
 f277:=Tryz.func143.trans (congrArg some (by kernel_rfl))
 t0:=Tryz.underlying0
 a0:=Tryz.isAgg0
 z0:=Tryz.sizeOf0
 v0:=Tryz.zeroValue0
 t3:=Tryz.underlying3
 a3:=Tryz.isAgg3
 z3:=Tryz.sizeOf3
 v3:=Tryz.zeroValue3
 t4:=Tryz.underlying4
 a4:=Tryz.isAgg4
 z4:=Tryz.sizeOf4
 v4:=Tryz.zeroValue4
 t5:=Tryz.underlying5
 a5:=Tryz.isAgg5
 z5:=Tryz.sizeOf5
 v5:=Tryz.zeroValue5
 t9:=Tryz.underlying9
 a9:=Tryz.isAgg9
 z9:=Tryz.sizeOf9
 v9:=Tryz.zeroValue9
 t20:=Tryz.underlying20
 a20:=Tryz.isAgg20
 z20:=Tryz.sizeOf20
 v20:=Tryz.zeroValue20
 t37:=Tryz.underlying39
 a37:=Tryz.isAgg39
 z37:=Tryz.sizeOf39
 v37:=Tryz.zeroValue39
 t46:=Tryz.underlying148
 a46:=Tryz.isAgg148
 z46:=Tryz.sizeOf148
 v46:=Tryz.zeroValue148
 t51:=Tryz.underlying122
 a51:=Tryz.isAgg122
 z51:=Tryz.sizeOf122
 v51:=Tryz.zeroValue122
 t53:=Tryz.underlying37
 a53:=Tryz.isAgg37
 z53:=Tryz.sizeOf37
 v53:=Tryz.zeroValue37
 t70:=Tryz.underlying152
 a70:=Tryz.isAgg152
 z70:=Tryz.sizeOf152
 v70:=Tryz.zeroValue152
 t72:=Tryz.underlying154
 a72:=Tryz.isAgg154
 z72:=Tryz.sizeOf154
 v72:=Tryz.zeroValue154
 t75:=Tryz.underlying126
 a75:=Tryz.isAgg126
 z75:=Tryz.sizeOf126
 v75:=Tryz.zeroValue126
 t76:=Tryz.underlying127
 a76:=Tryz.isAgg127
 z76:=Tryz.sizeOf127
 v76:=Tryz.zeroValue127
 t109:=Tryz.underlying149
 a109:=Tryz.isAgg149
 z109:=Tryz.sizeOf149
 v109:=Tryz.zeroValue149
 t127:=Tryz.underlying179
 a127:=Tryz.isAgg179
 z127:=Tryz.sizeOf179
 v127:=Tryz.zeroValue179
 t146:=Tryz.underlying175
 a146:=Tryz.isAgg175
 z146:=Tryz.sizeOf175
 v146:=Tryz.zeroValue175
 t148:=Tryz.underlying177
 a148:=Tryz.isAgg177
 z148:=Tryz.sizeOf177
 v148:=Tryz.zeroValue177
 t164:=Tryz.underlying202
 a164:=Tryz.isAgg202
 z164:=Tryz.sizeOf202
 v164:=Tryz.zeroValue202}
theorem Tryz.Builder_Extra_105:Builder.Extra Tryz.prog Tryz.lays105_ren:= {
 sizeBuilder:=by kernel_rfl
 liesBuilder:=by kernel_rfl
 t5:=Tryz.underlying5
 a5:=Tryz.isAgg5
 z5:=Tryz.sizeOf5
 v5:=Tryz.zeroValue5
 infoByte:=by kernel_rfl
 cellsByte:=by kernel_rfl
 sizeByte:=by kernel_rfl
 neB5:=by decide}
open Go.RowKit Go.Lib in
theorem Tryz.strings_Repeat (s:ByteArray) (c:Nat) (w:World) (hc:c≤9223372036854775807) (hlen:s.size*c≤140737488355328):
  Calls Tryz.prog 78 #[.string s,.int .i64 c] w fun e w'=>e= .returned (.string ⟨(Lib.repeatL s.data.toList c).toArray⟩)∧Below w.heap.size w w':=Any.strings_Repeat Tryz.lays105 Tryz.Builder_Extra_105 s c w hc hlen
open Go.RowKit Go.Sort in
theorem Tryz.slices_Sort_string_none (p:Option Addr) (cap:Nat) (w:World):
  Calls Tryz.prog 96 #[.slice p 0 cap] w fun e w'=>e= .returned (.tuple #[])∧w'=w:=Any.slices_Sort_string_none Tryz.lays190 p cap w
def Tryz.laysSlK4_ren:Go.Shelf.Ren:=⟨fun | 4=>54 | n=>n,fun | 22=>39 | 4=>4 | 5=>5 | n=>n,fun | n=>n⟩
theorem Tryz.laysSlK4:Go.Proofs.SlLaysK.n4 Tryz.prog Tryz.laysSlK4_ren:= {
 mixed:=by kernel_rfl
 f4:=Tryz.func54.trans (congrArg some (by kernel_rfl))
 t4:=Tryz.underlying4
 a4:=Tryz.isAgg4
 z4:=Tryz.sizeOf4
 v4:=Tryz.zeroValue4
 t22:=Tryz.underlying39
 a22:=Tryz.isAgg39
 z22:=Tryz.sizeOf39
 v22:=Tryz.zeroValue39
 t5:=Tryz.underlying5
 i5:=by kernel_rfl}
open Go.RowKit Go.Lib in
theorem Tryz.bytes_Clone_at (a:Addr) (n c:Nat) (xs:List Int) (w:World) (hx:xs.length=n) (hbig:n≤140737488355328) (hc: ∀i,i<n→w.cell? (a.add i)=some (.int .u8 (xs.getD i 0))):
  Calls Tryz.prog 54 #[.slice (some a) n c] w fun e w'=> ∃v',e= .returned v'∧w'.ownsRow w.heap.size 5 1 v' n (xs.map (Value.int .u8))∧v'≠ .slice none 0 0∧Below w.heap.size w w':=Any.bytes_Clone_at Tryz.laysSlK4 a n c xs w hx hbig hc
open Go.RowKit Go.Lib in
theorem Tryz.bytes_Clone_nil (n c:Nat) (w:World):
  Calls Tryz.prog 54 #[.slice none n c] w fun e w'=>e= .returned (.slice none 0 0)∧w'=w:=Any.bytes_Clone_nil Tryz.laysSlK4 n c w
end Go.Proofs
