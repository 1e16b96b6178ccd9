/- Contracts of the Go library that the kit proves, at this program, in plain words. slices.SortedFunc at []api.Node, by Ids, by its contract. The reference's Order, by its contract. -/
import Derived.Shelf.Small.Bits
import Derived.Shelf.Strconv.Itoa0
import Derived.Ground.MpProg
import Derived.Shelf.Pu.ParseUintPublic10
import Derived.Shelf.Pu.ErrVarParseUint
import Derived.Shelf.Strings.Search1
import Derived.Shelf.Strings.Search2
import Derived.Shelf.Strings.Search3
import Derived.Shelf.Strings.Cut
import Derived.Shelf.Strings.Count
import Derived.Shelf.LaysM
import Derived.Shelf.Strings.Shaped
import Derived.Shelf.Strings.Prefix
import Derived.Shelf.Strings.Split
import Derived.Shelf.Strings.Fold
import Derived.Shelf.Strings.SplitShaped
import Derived.Shelf.Unicode.DecodeSlow
import Derived.Shelf.Unicode.DecodeAny
import Derived.Shelf.Unicode.CaseLookup
import Derived.Shelf.Unicode.CaseConvert
import Derived.Ground.SlgnProg
import Derived.Shelf.SlicesE.Index
import Derived.Shelf.SlicesE.Compact
import Derived.Test.YtpbnjibomdilhaaGreatDoorProg
import Derived.Shelf.SlSortCmp.WholeK
import Derived.Ground.SlsfProg
import Derived.Test.YtpbnjibomdilhaaGreatDoorGValN13
import Derived.Shelf.SlSortCmp.NoneTotal
import Derived.Test.YtpbnjibomdilhaaGreatDoorMat
namespace Go.Proofs
open Go.Shelf
def Tryz.sortN_ren : Go.Shelf.Ren := ⟨fun | 6 => 69 | 15 => 62 | 14 => 89 | 28 => 81 | 29 => 82 | 20 => 99 | 21 => 100 | 22 => 101 | 23 => 102 | 24 => 103 | 25 => 104 | 26 => 105 | 27 => 106 | 46 => 114 | 47 => 91 | 48 => 92 | 49 => 115 | 50 => 116 | 57 => 123 | n => n, fun | 22 => 47 | 24 => 72 | 25 => 92 | 3 => 3 | 39 => 97 | 0 => 0 | 53 => 120 | 55 => 26 | 4 => 4 | 46 => 112 | 45 => 111 | 50 => 117 | 5 => 5 | 9 => 9 | 66 => 128 | 70 => 131 | 76 => 145 | 77 => 146 | n => n, fun | n => n⟩
theorem Tryz.sortN : Go.Proofs.SlLaysF0.n6 Tryz.prog Tryz.sortN_ren := {
  mixed := by kernel_rfl
  f6 := ⟨Tryz.f69.name, by decide, Tryz.func69.trans (congrArg some (by kernel_rfl))⟩
  f14 := ⟨Tryz.f89.name, by decide, Tryz.func89.trans (congrArg some (by kernel_rfl))⟩
  f15 := Tryz.func62.trans (congrArg some (by kernel_rfl))
  f20 := ⟨Tryz.f99.name, by decide, Tryz.func99.trans (congrArg some (by kernel_rfl))⟩
  f21 := ⟨Tryz.f100.name, by decide, Tryz.func100.trans (congrArg some (by kernel_rfl))⟩
  f22 := ⟨Tryz.f101.name, by decide, Tryz.func101.trans (congrArg some (by kernel_rfl))⟩
  f23 := ⟨Tryz.f102.name, by decide, Tryz.func102.trans (congrArg some (by kernel_rfl))⟩
  f24 := ⟨Tryz.f103.name, by decide, Tryz.func103.trans (congrArg some (by kernel_rfl))⟩
  f25 := ⟨Tryz.f104.name, by decide, Tryz.func104.trans (congrArg some (by kernel_rfl))⟩
  f26 := ⟨Tryz.f105.name, by decide, Tryz.func105.trans (congrArg some (by kernel_rfl))⟩
  f27 := ⟨Tryz.f106.name, by decide, Tryz.func106.trans (congrArg some (by kernel_rfl))⟩
  f28 := Tryz.func81.trans (congrArg some (by kernel_rfl))
  f29 := Tryz.func82.trans (congrArg some (by kernel_rfl))
  f46 := ⟨Tryz.f114.name, by decide, Tryz.func114.trans (congrArg some (by kernel_rfl))⟩
  f47 := Tryz.func91.trans (congrArg some (by kernel_rfl))
  f48 := Tryz.func92.trans (congrArg some (by kernel_rfl))
  f49 := ⟨Tryz.f115.name, by decide, Tryz.func115.trans (congrArg some (by kernel_rfl))⟩
  f50 := ⟨Tryz.f116.name, by decide, Tryz.func116.trans (congrArg some (by kernel_rfl))⟩
  f57 := ⟨Tryz.f123.name, by decide, Tryz.func123.trans (congrArg some (by kernel_rfl))⟩
  t0 := Tryz.underlying0
  a0 := Tryz.isAgg0
  z0 := Tryz.sizeOf0
  v0 := Tryz.zeroValue0
  t3 := Tryz.underlying3
  a3 := Tryz.isAgg3
  z3 := Tryz.sizeOf3
  v3 := Tryz.zeroValue3
  t4 := Tryz.underlying4
  a4 := Tryz.isAgg4
  z4 := Tryz.sizeOf4
  v4 := Tryz.zeroValue4
  t5 := Tryz.underlying5
  a5 := Tryz.isAgg5
  z5 := Tryz.sizeOf5
  v5 := Tryz.zeroValue5
  t9 := Tryz.underlying9
  a9 := Tryz.isAgg9
  z9 := Tryz.sizeOf9
  v9 := Tryz.zeroValue9
  t22 := Tryz.underlying47
  a22 := Tryz.isAgg47
  z22 := Tryz.sizeOf47
  v22 := Tryz.zeroValue47
  t25 := Tryz.underlying92
  a25 := Tryz.isAgg92
  z25 := Tryz.sizeOf92
  v25 := Tryz.zeroValue92
  t39 := Tryz.underlying97
  a39 := Tryz.isAgg97
  z39 := Tryz.sizeOf97
  v39 := Tryz.zeroValue97
  t45 := Tryz.underlying111
  a45 := Tryz.isAgg111
  z45 := Tryz.sizeOf111
  v45 := Tryz.zeroValue111
  t46 := Tryz.underlying112
  a46 := Tryz.isAgg112
  z46 := Tryz.sizeOf112
  v46 := Tryz.zeroValue112
  t50 := Tryz.underlying117
  a50 := Tryz.isAgg117
  z50 := Tryz.sizeOf117
  v50 := Tryz.zeroValue117
  t53 := Tryz.underlying120
  a53 := Tryz.isAgg120
  z53 := Tryz.sizeOf120
  v53 := Tryz.zeroValue120
  t55 := Tryz.underlying26
  a55 := Tryz.isAgg26
  z55 := Tryz.sizeOf26
  v55 := Tryz.zeroValue26
  t66 := Tryz.underlying128
  a66 := Tryz.isAgg128
  z66 := Tryz.sizeOf128
  v66 := Tryz.zeroValue128
  t70 := Tryz.underlying131
  a70 := Tryz.isAgg131
  z70 := Tryz.sizeOf131
  v70 := Tryz.zeroValue131
  t76 := Tryz.underlying145
  a76 := Tryz.isAgg145
  z76 := Tryz.sizeOf145
  v76 := Tryz.zeroValue145
  t77 := Tryz.underlying146
  a77 := Tryz.isAgg146
  z77 := Tryz.sizeOf146
  v77 := Tryz.zeroValue146 }
end Go.Proofs

namespace Go.Proofs.YtpbnjibomdilhaaGreatDoor.Gph
open Go.RowKit Gr Go.Sort Go.Shelf Go.Lib

def cmpU (x y : Int) : Int := if x < y then -1 else if y < x then 1 else 0
theorem compare_u (x y : Int) (w : World) : Calls Tryz.prog 57 #[.int .u64 x, .int .u64 y] w fun e w' => e = .returned (.int .i64 (cmpU x y)) ∧ w' = w := by
  rcases Int.lt_trichotomy x y with h | h | h
  · have hc : cmpU x y = -1 := by simp [cmpU, h]
    have hd : decide (x < y) = true := by simp; omega
    have HC := Lib.hid hc
    clear hc
    go_enter Tryz.func57, Tryz.ntmps57
    go_wp2_with (go_at_call 71; refine (isNaN_u _ _).mono ?_; rintro e w' ⟨rfl, rfl⟩)
    go_ret
    exact ⟨by rw [HC.out]; rfl, by first | rfl | trivial⟩
  · subst h
    have hc : cmpU x x = 0 := by simp [cmpU]
    have HC := Lib.hid hc
    clear hc
    go_enter Tryz.func57, Tryz.ntmps57
    go_wp2_with (go_at_call 71; refine (isNaN_u _ _).mono ?_; rintro e w' ⟨rfl, rfl⟩)
    go_ret
    exact ⟨by rw [HC.out]; rfl, by first | rfl | trivial⟩
  · have hc : cmpU x y = 1 := by simp only [cmpU, if_neg (show ¬ x < y by omega), if_pos h]
    have hd : decide (x < y) = false := by simp; omega
    have hd2 : decide (y < x) = true := by simp; omega
    have HC := Lib.hid hc
    clear hc
    go_enter Tryz.func57, Tryz.ntmps57
    go_wp2_with (go_at_call 71; refine (isNaN_u _ _).mono ?_; rintro e w' ⟨rfl, rfl⟩)
    go_ret
    exact ⟨by rw [HC.out]; rfl, by first | rfl | trivial⟩

abbrev cmpN (x y : NodeV) : Int := cmpU x.id y.id
theorem lt_cmpN (x y : NodeV) : ltOf cmpN x y = decide (x.id < y.id) := by
  unfold ltOf cmpN cmpU
  by_cases h1 : x.id < y.id
  · simp [h1]
  · by_cases h2 : y.id < x.id <;> simp [h1, h2]
theorem swo_cmpN : SWO (ltOf cmpN) where
  irrefl x := by rw [lt_cmpN]; simp
  trans x y z h1 h2 := by rw [lt_cmpN] at *; simp at *; omega
  ntrans x y z h1 h2 := by rw [lt_cmpN] at *; simp at *; omega

set_option maxHeartbeats 1000000 in
theorem ordered1_any (x y : NodeV) (W : World) : Calls Tryz.prog 56 #[.agg #[.int .u64 x.id, .slice x.da x.deps.length x.dc], .agg #[.int .u64 y.id, .slice y.da y.deps.length y.dc]] W fun e w' => e = .returned (.int .i64 (cmpN x y)) ∧ ∃ q os', w' = grow (W.drewN q) os' := by
  have hcon := fun W' => compare_u x.id y.id W'
  unfold cmpN
  generalize cmpU x.id y.id = r at hcon ⊢
  go_enter Tryz.func56, Tryz.ntmps56
  go_wp2_with (go_at_call 57; refine (hcon _).mono ?_; rintro e w' ⟨rfl, rfl⟩)
  go_ret
  exact ⟨rfl, 0, _, by rw [alloc_eq_grow, alloc_eq_grow, grow_grow]; rfl⟩

theorem flatN_get {l : List NodeV} {t : Nat} (h : t < l.length * 2) : (flatN l)[t]? = some ((encN (l.toArray[t / 2]!))[t % 2]!) := by
  have hi : t / 2 < l.length := by omega
  have e : l.toArray[t / 2]! = l[t / 2] := by simp [hi]
  obtain ⟨h1, h2⟩ := flatN_at hi
  rw [e]
  rcases Nat.mod_two_eq_zero_or_one t with hm | hm
  · rw [hm]
    rw [show t / 2 * 2 = t by omega] at h1
    rw [h1]; rfl
  · rw [hm]
    rw [show t / 2 * 2 + 1 = t by omega] at h2
    rw [h2]; rfl

theorem holds_N {w : World} {B : Nat} {g : Nat} {cap : Nat} {l : List NodeV} {cur : Array Value} (h : w.ownsRow B 72 2 (.slice (some ⟨g, 0, none⟩) l.length cap) l.length (flatN l)) (hg : w.heap[g]? = some (.cells cur 72 (0, 0))) : HoldsK encN 2 w g 0 l.toArray := by
  intro t ht
  rw [size_flatK] at ht
  have ht2 : t < l.length * 2 := by simpa using ht
  refine ⟨?_, by simp [World.frozen?, hg]⟩
  rw [Nat.zero_add, h.cellAt _ ht2, get_flatK _ _ _ _ ht, flatN_get ht2]
  rfl

theorem below_sort {w : World} {g n : Nat} {d : Array NodeV} {os : Array Obj} : w.grownBy (sortWorldK encN 2 w g 0 n d os) (some g) := by
  unfold sortWorldK putRowK
  refine ⟨rfl, rfl, rfl, by simp, fun k hk hne => ?_⟩
  rw [heap_grow_old _ _ (by simpa using hk)]
  have : g ≠ k := fun e => hne (by rw [e])
  simp [putRow, mapBlock, Sort.ahead, Array.getElem?_modify, this]

/-- slices.SortFunc of a row of nodes of the caller's own (what its nodes' Deps are lies below B): the same nodes, by rising Ids -/
theorem sortN_own {w w0 : World} {a : Option Addr} {c : Nat} {l : List NodeV} (t : RowN w0.heap.size (.slice a l.length c) l w) (hb : RowKit.Below w0.heap.size w0 w) (hf : ∀ v ∈ l, NodeF w0 v) (hsz : l.length < 1000000) :
    Calls Tryz.prog 69 #[.slice a l.length c, .func (.func 56) #[] #[]] w fun e w' => e = .returned (.tuple #[]) ∧
      ∃ l', l'.Perm l ∧ (l'.map (·.id)).Pairwise (· ≤ ·) ∧ NodesF w' a l' ∧ RowKit.Below w0.heap.size w0 w' := by
  obtain ⟨h⟩ := t
  rcases h.2 with ⟨e, h0⟩ | ⟨g, cap, cur, e, hB, hg, r1, r2, r3, r4⟩
  · obtain rfl := List.eq_nil_of_length_eq_zero h0
    have hn := AnyF.slices_SortFunc_none (P := Tryz.prog) Tryz.sortN a c (.func (.func 56) #[] #[]) w
    change Calls Tryz.prog 69 _ _ _ at hn
    refine hn.mono ?_
    rintro e w' ⟨rfl, rfl⟩
    exact ⟨rfl, [], List.Perm.refl _, by simp, NodesF.nil _ _, hb⟩
  · cases e
    have hlt : g < w.heap.size := (Array.getElem?_eq_some_iff.1 hg).1
    have hH := holds_N h hg
    have eg : ∀ args w, (callFunc 56 args).run Tryz.prog w = .ok (.enter 56 args) w := enters_of Tryz.func56 (by kernel_rfl) rfl
    have hcon := AnyQ.slices_SortFunc Tryz.sortN 2 Tryz.isAgg72 Tryz.sizeOf72 encN (fun _ => rfl) (fun x v hv => by simp [encN] at hv; rcases hv with rfl | rfl <;> rfl) cmpN swo_cmpN 56 #[] g 0 c l.toArray w eg (fun _ _ _ _ x y => ordered1_any x y _) hH hlt (by simp; omega)
    change Calls Tryz.prog 69 _ _ _ at hcon
    rw [show l.toArray.size = l.length by simp] at hcon
    refine hcon.mono ?_
    rintro e w' ⟨rfl, d', n, os, hp, hs, rfl⟩
    have hds : d'.size = l.length := by have := hp.1; simpa using this
    have hperm : d'.toList.Perm l := by
      have := hp.2.2
      rw [show d'.extract 0 l.length = d' by rw [← hds]; exact Array.extract_size, show l.toArray.extract 0 l.length = l.toArray by rw [show l.length = l.toArray.size by simp]; exact Array.extract_size] at this
      exact this
    have hH2 : HoldsK encN 2 (sortWorldK encN 2 w g 0 n d' os) g 0 d' := holdsK_sortWorldK_c encN 2 w g 0 l.toArray d' n os hH hlt (by simpa using hds)
    have hg2 := below_sort (w := w) (g := g) (n := n) (d := d') (os := os)
    have hb2 : RowKit.Below w0.heap.size w0 (sortWorldK encN 2 w g 0 n d' os) := hb.grown hg2 hb.size (fun k e => by cases e; exact hB)
    have hlt2 : g < (sortWorldK encN 2 w g 0 n d' os).heap.size := Nat.lt_of_lt_of_le hlt hg2.size
    refine ⟨rfl, d'.toList, hperm, ?_, ⟨⟨g, 0, fun _ => rfl, fun i hi => ?_⟩, fun v hv => (hf v (hperm.mem_iff.1 hv)).below hb2⟩, hb2⟩
    · rw [List.pairwise_map]
      refine List.pairwise_iff_getElem.2 fun i j hi hj hij => ?_
      have hi2 : i < d'.size := by simpa using hi
      have hj2 : j < d'.size := by simpa using hj
      have := hs i j (Nat.zero_le _) hij (by omega)
      rw [lt_cmpN, getElem!_pos d' i hi2, getElem!_pos d' j hj2] at this
      simp only [decide_eq_false_iff_not] at this
      simp only [Array.getElem_toList]
      omega
    · have hi2 : i < d'.size := by simpa using hi
      have c0 := (hH2.cell hi2 (show 0 < 2 by omega)).1
      have c1 := (hH2.cell hi2 (show 1 < 2 by omega)).1
      rw [getElem!_pos d' i hi2] at c0 c1
      simp only [Array.getElem_toList]
      exact ⟨hlt2, c0, c1⟩

set_option maxRecDepth 100000 in
/-- slices.SortedFunc of a row's values: the same nodes, by rising Ids -/
theorem sortedN_any (p : Nat) (a : Option Addr) (c : Nat) (l : List NodeV) (w : World) (hp : w.cell? ⟨p, 0, none⟩ = some (.slice a l.length c)) (hN : NodesF w a l) (hsz : l.length ≤ 100000) :
    Calls Tryz.prog 54 #[.func (.func 70) #[] #[.pointer (some ⟨p, 0, none⟩)], .func (.func 56) #[] #[]] w fun e w' =>
      ∃ a' c' l', e = .returned (.slice a' l'.length c') ∧ l'.Perm l ∧ (l'.map (·.id)).Pairwise (· ≤ ·) ∧ NodesF w' a' l' ∧ RowKit.Below w.heap.size w w' := by
  have HC := Lib.hid (collectN_any p a c l w hp hN (by omega))
  have HE := Lib.hid hN.each
  clear hp hN
  go_enter Tryz.func54, Tryz.ntmps54
  go_wp2_with fail
  refine HC.out.mono ?_
  rintro e w1 ⟨v, rfl, hrow, hb⟩
  obtain ⟨va, vc, rfl⟩ := hrow.shape
  have HSO := Lib.hid (sortN_own hrow hb HE.out (by omega))
  clear hrow hb
  go_wp2_with fail
  refine HSO.out.mono ?_
  rintro e w2 ⟨rfl, l', hpm, hpw, hN2, hb2⟩
  have hlen := hpm.length_eq
  have HX := Lib.hid (And.intro hpm (And.intro hpw (And.intro hN2 hb2)))
  clear hpm hpw hN2 hb2
  rw [← hlen]
  clear hlen
  go_wp2_with fail
  go_ret
  exact ⟨va, vc, l', rfl, HX.out.1, HX.out.2.1, HX.out.2.2.1, HX.out.2.2.2⟩

end Go.Proofs.YtpbnjibomdilhaaGreatDoor.Gph

namespace Go.Proofs.YtpbnjibomdilhaaGreatDoor.Gph
open Go.RowKit Gr Go.Sort

/-- a row's order, or none -/
def ordOf (L : Row) : List Int := if mayOf L = 0 then orderOf L else []
theorem ordOf_ok {L : Row} (h : mayOf L = 0) : ordOf L = orderOf L := by simp [ordOf, h]
theorem ordOf_no {L : Row} (h : mayOf L ≠ 0) : ordOf L = [] := by simp [ordOf, h]
theorem ordOf_fit {l : List NodeV} (h : ∀ v ∈ l, U64 v.id) : ∀ x ∈ ordOf (rowOf l), U64 x := fun x hx => by
  unfold ordOf at hx
  split at hx
  · have := (order_gone (rowOf l)).sub x hx
    rw [rowOf_ids] at this
    obtain ⟨v, hv, rfl⟩ := List.mem_map.1 this
    exact h v hv
  · cases hx

/-- is a node ready, as far as k of its Deps? -/
def part (g : List Int) (v : NodeV) (k : Nat) : Bool := !g.contains v.id && (v.deps.take k).all fun d => g.contains d
theorem part_zero (g : List Int) (v : NodeV) : part g v 0 = !g.contains v.id := by simp [part]
theorem part_next (g : List Int) (v : NodeV) {k : Nat} (h : k < v.deps.length) : part g v (k + 1) = (part g v k && g.contains v.deps[k]) := by
  unfold part
  rw [List.take_succ_eq_append_getElem h, List.all_append]
  simp [Bool.and_assoc]
theorem part_all (g : List Int) (v : NodeV) {k : Nat} (h : v.deps.length ≤ k) : part g v k = ready g v.node := by
  unfold part ready NodeV.node
  rw [List.take_of_length_le h]

/-- the best of i nodes -/
def Best (l : List NodeV) (p : NodeV → Bool) (i : Nat) (b : Int) : Prop :=
  (b = -1 ∧ ∀ j (h : j < l.length), j < i → p l[j] = false) ∨ ∃ m, ∃ h : m < l.length, m < i ∧ b = (m : Int) ∧ p l[m] = true ∧ ∀ j (h : j < l.length), j < i → p l[j] = true → l[m].id ≤ l[j].id
theorem Best.start (l : List NodeV) (p : NodeV → Bool) : Best l p 0 (-1) := .inl ⟨rfl, fun j _ hj => absurd hj (by omega)⟩
section
variable {l : List NodeV} {p : NodeV → Bool} {i : Nat} {b : Int}
theorem Best.lt (h : Best l p i b) : -1 ≤ b ∧ b < l.length := by
  rcases h with ⟨rfl, _⟩ | ⟨m, hm, _, rfl, _⟩ <;> omega
theorem Best.skip (h : Best l p i b) (hi : i < l.length) (hp : p l[i] = false) : Best l p (i + 1) b := by
  rcases h with ⟨rfl, h⟩ | ⟨m, hm, hmi, rfl, h1, h2⟩
  · refine .inl ⟨rfl, fun j hj hji => ?_⟩
    rcases Nat.lt_or_ge j i with h3 | h3
    · exact h j hj h3
    · obtain rfl : j = i := by omega
      exact hp
  · refine .inr ⟨m, hm, by omega, rfl, h1, fun j hj hji hpj => ?_⟩
    rcases Nat.lt_or_ge j i with h3 | h3
    · exact h2 j hj h3 hpj
    · obtain rfl : j = i := by omega
      rw [hp] at hpj
      cases hpj
theorem Best.first (h : Best l p i (-1)) (hi : i < l.length) (hp : p l[i] = true) : Best l p (i + 1) (i : Int) := by
  rcases h with ⟨_, h⟩ | ⟨m, hm, hmi, e, h1, h2⟩
  · refine .inr ⟨i, hi, by omega, rfl, hp, fun j hj hji hpj => ?_⟩
    rcases Nat.lt_or_ge j i with h3 | h3
    · rw [h j hj h3] at hpj
      cases hpj
    · obtain rfl : j = i := by omega
      exact Int.le_refl _
  · omega
theorem Best.less {m : Nat} (h : Best l p i (m : Int)) (hm : m < l.length) (hi : i < l.length) (hp : p l[i] = true) (hlt : l[i].id < l[m].id) : Best l p (i + 1) (i : Int) := by
  rcases h with ⟨e, _⟩ | ⟨m', hm', hmi, e, h1, h2⟩
  · omega
  · obtain rfl : m = m' := by omega
    refine .inr ⟨i, hi, by omega, rfl, hp, fun j hj hji hpj => ?_⟩
    rcases Nat.lt_or_ge j i with h3 | h3
    · have := h2 j hj h3 hpj; omega
    · obtain rfl : j = i := by omega
      exact Int.le_refl _
theorem Best.keep {m : Nat} (h : Best l p i (m : Int)) (hm : m < l.length) (hi : i < l.length) (hlt : ¬ l[i].id < l[m].id) : Best l p (i + 1) (m : Int) := by
  rcases h with ⟨e, _⟩ | ⟨m', hm', hmi, e, h1, h2⟩
  · omega
  · obtain rfl : m = m' := by omega
    refine .inr ⟨m, hm, by omega, rfl, h1, fun j hj hji hpj => ?_⟩
    rcases Nat.lt_or_ge j i with h3 | h3
    · exact h2 j hj h3 hpj
    · obtain rfl : j = i := by omega
      omega
/-- the best of all -/
theorem Best.end_ (h : Best l p l.length b) : (b = -1 ∧ ∀ v ∈ l, p v = false) ∨ ∃ m, ∃ h : m < l.length, b = (m : Int) ∧ p l[m] = true ∧ ∀ v ∈ l, p v = true → l[m].id ≤ v.id := by
  rcases h with ⟨rfl, h⟩ | ⟨m, hm, _, rfl, h1, h2⟩
  · refine .inl ⟨rfl, fun v hv => ?_⟩
    obtain ⟨j, hj, rfl⟩ := List.getElem_of_mem hv
    exact h j hj hj
  · refine .inr ⟨m, hm, rfl, h1, fun v hv hp => ?_⟩
    obtain ⟨j, hj, rfl⟩ := List.getElem_of_mem hv
    exact h2 j hj hj hp
end
theorem best_next {l : List NodeV} {g : List Int} {m : Nat} (hm : m < l.length) (h1 : ready g l[m].node = true) (h2 : ∀ v ∈ l, ready g v.node = true → l[m].id ≤ v.id) : next (rowOf l) g = some l[m].id :=
  next_some.2 ⟨mem_cands.2 ⟨l[m].node, List.mem_map_of_mem (List.getElem_mem hm), rfl, h1⟩, fun y hy => by
    obtain ⟨n, hn, rfl, hr⟩ := mem_cands.1 hy
    obtain ⟨v, hv, rfl⟩ := List.mem_map.1 hn
    exact h2 v hv hr⟩
theorem best_none {l : List NodeV} {g : List Int} (h : ∀ v ∈ l, ready g v.node = false) : next (rowOf l) g = none :=
  next_none.2 fun n hn => by
    obtain ⟨v, hv, rfl⟩ := List.mem_map.1 hn
    exact h v hv
theorem _root_.Go.Proofs.YtpbnjibomdilhaaGreatDoor.Gr.Runs.step {L : Row} {g o : List Int} (h : Runs L g o) {x : Int} (hx : Gr.next L g = some x) : Runs L (g ++ [x]) o := by
  cases h with
  | stop h => rw [h] at hx; cases hx
  | go h r => rw [h] at hx; cases hx; exact r
theorem _root_.Go.Proofs.YtpbnjibomdilhaaGreatDoor.Gr.Runs.done {L : Row} {g o : List Int} (h : Runs L g o) (hx : Gr.next L g = none) : g = o := by
  cases h with
  | stop _ => rfl
  | go h _ => rw [h] at hx; cases hx

end Go.Proofs.YtpbnjibomdilhaaGreatDoor.Gph
