/- slices.SortedFunc at []api.Node, by Ids, by its contract. -/
import Derived.Test.YthbaldjdfehhlaaValN13
import Derived.Test.YthbaldjdfehhlaaShelf
import Derived.Shelf.SlSortCmp.WholeK
import Derived.Shelf.SlSortCmp.NoneTotal
namespace Go.Proofs.Ythbaldjdfehhlaa
open Go.RowKit Gr Go.Sort Go.Shelf Go.Lib

def cmpU (x y : Int) : Int := if x < y then -1 else if y < x then 1 else 0
theorem compare_u (x y : Int) (w : World) : Calls Try.prog 34 #[.int .u64 x, .int .u64 y] w fun e w' => e = .returned (.int .i64 (cmpU x y)) ∧ w' = w := by
  rcases Int.lt_trichotomy x y with h | h | h
  · have hc : cmpU x y = -1 := by simp [cmpU, h]
    have hd : decide (x < y) = true := by simp; omega
    have HC := Lib.hid hc
    clear hc
    go_enter Try.func34, Try.ntmps34
    go_wp2_with (go_at_call 49; refine (isNaN_u _ _).mono ?_; rintro e w' ⟨rfl, rfl⟩)
    go_ret
    exact ⟨by rw [HC.out]; rfl, by first | rfl | trivial⟩
  · subst h
    have hc : cmpU x x = 0 := by simp [cmpU]
    have HC := Lib.hid hc
    clear hc
    go_enter Try.func34, Try.ntmps34
    go_wp2_with (go_at_call 49; refine (isNaN_u _ _).mono ?_; rintro e w' ⟨rfl, rfl⟩)
    go_ret
    exact ⟨by rw [HC.out]; rfl, by first | rfl | trivial⟩
  · have hc : cmpU x y = 1 := by simp only [cmpU, if_neg (show ¬ x < y by omega), if_pos h]
    have hd : decide (x < y) = false := by simp; omega
    have hd2 : decide (y < x) = true := by simp; omega
    have HC := Lib.hid hc
    clear hc
    go_enter Try.func34, Try.ntmps34
    go_wp2_with (go_at_call 49; refine (isNaN_u _ _).mono ?_; rintro e w' ⟨rfl, rfl⟩)
    go_ret
    exact ⟨by rw [HC.out]; rfl, by first | rfl | trivial⟩

abbrev cmpN (x y : NodeV) : Int := cmpU x.id y.id
theorem lt_cmpN (x y : NodeV) : ltOf cmpN x y = decide (x.id < y.id) := by
  unfold ltOf cmpN cmpU
  by_cases h1 : x.id < y.id
  · simp [h1]
  · by_cases h2 : y.id < x.id <;> simp [h1, h2]
theorem swo_cmpN : SWO (ltOf cmpN) where
  irrefl x := by rw [lt_cmpN]; simp
  trans x y z h1 h2 := by rw [lt_cmpN] at *; simp at *; omega
  ntrans x y z h1 h2 := by rw [lt_cmpN] at *; simp at *; omega

set_option maxHeartbeats 1000000 in
theorem ordered1_any (x y : NodeV) (W : World) : Calls Try.prog 33 #[.agg #[.int .u64 x.id, .slice x.da x.deps.length x.dc], .agg #[.int .u64 y.id, .slice y.da y.deps.length y.dc]] W fun e w' => e = .returned (.int .i64 (cmpN x y)) ∧ ∃ q os', w' = grow (W.drewN q) os' := by
  have hcon := fun W' => compare_u x.id y.id W'
  unfold cmpN
  generalize cmpU x.id y.id = r at hcon ⊢
  go_enter Try.func33, Try.ntmps33
  go_wp2_with (go_at_call 34; refine (hcon _).mono ?_; rintro e w' ⟨rfl, rfl⟩)
  go_ret
  exact ⟨rfl, 0, _, by rw [alloc_eq_grow, alloc_eq_grow, grow_grow]; rfl⟩

theorem flatN_get {l : List NodeV} {t : Nat} (h : t < l.length * 2) : (flatN l)[t]? = some ((encN (l.toArray[t / 2]!))[t % 2]!) := by
  have hi : t / 2 < l.length := by omega
  have e : l.toArray[t / 2]! = l[t / 2] := by simp [hi]
  obtain ⟨h1, h2⟩ := flatN_at hi
  rw [e]
  rcases Nat.mod_two_eq_zero_or_one t with hm | hm
  · rw [hm]
    rw [show t / 2 * 2 = t by omega] at h1
    rw [h1]; rfl
  · rw [hm]
    rw [show t / 2 * 2 + 1 = t by omega] at h2
    rw [h2]; rfl

theorem holds_N {w : World} {B : Nat} {g : Nat} {cap : Nat} {l : List NodeV} {cur : Array Value} (h : w.ownsRow B 35 2 (.slice (some ⟨g, 0, none⟩) l.length cap) l.length (flatN l)) (hg : w.heap[g]? = some (.cells cur 35 (0, 0))) : HoldsK encN 2 w g 0 l.toArray := by
  intro t ht
  rw [size_flatK] at ht
  have ht2 : t < l.length * 2 := by simpa using ht
  refine ⟨?_, by simp [World.frozen?, hg]⟩
  rw [Nat.zero_add, h.cellAt _ ht2, get_flatK _ _ _ _ ht, flatN_get ht2]
  rfl

theorem below_sort {w : World} {g n : Nat} {d : Array NodeV} {os : Array Obj} : w.grownBy (sortWorldK encN 2 w g 0 n d os) (some g) := by
  unfold sortWorldK putRowK
  refine ⟨rfl, rfl, rfl, by simp, fun k hk hne => ?_⟩
  rw [heap_grow_old _ _ (by simpa using hk)]
  have : g ≠ k := fun e => hne (by rw [e])
  simp [putRow, mapBlock, Sort.ahead, Array.getElem?_modify, this]

/-- slices.SortFunc of a row of nodes of the caller's own (what its nodes' Deps are lies below B): the same nodes, by rising Ids -/
theorem sortN_own {w w0 : World} {a : Option Addr} {c : Nat} {l : List NodeV} (t : RowN w0.heap.size (.slice a l.length c) l w) (hb : RowKit.Below w0.heap.size w0 w) (hf : ∀ v ∈ l, NodeF w0 v) (hsz : l.length < 1000000) :
    Calls Try.prog 47 #[.slice a l.length c, .func (.func 33) #[] #[]] w fun e w' => e = .returned (.tuple #[]) ∧
      ∃ l', l'.Perm l ∧ (l'.map (·.id)).Pairwise (· ≤ ·) ∧ NodesF w' a l' ∧ RowKit.Below w0.heap.size w0 w' := by
  obtain ⟨h⟩ := t
  rcases h.2 with ⟨e, h0⟩ | ⟨g, cap, cur, e, hB, hg, r1, r2, r3, r4⟩
  · obtain rfl := List.eq_nil_of_length_eq_zero h0
    have hn := AnyF.slices_SortFunc_none (P := Try.prog) Try.sortN a c (.func (.func 33) #[] #[]) w
    change Calls Try.prog 47 _ _ _ at hn
    refine hn.mono ?_
    rintro e w' ⟨rfl, rfl⟩
    exact ⟨rfl, [], List.Perm.refl _, by simp, NodesF.nil _ _, hb⟩
  · cases e
    have hlt : g < w.heap.size := (Array.getElem?_eq_some_iff.1 hg).1
    have hH := holds_N h hg
    have eg : ∀ args w, (callFunc 33 args).run Try.prog w = .ok (.enter 33 args) w := enters_of Try.func33 (by kernel_rfl) rfl
    have hcon := AnyQ.slices_SortFunc Try.sortN 2 Try.isAgg35 Try.sizeOf35 encN (fun _ => rfl) (fun x v hv => by simp [encN] at hv; rcases hv with rfl | rfl <;> rfl) cmpN swo_cmpN 33 #[] g 0 c l.toArray w eg (fun _ _ _ _ x y => ordered1_any x y _) hH hlt (by simp; omega)
    change Calls Try.prog 47 _ _ _ at hcon
    rw [show l.toArray.size = l.length by simp] at hcon
    refine hcon.mono ?_
    rintro e w' ⟨rfl, d', n, os, hp, hs, rfl⟩
    have hds : d'.size = l.length := by have := hp.1; simpa using this
    have hperm : d'.toList.Perm l := by
      have := hp.2.2
      rw [show d'.extract 0 l.length = d' by rw [← hds]; exact Array.extract_size, show l.toArray.extract 0 l.length = l.toArray by rw [show l.length = l.toArray.size by simp]; exact Array.extract_size] at this
      exact this
    have hH2 : HoldsK encN 2 (sortWorldK encN 2 w g 0 n d' os) g 0 d' := holdsK_sortWorldK_c encN 2 w g 0 l.toArray d' n os hH hlt (by simpa using hds)
    have hg2 := below_sort (w := w) (g := g) (n := n) (d := d') (os := os)
    have hb2 : RowKit.Below w0.heap.size w0 (sortWorldK encN 2 w g 0 n d' os) := hb.grown hg2 hb.size (fun k e => by cases e; exact hB)
    have hlt2 : g < (sortWorldK encN 2 w g 0 n d' os).heap.size := Nat.lt_of_lt_of_le hlt hg2.size
    refine ⟨rfl, d'.toList, hperm, ?_, ⟨⟨g, 0, fun _ => rfl, fun i hi => ?_⟩, fun v hv => (hf v (hperm.mem_iff.1 hv)).below hb2⟩, hb2⟩
    · rw [List.pairwise_map]
      refine List.pairwise_iff_getElem.2 fun i j hi hj hij => ?_
      have hi2 : i < d'.size := by simpa using hi
      have hj2 : j < d'.size := by simpa using hj
      have := hs i j (Nat.zero_le _) hij (by omega)
      rw [lt_cmpN, getElem!_pos d' i hi2, getElem!_pos d' j hj2] at this
      simp only [decide_eq_false_iff_not] at this
      simp only [Array.getElem_toList]
      omega
    · have hi2 : i < d'.size := by simpa using hi
      have c0 := (hH2.cell hi2 (show 0 < 2 by omega)).1
      have c1 := (hH2.cell hi2 (show 1 < 2 by omega)).1
      rw [getElem!_pos d' i hi2] at c0 c1
      simp only [Array.getElem_toList]
      exact ⟨hlt2, c0, c1⟩

set_option maxRecDepth 100000 in
/-- slices.SortedFunc of a row's values: the same nodes, by rising Ids -/
theorem sortedN_any (p : Nat) (a : Option Addr) (c : Nat) (l : List NodeV) (w : World) (hp : w.cell? ⟨p, 0, none⟩ = some (.slice a l.length c)) (hN : NodesF w a l) (hsz : l.length ≤ 100000) :
    Calls Try.prog 31 #[.func (.func 48) #[] #[.pointer (some ⟨p, 0, none⟩)], .func (.func 33) #[] #[]] w fun e w' =>
      ∃ a' c' l', e = .returned (.slice a' l'.length c') ∧ l'.Perm l ∧ (l'.map (·.id)).Pairwise (· ≤ ·) ∧ NodesF w' a' l' ∧ RowKit.Below w.heap.size w w' := by
  have HC := Lib.hid (collectN_any p a c l w hp hN (by omega))
  have HE := Lib.hid hN.each
  clear hp hN
  go_enter Try.func31, Try.ntmps31
  go_wp2_with fail
  refine HC.out.mono ?_
  rintro e w1 ⟨v, rfl, hrow, hb⟩
  obtain ⟨va, vc, rfl⟩ := hrow.shape
  have HSO := Lib.hid (sortN_own hrow hb HE.out (by omega))
  clear hrow hb
  go_wp2_with fail
  refine HSO.out.mono ?_
  rintro e w2 ⟨rfl, l', hpm, hpw, hN2, hb2⟩
  have hlen := hpm.length_eq
  have HX := Lib.hid (And.intro hpm (And.intro hpw (And.intro hN2 hb2)))
  clear hpm hpw hN2 hb2
  rw [← hlen]
  clear hlen
  go_wp2_with fail
  go_ret
  exact ⟨va, vc, l', rfl, HX.out.1, HX.out.2.1, HX.out.2.2.1, HX.out.2.2.2⟩

end Go.Proofs.Ythbaldjdfehhlaa
