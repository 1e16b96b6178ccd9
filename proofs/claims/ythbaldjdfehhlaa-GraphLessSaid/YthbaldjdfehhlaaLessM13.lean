/- What the law GraphLess makes: a row turned about; a row without one. -/
import Derived.Test.YthbaldjdfehhlaaMore13
import Derived.Laws.MakeOwn
namespace Go.Proofs.Ythbaldjdfehhlaa
open Go.RowKit Gr Go.Sort

def zeroN : NodeV := ⟨0, none, 0, []⟩
theorem flatN_append (l m : List NodeV) : flatN (l ++ m) = flatN l ++ flatN m := by simp [flatN]
theorem made_zero (n : Nat) : (madeCells #[.int .u64 0, .slice none 0 0] (n * 2)).toList = flatN (List.replicate n zeroN) := by
  apply List.ext_getElem?
  intro j
  by_cases hj : j < n * 2
  · have hi : j / 2 < (List.replicate n zeroN).length := by rw [List.length_replicate]; omega
    obtain ⟨f1, f2⟩ := flatN_at hi
    have hz : (List.replicate n zeroN)[j / 2] = zeroN := by simp
    rw [hz] at f1 f2
    rw [Array.getElem?_toList]
    rcases Nat.mod_two_eq_zero_or_one j with e | e
    · rw [show j / 2 * 2 = j by omega] at f1
      rw [f1]
      simp [madeCells, hj, e, zeroN]
    · rw [show j / 2 * 2 + 1 = j by omega] at f2
      rw [f2]
      simp [madeCells, hj, e, zeroN]
  · rw [List.getElem?_eq_none (by simp [size_madeCells]; omega), List.getElem?_eq_none (by rw [flatN_len, List.length_replicate]; omega)]
theorem copy_made (w : World) (n : Nat) : CopyN w.heap.size (List.replicate n zeroN) (w.alloc (.cells (madeCells #[.int .u64 0, .slice none 0 0] (n * 2)) 35)) := by
  refine ⟨_, World.alloc_heap_new w _, by rw [size_madeCells, List.length_replicate]; exact Nat.le_refl _, ?_⟩
  rw [made_zero, List.take_of_length_le (Nat.le_of_eq (flatN_len _))]
/-- a node is stored -/
theorem CopyN.put {g j : Nat} {l : List NodeV} {W : World} (h : CopyN g l W) (u : NodeV) :
    CopyN g (l.set j u) ((W.setCell ⟨g, j * 2, none⟩ (.int .u64 u.id)).setCell ⟨g, j * 2 + 1, none⟩ (.slice u.da u.deps.length u.dc)) := by
  obtain ⟨cs, hg, h1, h2⟩ := h.blk
  refine ⟨(cs.setIfInBounds (j * 2) (.int .u64 u.id)).setIfInBounds (j * 2 + 1) (.slice u.da u.deps.length u.dc), ?_, by simpa using h1, ?_⟩
  · rw [setCell_eq, setCell_eq]
    simp [mapBlock, Array.getElem?_modify, hg, onCells]
  · rw [Array.toList_setIfInBounds, Array.toList_setIfInBounds, List.length_set, List.take_set, List.take_set, h2]
    apply List.ext_getElem?
    intro i
    by_cases hi : i < l.length * 2
    · have hi2 : i / 2 < (l.set j u).length := by rw [List.length_set]; omega
      have hi' : i / 2 < l.length := by omega
      obtain ⟨a1, a2⟩ := flatN_at hi2
      obtain ⟨b1, b2⟩ := flatN_at hi'
      have hgs : (l.set j u)[i / 2] = if j = i / 2 then u else l[i / 2] := by rw [List.getElem_set]
      rw [hgs] at a1 a2
      have hfl : (flatN l).length = l.length * 2 := flatN_len l
      rw [List.getElem?_set, List.getElem?_set, List.length_set]
      rcases Nat.mod_two_eq_zero_or_one i with e | e
      · have ej : i / 2 * 2 = i := by omega
        rw [ej] at a1 b1
        rw [if_neg (by omega), a1]
        by_cases e2 : j = i / 2
        · rw [if_pos (by omega), if_pos (by omega), if_pos e2]
        · rw [if_neg (by omega), b1, if_neg e2]
      · have ej : i / 2 * 2 + 1 = i := by omega
        rw [ej] at a2 b2
        rw [a2]
        by_cases e2 : j = i / 2
        · rw [if_pos (by omega), if_pos (by omega), if_pos e2]
        · rw [if_neg (by omega), if_neg (by omega), b2, if_neg e2]
    · rw [List.getElem?_eq_none (by rw [List.length_set, List.length_set, flatN_len]; omega), List.getElem?_eq_none (by rw [flatN_len, List.length_set]; omega)]

/-- a row that is turned about, as far as it has come -/
def turned (l : List NodeV) (i : Nat) : List NodeV := List.replicate (l.length - i) zeroN ++ (l.take i).reverse
theorem turned_len (l : List NodeV) {i : Nat} (hi : i ≤ l.length) : (turned l i).length = l.length := by simp [turned]; omega
theorem turned_zero (l : List NodeV) : turned l 0 = List.replicate l.length zeroN := by simp [turned]
theorem turned_all (l : List NodeV) : turned l l.length = l.reverse := by simp [turned]
theorem turned_next (l : List NodeV) {i : Nat} (hi : i < l.length) : (turned l i).set (l.length - 1 - i) l[i] = turned l (i + 1) := by
  unfold turned
  rw [List.take_succ_eq_append_getElem hi, List.reverse_append]
  have hr : List.replicate (l.length - i) zeroN = List.replicate (l.length - (i + 1)) zeroN ++ [zeroN] := by
    rw [show l.length - i = (l.length - (i + 1)) + 1 by omega, List.replicate_succ']
  rw [hr, List.append_assoc, List.set_append, if_neg (by rw [List.length_replicate]; omega)]
  congr 1
  rw [List.length_replicate, show l.length - 1 - i - (l.length - (i + 1)) = 0 by omega]
  rfl

/-- append of nodes to a row of the call's own -/
theorem run_appN {W : World} {B : Nat} {v : Value} {xs : List NodeV} (h : RowN B v xs W) (hl : xs.length ≤ 1000) (hB : B ≤ W.heap.size) {b q c : Nat} {zs : List NodeV} (hzl : zs.length ≤ 1000)
    (hc : ∀ i (h : i < zs.length), b < W.heap.size ∧ W.cell? ⟨b, q + i * 2, none⟩ = some (.int .u64 zs[i].id) ∧ W.cell? ⟨b, q + i * 2 + 1, none⟩ = some (.slice zs[i].da zs[i].deps.length zs[i].dc)) :
    ∃ v' W', (Builtin.append_ #[22, 22] 22 #[v, .slice (some ⟨b, q, none⟩) zs.length c]).run Try.prog W = .ok v' W' ∧ RowN B v' (xs ++ zs) W' ∧ W.grownBy W' v.ownBlock := by
  obtain ⟨i0, hi, hz0, hz1, hz2⟩ := info_parts infoNode
  obtain ⟨v', W', hrun, hown, hg, _, _⟩ := run_append_own_at (P := Try.prog) W B 22 22 35 i0 (.agg #[.int .u64 0, .slice none 0 0]) 2 32 Try.underlying22 hi hz0 hz1 hz2 rfl (by decide) v xs.length _ h.own ⟨b, q, none⟩ zs.length c (flatN zs) (flatN_len zs) (nodes_news hc) (oneN zs) (by unfold maxLen; omega) (by omega) hB
  refine ⟨v', W', hrun, ⟨?_⟩, hg⟩
  rw [List.length_append, flatN_append]
  exact hown
theorem take_cells {W : World} {b q : Nat} {l : List NodeV} (hc : ∀ i (h : i < l.length), b < W.heap.size ∧ W.cell? ⟨b, q + i * 2, none⟩ = some (.int .u64 l[i].id) ∧ W.cell? ⟨b, q + i * 2 + 1, none⟩ = some (.slice l[i].da l[i].deps.length l[i].dc)) (k : Nat) :
    ∀ i (h : i < (l.take k).length), b < W.heap.size ∧ W.cell? ⟨b, q + i * 2, none⟩ = some (.int .u64 (l.take k)[i].id) ∧ W.cell? ⟨b, q + i * 2 + 1, none⟩ = some (.slice (l.take k)[i].da (l.take k)[i].deps.length (l.take k)[i].dc) := fun i h => by
  have hi : i < l.length := by rw [List.length_take] at h; omega
  simp only [List.getElem_take]
  exact hc i hi
theorem drop_cells {W : World} {b q : Nat} {l : List NodeV} (hc : ∀ i (h : i < l.length), b < W.heap.size ∧ W.cell? ⟨b, q + i * 2, none⟩ = some (.int .u64 l[i].id) ∧ W.cell? ⟨b, q + i * 2 + 1, none⟩ = some (.slice l[i].da l[i].deps.length l[i].dc)) (k : Nat) :
    ∀ i (h : i < (l.drop k).length), b < W.heap.size ∧ W.cell? ⟨b, (q + k * 2) + i * 2, none⟩ = some (.int .u64 (l.drop k)[i].id) ∧ W.cell? ⟨b, (q + k * 2) + i * 2 + 1, none⟩ = some (.slice (l.drop k)[i].da (l.drop k)[i].deps.length (l.drop k)[i].dc) := fun i h => by
  have hi : k + i < l.length := by rw [List.length_drop] at h; omega
  simp only [List.getElem_drop]
  have := hc (k + i) hi
  rw [show q + k * 2 + i * 2 = q + (k + i) * 2 by omega]
  exact this
theorem rowOf_erase (l : List NodeV) (k : Nat) : rowOf (l.take k ++ l.drop (k + 1)) = (rowOf l).eraseIdx k := by
  rw [List.eraseIdx_eq_take_drop_succ]
  simp [rowOf, List.map_take, List.map_drop]
theorem rowOf_reverse (l : List NodeV) : rowOf l.reverse = (rowOf l).reverse := by simp [rowOf]

theorem rowN_empty {W : World} {B : Nat} (hB : B ≤ W.heap.size) : RowN B (.slice (some ⟨W.heap.size, 0, none⟩) 0 0) [] (W.alloc (.cells #[] 35)) :=
  ⟨World.ownsRow_lit W #[] 0 hB (Nat.zero_le _) rfl⟩
theorem RowN.grown {w W W' : World} {B : Nat} {v : Value} {xs : List NodeV} (t : RowN B v xs W) (hb : Below B w W) (hs : B ≤ W.heap.size) (hg : W.grownBy W' v.ownBlock) : Below B w W' := hb.grown hg hs fun k e => (t.own.lt k e).1
def without (o : List Int) (d : Int) : List Int := o.filter fun x => decide (x ≠ d)
theorem without_next (o : List Int) (d : Int) {i : Nat} (hi : i < o.length) : without (o.take (i + 1)) d = without (o.take i) d ++ (if o[i] = d then [] else [o[i]]) := by
  unfold without
  rw [List.take_succ_eq_append_getElem hi, List.filter_append]
  congr 1
  by_cases h : o[i] = d
  · simp [h]
  · simp [h]
theorem without_len (o : List Int) (d : Int) : (without o d).length ≤ o.length := List.length_filter_le _ _

end Go.Proofs.Ythbaldjdfehhlaa
