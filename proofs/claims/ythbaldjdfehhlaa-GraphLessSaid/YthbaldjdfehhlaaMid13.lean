/- A row of numbers in the midst of a block: what is left of a queue; one more behind it. -/
import Derived.Test.YthbaldjdfehhlaaRowU13
import Derived.Deep.AppendSrc
import Derived.Laws.IdiomCopy
import Derived.Maps.OwnIn
namespace Go.Proofs.Ythbaldjdfehhlaa
open Go.RowKit Gr Go.Sort

/-- v holds just the numbers xs, somewhere in a block from B on -/
structure MidU (B : Nat) (v : Value) (xs : List Int) (W : World) : Prop where
  ex : ∃ g o cap cur, v = .slice (some ⟨g, o, none⟩) xs.length cap ∧ B ≤ g ∧ W.heap[g]? = some (.cells cur 23 (0, 0)) ∧ xs.length ≤ cap ∧ cap ≤ maxLen ∧ o + cap ≤ cur.size ∧ ∀ i (h : i < xs.length), cur[o + i]? = some (.int .u64 xs[i])
section
variable {B : Nat} {v : Value} {xs : List Int} {W W' : World}
theorem MidU.lt (t : MidU B v xs W) : ∀ k, v.ownBlock = some k → B ≤ k ∧ k < W.heap.size := fun k hk => by
  obtain ⟨g, o, cap, cur, rfl, hB, hg, _⟩ := t.ex
  obtain rfl : g = k := by simpa [Value.ownBlock] using hk
  exact ⟨hB, (Array.getElem?_eq_some_iff.1 hg).1⟩
theorem MidU.same (t : MidU B v xs W) (h : ∀ k, v.ownBlock = some k → W'.heap[k]? = W.heap[k]?) : MidU B v xs W' := by
  obtain ⟨g, o, cap, cur, rfl, hB, hg, r⟩ := t.ex
  exact ⟨g, o, cap, cur, rfl, hB, (h g (by simp [Value.ownBlock])).trans hg, r⟩
theorem MidU.below (t : MidU B v xs W) (hb : Below W.heap.size W W') : MidU B v xs W' := t.same fun k hk => hb.block k (t.lt k hk).2
theorem MidU.shape (t : MidU B v xs W) : ∃ g o cap, v = .slice (some ⟨g, o, none⟩) xs.length cap ∧ B ≤ g ∧ g < W.heap.size ∧ ∀ i (h : i < xs.length), W.cell? ⟨g, o + i, none⟩ = some (.int .u64 xs[i]) := by
  obtain ⟨g, o, cap, cur, rfl, hB, hg, h1, h2, h3, h4⟩ := t.ex
  refine ⟨g, o, cap, rfl, hB, (Array.getElem?_eq_some_iff.1 hg).1, fun i hi => ?_⟩
  rw [cell_of_row _ _ _ _ _ _ hg]
  exact h4 i hi
theorem MidU.row (t : MidU B v xs W) : ∃ k cur, v.ownBlock = some k ∧ W.heap[k]? = some (.cells cur 23 (0, 0)) := by
  obtain ⟨g, o, cap, cur, rfl, hB, hg, _⟩ := t.ex
  exact ⟨g, cur, by simp [Value.ownBlock], hg⟩
theorem MidU.one (w : World) (x : Int) (hB : B ≤ w.heap.size) : MidU B (.slice (some ⟨w.heap.size, 0, none⟩) 1 1) [x] (w.alloc (.cells #[.int .u64 x] 23)) :=
  ⟨w.heap.size, 0, 1, #[.int .u64 x], rfl, hB, heap_alloc_new w _, by simp, by unfold maxLen; omega, by simp, fun i hi => by
    obtain rfl : i = 0 := by simp at hi; omega
    rfl⟩
/-- the first one left out -/
theorem MidU.tail {x : Int} {a : Option Addr} {n cap : Nat} (t : MidU B (.slice a n cap) (x :: xs) W) :
    (cap = 1 ∧ xs = [] ∧ MidU B (.slice a 0 0) xs W) ∨ (cap ≠ 1 ∧ MidU B (.slice (Option.map (fun y => y.add 1) a) xs.length (cap - 1)) xs W) := by
  obtain ⟨g, o, cap', cur, e, hB, hg, h1, h2, h3, h4⟩ := t.ex
  cases e
  simp only [List.length_cons] at h1
  by_cases hc : cap = 1
  · obtain rfl : xs = [] := List.eq_nil_of_length_eq_zero (by omega)
    exact .inl ⟨hc, rfl, g, o, 0, cur, rfl, hB, hg, by simp, by omega, by omega, fun i hi => by simp at hi⟩
  · refine .inr ⟨hc, g, o + 1, cap - 1, cur, ?_, hB, hg, by omega, by omega, by omega, fun i hi => ?_⟩
    · simp [Addr.add]
    · have := h4 (i + 1) (by simpa using hi)
      rw [show o + 1 + i = o + (i + 1) by omega]
      simpa using this

/-- one more: in its place, or all of it anew -/
theorem run_append_mid (t : MidU B v xs W) (hl : xs.length ≤ 1000000) (hB : B ≤ W.heap.size) (ty : TypeId) (ad : Addr) (x : Int) (hx : W.cell? ad = some (.int .u64 x)) :
    ∃ v' w', (Builtin.append_ #[26, 26] ty #[v, .slice (some ad) 1 1]).run Try.prog W = .ok v' w' ∧ MidU B v' (xs ++ [x]) w' ∧ W.grownBy w' v.ownBlock ∧ (v'.ownBlock = v.ownBlock ∨ v'.ownBlock = some W.heap.size) := by
  obtain ⟨i, hi, hz0, hz1, hz2⟩ := info_parts infoU64
  obtain ⟨g, o, cap, cur, rfl, hBg, hg, h1, h2, h3, h4⟩ := t.ex
  have hnews : ∀ j u, [Value.int .u64 x][j]? = some u → W.cell? (ad.add j) = some u := fun j u hu => by
    have hj : j = 0 := by have := (List.getElem?_eq_some_iff.1 hu).1; simp at this; omega
    subst hj
    obtain rfl : Value.int .u64 x = u := by simpa using hu
    rw [show ad.add 0 = ad by simp [Addr.add]]
    exact hx
  have hone : ∀ u ∈ [Value.int .u64 x], u.oneCell' = true := fun u hu => by simp at hu; subst hu; rfl
  have hs : Src Try.prog i.size 26 (.slice (some ad) 1 1) 1 [.int .u64 x] W := Src.ofSlice W Try.underlying26 ad 1 1 _ (by simp [hz1]) hnews hone
  by_cases hroom : xs.length + 1 ≤ cap
  · have hin : o + xs.length < cur.size := by omega
    have hr := run_append_room_src (P := Try.prog) W 26 26 ty 23 i Try.underlying26 hi g o xs.length cap _ 1 _ hs hroom (fun j hj => by
      have : j = 0 := by simp at hj; omega
      subst this
      rw [hz1, cell_of_row _ _ _ _ _ _ hg]
      simp [hin]) (fun j hj => by simp [World.frozen?, hg])
    rw [hz1, Nat.mul_one] at hr
    refine ⟨_, _, hr, ⟨g, o, cap, cur.setIfInBounds (o + xs.length) (.int .u64 x), by simp, hBg, ?_, by simpa using hroom, h2, by simpa using h3, fun j hj => ?_⟩, ⟨rfl, rfl, rfl, by simp [World.setCells, World.setCell], fun k hk hne => ?_⟩, .inl rfl⟩
    · simp only [World.setCells]
      rw [setCell_eq]
      simp [mapBlock, Array.getElem?_modify, hg, onCells]
    · rw [Array.getElem?_setIfInBounds]
      by_cases hjx : j = xs.length
      · subst hjx
        simp [hin]
      · have hj2 : j < xs.length := by simp at hj; omega
        rw [if_neg (by omega), h4 j hj2, List.getElem_append_left hj2]
    · simp only [World.setCells]
      exact Below.heap_setCell _ _ _ _ (fun e => hne (by simp [Value.ownBlock, e]))
  · have holds : ∀ j u, (xs.map encU)[j]? = some u → W.cell? ((⟨g, o, none⟩ : Addr).add j) = some u := fun j u hu => by
      have hj : j < xs.length := by have := (List.getElem?_eq_some_iff.1 hu).1; simpa using this
      rw [show ((⟨g, o, none⟩ : Addr).add j) = ⟨g, o + j, none⟩ by unfold Addr.add; split <;> simp_all, cell_of_row _ _ _ _ _ _ hg, h4 j hj, ← hu]
      simp [hj, encU]
    have hr := run_append_grow (P := Try.prog) W 26 ty 23 i (.int .u64 0) Try.underlying26 hi hz0 ⟨g, o, none⟩ xs.length cap (xs.map encU) (by simp [hz1]) holds ad 1 1 _ (by simp [hz1]) hnews (by omega) (by omega) (by
      rw [hz2]
      exact growslice_fits (by omega) (by omega))
    have hge := grownCap_ge W (xs.length + 1) cap 23
    have hcm : grownCap W (xs.length + 1) cap 23 ≤ maxLen := grownCap_le_maxLen W (xs.length + 1) cap 23 (by unfold maxLen; omega)
    refine ⟨_, _, hr, ⟨W.heap.size, 0, _, _, by simp, hB, heap_alloc_new W.drew _, by simpa using hge, hcm, ?_, fun j hj => ?_⟩, ⟨rfl, rfl, rfl, by simp, fun k hk _ => Below.heap_alloc W.drew _ k hk⟩, .inr rfl⟩
    · simp only [Array.size_append, List.size_toArray, List.length_map, List.length_singleton, size_zeroCells]
      simp [Value.cells]
      omega
    · rw [Nat.zero_add]
      have hj2 : j < xs.length + 1 := by simpa using hj
      rw [Array.append_assoc, ← Array.append_assoc, Array.getElem?_append_left (by simp; omega)]
      by_cases hjx : j = xs.length
      · subst hjx
        rw [Array.getElem?_append_right (by simp)]
        simp
      · have hj3 : j < xs.length := by omega
        rw [Array.getElem?_append_left (by simpa using hj3)]
        simp [hj3, List.getElem_append_left hj3, encU]
end

theorem wpListIn_append_run {F : Fence} {n : Nat} {P : Program} (w : World) {ops : Array Oper} {rest : List Oper} {o : Oper} {a : Act} {Q : Exit → Act → World → Prop}
    (hg : o.guard = none) (s x : Operand) (t : TypeId) (hop : o.op = Op.call { callee := Callee.builtin Builtin.append, args := #[s, x], argTypes := #[t, t] })
    (v u : Value) (hs : a.eval s = v) (hx : a.eval x = u) (v' : Value) (w' : World) (hr : (Builtin.append_ #[t, t] o.type #[v, u]).run P w = .ok v' w') (hK : wpListIn F n P ops Q rest (a.put o.dst v') w') :
    wpListIn F n P ops Q (o :: rest) a w := by
  refine wpListIn_plain hg fun K hK' => ?_
  unfold Oper.wpIn
  refine ⟨?_, ?_⟩
  · simp [Oper.about, hop, resolve, Target.leads, Sem.run_pure]
  · rw [Oper.semAt_plain F _ _ (by rw [hop]; intro c hc'; cases hc')]
    simp [execOp, hop, resolve, invoke, builtin, hs, hx, hr, Result.andThen]
    exact hK' _ _ hK

end Go.Proofs.Ythbaldjdfehhlaa
