/- Rows of numbers that a call makes itself. -/
import Derived.Test.YthbaldjdfehhlaaNod13
import Derived.Test.YthbaldjdfehhlaaSu7
import Derived.Deep.AppendLies
import Derived.Laws.AppendOwn
import Derived.Laws.OwnMore
import Derived.Test.YthbaldjdfehhlaaAppendAny
namespace Go.Proofs.Ythbaldjdfehhlaa
open Go.RowKit Gr Go.Sort

theorem infoU64 : (Try.prog.info? 23).map (fun i => (i.zero, i.size, i.bytes)) = some (some (.int .u64 0), 1, 8) := by kernel_rfl

/-- v holds just the numbers xs, in a block from B on -/
structure RowU (B : Nat) (v : Value) (xs : List Int) (W : World) : Prop where
  own : W.ownsRow B 23 1 v xs.length (xs.map encU)
section
variable {B : Nat} {v : Value} {xs : List Int} {W W' : World}
theorem RowU.below (t : RowU B v xs W) (hb : Below W.heap.size W W') : RowU B v xs W' := by
  obtain ⟨h⟩ := t
  refine ⟨h.1, ?_⟩
  rcases h.2 with hn | ⟨g, cap, cur, rfl, hB, hg, rest⟩
  · exact .inl hn
  · exact .inr ⟨g, cap, cur, rfl, hB, (hb.block g (Array.getElem?_eq_some_iff.1 hg).1).trans hg, rest⟩
/-- it stands where all below a bound stands, if it lies there -/
theorem RowU.keep (t : RowU B v xs W) {B' : Nat} (hb : Below B' W W') (hk : ∀ k, v.ownBlock = some k → k < B') : RowU B v xs W' := by
  obtain ⟨h⟩ := t
  refine ⟨h.1, ?_⟩
  rcases h.2 with hn | ⟨g, cap, cur, rfl, hB, hg, rest⟩
  · exact .inl hn
  · exact .inr ⟨g, cap, cur, rfl, hB, (hb.block g (hk g (by simp [Value.ownBlock]))).trans hg, rest⟩
theorem RowU.less (t : RowU B v xs W) {B' : Nat} (hB : B' ≤ B) : RowU B' v xs W := by
  obtain ⟨h⟩ := t
  refine ⟨h.1, ?_⟩
  rcases h.2 with hn | ⟨g, cap, cur, rfl, hb, rest⟩
  · exact .inl hn
  · exact .inr ⟨g, cap, cur, rfl, by omega, rest⟩
theorem RowU.nil (B : Nat) (W : World) : RowU B (.slice none 0 0) [] W := ⟨World.ownsRow_nil _ _ _ _⟩
theorem RowU.lt (t : RowU B v xs W) : ∀ k, v.ownBlock = some k → B ≤ k ∧ k < W.heap.size := fun k hk => t.own.lt k hk
/-- as it is read -/
theorem RowU.nums (t : RowU B v xs W) (hf : ∀ x ∈ xs, U64 x) : ∃ a c, v = .slice a xs.length c ∧ NumsF W a xs ∧ (a = none → xs = []) ∧ xs.length ≤ c ∧ c ≤ maxLen := by
  obtain ⟨h⟩ := t
  rcases h.2 with ⟨rfl, hn⟩ | ⟨g, cap, cur, rfl, hB, hg, hc, hm, _⟩
  · obtain rfl := List.eq_nil_of_length_eq_zero hn
    exact ⟨none, 0, rfl, NumsF.nil _ _, fun _ => rfl, Nat.le_refl _, Nat.zero_le _⟩
  · refine ⟨some ⟨g, 0, none⟩, cap, rfl, ⟨⟨g, 0, fun _ => rfl, fun i hi => ⟨(Array.getElem?_eq_some_iff.1 hg).1, ?_⟩⟩, hf⟩, fun e => by simp at e, hc, hm⟩
    rw [Nat.zero_add]
    rw [h.cellAt i (by omega)]
    simp [hi, encU]
theorem RowU.shape (t : RowU B v xs W) : ∃ a c, v = .slice a xs.length c := by
  obtain ⟨h⟩ := t
  rcases h.2 with ⟨rfl, hn⟩ | ⟨g, cap, cur, rfl, _⟩
  · exact ⟨none, 0, by rw [hn]⟩
  · exact ⟨_, _, rfl⟩
theorem RowU.read {a : Option Addr} {n c : Nat} (t : RowU B (.slice a n c) xs W) (hf : ∀ x ∈ xs, U64 x) : NumsF W a xs ∧ xs.length ≤ c ∧ c ≤ maxLen := by
  obtain ⟨a', c', e, h, _, h2, h3⟩ := t.nums hf
  cases e
  exact ⟨h, h2, h3⟩
/-- as an append's source -/
theorem RowU.news {a : Option Addr} {n c : Nat} (t : RowU B (.slice a n c) xs W) : (a = none → n = 0 ∧ c = 0) ∧ ∀ ad, a = some ad → ∀ j u, (xs.map encU)[j]? = some u → W.cell? (ad.add j) = some u := by
  obtain ⟨h⟩ := t
  have h' := h
  rcases h.2 with ⟨e, hn⟩ | ⟨g, cap, cur, e, _⟩
  · cases e
    exact ⟨fun _ => ⟨rfl, rfl⟩, fun ad e => by cases e⟩
  · cases e
    exact ⟨(fun e => by cases e), fun ad e => by cases e; exact h'.cells (g := g) rfl⟩
theorem oneU (xs : List Int) : ∀ u ∈ xs.map encU, u.oneCell' = true := fun u hu => by
  obtain ⟨x, _, rfl⟩ := List.mem_map.1 hu
  rfl
/-- one more, behind an append -/
theorem RowU.snoc {v' : Value} {x : Int} (h : W'.ownsRow B 23 1 v' (xs.length + 1) (xs.map encU ++ [.int .u64 x])) : RowU B v' (xs ++ [x]) W' :=
  ⟨by rw [List.length_append, List.map_append]; exact h⟩
theorem RowU.join {v' : Value} {ys : List Int} (h : W'.ownsRow B 23 1 v' (xs.length + ys.length) (xs.map encU ++ ys.map encU)) : RowU B v' (xs ++ ys) W' :=
  ⟨by rw [List.length_append, List.map_append]; exact h⟩
/-- what a row is not stands behind an append to it -/
theorem RowU.grown {w : World} (t : RowU B v xs W) (hb : Below B w W) (hs : B ≤ W.heap.size) (hg : W.grownBy W' v.ownBlock) : Below B w W' := hb.grown hg hs fun k e => (t.lt k e).1
end
/-- a literal of one number -/
theorem rowU_one (w : World) (x : Int) : RowU w.heap.size (.slice (some ⟨w.heap.size, 0, none⟩) 1 1) [x] (w.alloc (.cells #[.int .u64 x] 23)) := by
  exact ⟨World.ownsRow_lit w #[.int .u64 x] 1 (Nat.le_refl _) (by unfold maxLen; omega) rfl⟩

end Go.Proofs.Ythbaldjdfehhlaa
