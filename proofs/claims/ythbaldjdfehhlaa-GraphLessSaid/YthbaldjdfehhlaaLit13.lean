/- Literal rows of nodes, as they are read. -/
import Derived.Test.YthbaldjdfehhlaaValN13
namespace Go.Proofs.Ythbaldjdfehhlaa
open Go.RowKit Gr Go.Sort

theorem nums_one {W : World} {k : Nat} {x : Int} (h : Boxed W k 23 (.int .u64 x)) (hx : U64 x) : NumsF W (some ⟨k, 0, none⟩) [x] :=
  ⟨⟨k, 0, fun _ => rfl, fun i hi => by
    obtain rfl : i = 0 := by simp at hi; omega
    exact ⟨h.lt, h.cell⟩⟩, fun y hy => by simp at hy; subst hy; exact hx⟩
def one (id : Int) (k : Nat) (d : Int) : NodeV := ⟨id, some ⟨k, 0, none⟩, 1, [d]⟩
theorem node_one {W : World} {k : Nat} {id x : Int} (h : Boxed W k 23 (.int .u64 x)) (hid : U64 id) (hx : U64 x) : NodeF W (one id k x) :=
  ⟨hid, nums_one h hx, Nat.le_refl _, by unfold one maxLen; simp⟩
theorem nodes_block {W : World} {g : Nat} {cs : Array Value} {ty : TypeId} {fr : Nat × Nat} {l : List NodeV} (hg : W.heap[g]? = some (.cells cs ty fr)) (hcs : cs.toList = flatN l) (each : ∀ v ∈ l, NodeF W v) : NodesF W (some ⟨g, 0, none⟩) l := by
  refine ⟨⟨g, 0, fun _ => rfl, fun i hi => ?_⟩, each⟩
  obtain ⟨h1, h2⟩ := flatN_at hi
  have hlt := (Array.getElem?_eq_some_iff.1 hg).1
  refine ⟨hlt, ?_, ?_⟩
  · rw [cell_of_row _ _ _ _ _ _ hg, ← Array.getElem?_toList, hcs, Nat.zero_add]
    exact h1
  · rw [cell_of_row _ _ _ _ _ _ hg, ← Array.getElem?_toList, hcs, Nat.zero_add]
    exact h2
def litW1 (w : World) (id d : Int) : World := (w.alloc (.cells #[.int .u64 d] 23)).alloc (.cells #[.int .u64 id, .slice (some ⟨w.heap.size, 0, none⟩) 1 1] 35)
theorem lit1 (w : World) {id d : Int} (hid : U64 id) (hd : U64 d) : NodesF (litW1 w id d) (some ⟨w.heap.size + 1, 0, none⟩) [one id w.heap.size d] := by
  have h1 : Boxed (litW1 w id d) w.heap.size 23 (.int .u64 d) := (Boxed.new w _ _).alloc _
  have h2 := World.alloc_heap_new (w.alloc (.cells #[.int .u64 d] 23)) (.cells #[.int .u64 id, .slice (some ⟨w.heap.size, 0, none⟩) 1 1] 35)
  rw [World.size_alloc] at h2
  refine nodes_block h2 rfl fun v hv => ?_
  simp at hv
  subst hv
  exact node_one h1 hid hd
theorem lit1_below (w : World) (id d : Int) : Below w.heap.size w (litW1 w id d) := ((Below.refl _ _).alloc (Nat.le_refl _) _).alloc (by simp) _
def litW2 (w : World) (i1 d1 i2 d2 : Int) : World :=
  ((w.alloc (.cells #[.int .u64 d1] 23)).alloc (.cells #[.int .u64 d2] 23)).alloc (.cells #[.int .u64 i1, .slice (some ⟨w.heap.size, 0, none⟩) 1 1, .int .u64 i2, .slice (some ⟨w.heap.size + 1, 0, none⟩) 1 1] 35)
theorem lit2 (w : World) {i1 d1 i2 d2 : Int} (hi1 : U64 i1) (hd1 : U64 d1) (hi2 : U64 i2) (hd2 : U64 d2) : NodesF (litW2 w i1 d1 i2 d2) (some ⟨w.heap.size + 1 + 1, 0, none⟩) [one i1 w.heap.size d1, one i2 (w.heap.size + 1) d2] := by
  have h1 : Boxed (litW2 w i1 d1 i2 d2) w.heap.size 23 (.int .u64 d1) := ((Boxed.new w _ _).alloc _).alloc _
  have h3 : Boxed (litW2 w i1 d1 i2 d2) (w.heap.size + 1) 23 (.int .u64 d2) := by
    have := Boxed.new (w.alloc (.cells #[.int .u64 d1] 23)) 23 (.int .u64 d2)
    rw [World.size_alloc] at this
    exact this.alloc _
  have h2 := World.alloc_heap_new ((w.alloc (.cells #[.int .u64 d1] 23)).alloc (.cells #[.int .u64 d2] 23)) (.cells #[.int .u64 i1, .slice (some ⟨w.heap.size, 0, none⟩) 1 1, .int .u64 i2, .slice (some ⟨w.heap.size + 1, 0, none⟩) 1 1] 35)
  rw [World.size_alloc, World.size_alloc] at h2
  refine nodes_block h2 rfl fun v hv => ?_
  rcases List.mem_cons.1 hv with rfl | hv
  · exact node_one h1 hi1 hd1
  · simp at hv
    subst hv
    exact node_one h3 hi2 hd2
theorem lit2_below (w : World) (i1 d1 i2 d2 : Int) : Below w.heap.size w (litW2 w i1 d1 i2 d2) := (((Below.refl _ _).alloc (Nat.le_refl _) _).alloc (by simp) _).alloc (by simp; omega) _
def litW0 (w : World) : World :=
  ((w.alloc (.cells #[.int .u64 1] 23)).alloc (.cells #[.int .u64 3] 23)).alloc (.cells #[.int .u64 3, .slice (some ⟨w.heap.size, 0, none⟩) 1 1, .int .u64 1, .slice none 0 0, .int .u64 2, .slice (some ⟨w.heap.size + 1, 0, none⟩) 1 1] 35)
def litL0 (w : World) : List NodeV := [one 3 w.heap.size 1, ⟨1, none, 0, []⟩, one 2 (w.heap.size + 1) 3]
theorem lit0 (w : World) : NodesF (litW0 w) (some ⟨w.heap.size + 1 + 1, 0, none⟩) (litL0 w) := by
  have h1 : Boxed (litW0 w) w.heap.size 23 (.int .u64 1) := ((Boxed.new w _ _).alloc _).alloc _
  have h3 : Boxed (litW0 w) (w.heap.size + 1) 23 (.int .u64 3) := by
    have := Boxed.new (w.alloc (.cells #[.int .u64 1] 23)) 23 (.int .u64 3)
    rw [World.size_alloc] at this
    exact this.alloc _
  have h2 := World.alloc_heap_new ((w.alloc (.cells #[.int .u64 1] 23)).alloc (.cells #[.int .u64 3] 23)) (.cells #[.int .u64 3, .slice (some ⟨w.heap.size, 0, none⟩) 1 1, .int .u64 1, .slice none 0 0, .int .u64 2, .slice (some ⟨w.heap.size + 1, 0, none⟩) 1 1] 35)
  rw [World.size_alloc, World.size_alloc] at h2
  refine nodes_block h2 rfl fun v hv => ?_
  have u1 : U64 1 := by constructor <;> decide
  have u2 : U64 2 := by constructor <;> decide
  have u3 : U64 3 := by constructor <;> decide
  rcases List.mem_cons.1 hv with rfl | hv
  · exact node_one h1 u3 u1
  · rcases List.mem_cons.1 hv with rfl | hv
    · exact ⟨u1, NumsF.nil _ _, Nat.le_refl _, Nat.zero_le _⟩
    · simp at hv
      subst hv
      exact node_one h3 u2 u3
theorem lit0_below (w : World) : Below w.heap.size w (litW0 w) := (((Below.refl _ _).alloc (Nat.le_refl _) _).alloc (by simp) _).alloc (by simp; omega) _
/-- a literal of numbers -/
theorem nums_lit (w : World) (xs : List Int) (hx : ∀ x ∈ xs, U64 x) : NumsF (w.alloc (.cells (xs.map encU).toArray 23)) (some ⟨w.heap.size, 0, none⟩) xs := by
  refine ⟨⟨w.heap.size, 0, fun _ => rfl, fun i hi => ⟨by simp, ?_⟩⟩, hx⟩
  rw [cell_of_row _ _ _ _ _ _ (World.alloc_heap_new w _), Nat.zero_add]
  simp [hi, encU]

end Go.Proofs.Ythbaldjdfehhlaa
