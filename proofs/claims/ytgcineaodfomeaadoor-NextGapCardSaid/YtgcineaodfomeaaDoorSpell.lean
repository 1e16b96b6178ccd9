/- cron.spelled, by its contract. -/
import Derived.Test.YtgcineaodfomeaaDoorParts
import Derived.Test.YtgcineaodfomeaaDoorAskX
namespace Go.Proofs.YtgcineaodfomeaaDoor
open Go.RowKit

def blanks (s : ByteArray) : List ByteArray := Lib.splitB ⟨#[32]⟩ 0 (Lib.countB s ⟨#[32]⟩) s
theorem blanks_parts (s : ByteArray) : (blanks s).map (·.data.toList) = Cron.parts s.data.toList := by
  unfold blanks Cron.parts Lib.split
  rw [Lib.splitB_data]
theorem blanks_length (s : ByteArray) : (blanks s).length = Lib.countB s ⟨#[32]⟩ + 1 := Lib.splitB_all _ (by decide) 0 _ s rfl
/-- what lies in memory while an expression is parsed: the result, the expression so far, the parts -/
structure SP (w : World) (b : Nat → Nat) (s : Nat → Bool) (xs : List ByteArray) (W : World) : Prop where
  bel : Below w.heap.size w W
  res : W.heap[w.heap.size]? = some (xobj (fun _ => 0) (fun _ => false))
  exp : W.heap[w.heap.size + 1]? = some (xobj b s)
  row : W.heap[w.heap.size + 2]? = some (.cells (xs.map Value.string).toArray 9 (0, 0))
theorem SP.below {w : World} {b : Nat → Nat} {s : Nat → Bool} {xs : List ByteArray} {W W' : World} (p : SP w b s xs W) (hb : Below W.heap.size W W') : SP w b s xs W' :=
  ⟨p.bel.trans (hb.mono p.bel.size), (hb.block _ (lt_of_block p.res)).trans p.res, (hb.block _ (lt_of_block p.exp)).trans p.exp, (hb.block _ (lt_of_block p.row)).trans p.row⟩
theorem SP.piece {w : World} {b : Nat → Nat} {s : Nat → Bool} {xs : List ByteArray} {W : World} (p : SP w b s xs W) (i : Nat) (x : ByteArray) (h : xs[i]? = some x) : W.cell? ⟨w.heap.size + 2, i, none⟩ = some (.string x) := by
  rw [cell_of_row _ _ i _ _ _ p.row, List.getElem?_toArray, List.getElem?_map, h]
  rfl
/-- an expression is stored whole -/
def putX (W : World) (B : Nat) (b : Nat → Nat) (s : Nat → Bool) : World :=
  (((((((((W.setCell ⟨B, 0, none⟩ (.int .u64 ((b 0 : Nat) : Int))).setCell ⟨B, 1, none⟩ (.bool (s 0))).setCell ⟨B, 2, none⟩ (.int .u64 ((b 1 : Nat) : Int))).setCell ⟨B, 3, none⟩ (.bool (s 1))).setCell ⟨B, 4, none⟩ (.int .u64 ((b 2 : Nat) : Int))).setCell ⟨B, 5, none⟩ (.bool (s 2))).setCell ⟨B, 6, none⟩ (.int .u64 ((b 3 : Nat) : Int))).setCell ⟨B, 7, none⟩ (.bool (s 3))).setCell ⟨B, 8, none⟩ (.int .u64 ((b 4 : Nat) : Int))).setCell ⟨B, 9, none⟩ (.bool (s 4))
theorem putX_row {W : World} {B : Nat} {b b' : Nat → Nat} {s s' : Nat → Bool} (h : W.heap[B]? = some (xobj b' s')) : (putX W B b s).heap[B]? = some (xobj b s) := by
  unfold xobj xcells at h
  have a0 := row_set h 0 (.int .u64 ((b 0 : Nat) : Int))
  have a1 := row_set a0 1 (.bool (s 0))
  have a2 := row_set a1 2 (.int .u64 ((b 1 : Nat) : Int))
  have a3 := row_set a2 3 (.bool (s 1))
  have a4 := row_set a3 4 (.int .u64 ((b 2 : Nat) : Int))
  have a5 := row_set a4 5 (.bool (s 2))
  have a6 := row_set a5 6 (.int .u64 ((b 3 : Nat) : Int))
  have a7 := row_set a6 7 (.bool (s 3))
  have a8 := row_set a7 8 (.int .u64 ((b 4 : Nat) : Int))
  have a9 := row_set a8 9 (.bool (s 4))
  unfold putX
  rw [a9]
  simp [xobj, xcells]
theorem putX_else {W : World} {B g : Nat} {b : Nat → Nat} {s : Nat → Bool} (h : B ≠ g) : (putX W B b s).heap[g]? = W.heap[g]? := by
  unfold putX
  rw [set_else h, set_else h, set_else h, set_else h, set_else h, set_else h, set_else h, set_else h, set_else h, set_else h]
theorem putX_below {n : Nat} {w W : World} {B : Nat} {b : Nat → Nat} {s : Nat → Bool} (h : Below n w W) (hB : n ≤ B) : Below n w (putX W B b s) :=
  (((((((((h.setCell (p := ⟨B, 0, none⟩) hB _).setCell (p := ⟨B, 1, none⟩) hB _).setCell (p := ⟨B, 2, none⟩) hB _).setCell (p := ⟨B, 3, none⟩) hB _).setCell (p := ⟨B, 4, none⟩) hB _).setCell (p := ⟨B, 5, none⟩) hB _).setCell (p := ⟨B, 6, none⟩) hB _).setCell (p := ⟨B, 7, none⟩) hB _).setCell (p := ⟨B, 8, none⟩) hB _).setCell (p := ⟨B, 9, none⟩) hB _
/-- a field is stored within an expression -/
def upd {α : Type} (b : Nat → α) (i : Nat) (x : α) : Nat → α := fun k => if k = i then x else b k
theorem field_row {W : World} {B : Nat} {b : Nat → Nat} {s : Nat → Bool} (h : W.heap[B]? = some (xobj b s)) (x : Nat) (t : Bool) : ∀ i, i < 5 → ((W.setCell ⟨B, i * 2, none⟩ (.int .u64 (x : Int))).setCell ⟨B, i * 2 + 1, none⟩ (.bool t)).heap[B]? = some (xobj (upd b i x) (upd s i t)) := by
  unfold xobj at h
  have a := fun i : Nat => row_set (row_set h (i * 2) (.int .u64 (x : Int))) (i * 2 + 1) (.bool t)
  refine five ?_ ?_ ?_ ?_ ?_ <;> rw [a] <;> simp [xobj, xcells, upd]
theorem SP.field {w : World} {b : Nat → Nat} {s : Nat → Bool} {xs : List ByteArray} {W : World} (p : SP w b s xs W) (x : Nat) (t : Bool) (i : Nat) (hi : i < 5) : SP w (upd b i x) (upd s i t) xs ((W.setCell ⟨w.heap.size + 1, i * 2, none⟩ (.int .u64 (x : Int))).setCell ⟨w.heap.size + 1, i * 2 + 1, none⟩ (.bool t)) :=
  ⟨(p.bel.setCell (p := ⟨w.heap.size + 1, i * 2, none⟩) (by show _ ≤ w.heap.size + 1; omega) _).setCell (p := ⟨w.heap.size + 1, i * 2 + 1, none⟩) (by show _ ≤ w.heap.size + 1; omega) _,
    (set_else (by omega)).trans ((set_else (by omega)).trans p.res), field_row p.exp x t i hi, (set_else (by omega)).trans ((set_else (by omega)).trans p.row)⟩
theorem SP.done {w : World} {b : Nat → Nat} {s : Nat → Bool} {xs : List ByteArray} {W : World} (p : SP w b s xs W) (b' : Nat → Nat) (s' : Nat → Bool) : Below w.heap.size w (putX W w.heap.size b' s') ∧ (putX W w.heap.size b' s').heap[w.heap.size]? = some (xobj b' s') :=
  ⟨putX_below p.bel (Nat.le_refl _), putX_row p.res⟩
abbrev zeroX : Array Value := #[.int .u64 0, .bool false, .int .u64 0, .bool false, .int .u64 0, .bool false, .int .u64 0, .bool false, .int .u64 0, .bool false]
theorem SP.start (w : World) (xs : List ByteArray) : SP w (fun _ => 0) (fun _ => false) xs (((w.alloc (.cells zeroX 26)).alloc (.cells zeroX 26)).alloc (.cells (xs.map Value.string).toArray 9)) := by
  have b1 : Below w.heap.size w (w.alloc (.cells zeroX 26)) := (Below.refl _ _).alloc (Nat.le_refl _) _
  have h0 := heap_alloc_new w (.cells zeroX 26)
  have s1 : (w.alloc (.cells zeroX 26)).heap.size = w.heap.size + 1 := by simp
  generalize w.alloc (.cells zeroX 26) = w1 at *
  have b2 : Below w1.heap.size w1 (w1.alloc (.cells zeroX 26)) := (Below.refl _ _).alloc (Nat.le_refl _) _
  have h1 := heap_alloc_new w1 (.cells zeroX 26)
  have s2 : (w1.alloc (.cells zeroX 26)).heap.size = w1.heap.size + 1 := by simp
  generalize w1.alloc (.cells zeroX 26) = w2 at *
  have b3 : Below w2.heap.size w2 (w2.alloc (.cells (xs.map Value.string).toArray 9)) := (Below.refl _ _).alloc (Nat.le_refl _) _
  have h2 := heap_alloc_new w2 (.cells (xs.map Value.string).toArray 9)
  generalize w2.alloc (.cells (xs.map Value.string).toArray 9) = w3 at *
  rw [s1] at h1
  rw [show w2.heap.size = w.heap.size + 2 by omega] at h2
  exact ⟨(b1.trans (b2.mono (by omega))).trans (b3.mono (by omega)), (b3.block _ (by omega)).trans ((b2.block _ (by omega)).trans h0), (b3.block _ (by omega)).trans h1, h2⟩

namespace Cron
def partB (ps : List (List UInt8)) (i : Nat) (k : Nat) : Nat := if k < i then Fld.allows k (ps.getD k []) else 0
def partS (ps : List (List UInt8)) (i : Nat) (k : Nat) : Bool := if k < i then Fld.free k (ps.getD k []) else false
theorem partB_next (ps : List (List UInt8)) (i : Nat) : upd (partB ps i) i (Fld.allows i (ps.getD i [])) = partB ps (i + 1) := by
  funext k
  unfold upd partB
  by_cases h : k = i
  · subst h; rw [if_pos rfl, if_pos (by omega)]
  · rw [if_neg h]
    by_cases h2 : k < i
    · rw [if_pos h2, if_pos (by omega)]
    · rw [if_neg h2, if_neg (by omega)]
theorem partS_next (ps : List (List UInt8)) (i : Nat) : upd (partS ps i) i (Fld.free i (ps.getD i [])) = partS ps (i + 1) := by
  funext k
  unfold upd partS
  by_cases h : k = i
  · subst h; rw [if_pos rfl, if_pos (by omega)]
  · rw [if_neg h]
    by_cases h2 : k < i
    · rw [if_pos h2, if_pos (by omega)]
    · rw [if_neg h2, if_neg (by omega)]
theorem sp_all {l : List UInt8} (h : spErr l = 0) : xcells (spB l) (spS l) = xcells (partB (parts l) 5) (partS (parts l) 5) := by
  unfold xcells spB spS partB partS
  simp [h]
theorem sp_none {l : List UInt8} (h : spErr l ≠ 0) : xcells (spB l) (spS l) = xcells (fun _ => 0) (fun _ => false) := by
  unfold xcells spB spS
  simp [h]
end Cron

end Go.Proofs.YtgcineaodfomeaaDoor
