/- stamp.Split and the reference's, by their contracts. -/
import Derived.Test.YtgcineaodfomeaaDoorCStm
import Derived.Test.YtgcineaodfomeaaDoorCOfRef
import Derived.Laws.CopyOwn
import Derived.Laws.Tables
namespace Go.Proofs.YtgcineaodfomeaaDoor.Civ
open Go.RowKit

/-- a clock in a block -/
def clk (y m d h i s k : Int) : Obj := .cells #[.int .i64 y, .int .i64 m, .int .i64 d, .int .i64 h, .int .i64 i, .int .i64 s, .int .i64 k] 36 (0, 0)
theorem clk_free {w : World} {B : Nat} {y m d h i s k : Int} (hr : w.heap[B]? = some (clk y m d h i s k)) (j : Nat) : w.frozen? ⟨B, j, none⟩ = false := by
  unfold clk at hr
  simp [World.frozen?, hr]
theorem row_set {w : World} {B : Nat} {c : Array Value} {t : TypeId} {f : Nat × Nat} (hr : w.heap[B]? = some (.cells c t f)) (j : Nat) (v : Value) : (w.setCell ⟨B, j, none⟩ v).heap[B]? = some (.cells (c.setIfInBounds j v) t f) := by
  have hlt := lt_of_block hr
  have h' : w.heap[B] = .cells c t f := by simpa [Array.getElem?_eq_getElem hlt] using hr
  show (w.heap.modify B _)[B]? = _
  rw [Array.getElem?_eq_getElem (by simpa using hlt), Array.getElem_modify_self, h']
  rfl
def wroteC (w : World) (B : Nat) (y m d h i s k : Int) : World :=
  ((((((w.setCell ⟨B, 0, none⟩ (.int .i64 y)).setCell ⟨B, 1, none⟩ (.int .i64 m)).setCell ⟨B, 2, none⟩ (.int .i64 d)).setCell ⟨B, 3, none⟩ (.int .i64 h)).setCell ⟨B, 4, none⟩ (.int .i64 i)).setCell ⟨B, 5, none⟩ (.int .i64 s)).setCell ⟨B, 6, none⟩ (.int .i64 k)
theorem clk_set0 {w : World} {B : Nat} {y m d h i s k u : Int} (hr : w.heap[B]? = some (clk y m d h i s k)) : (w.setCell ⟨B, 0, none⟩ (.int .i64 u)).heap[B]? = some (clk u m d h i s k) := row_set hr 0 _
theorem clk_set1 {w : World} {B : Nat} {y m d h i s k u : Int} (hr : w.heap[B]? = some (clk y m d h i s k)) : (w.setCell ⟨B, 1, none⟩ (.int .i64 u)).heap[B]? = some (clk y u d h i s k) := row_set hr 1 _
theorem clk_set2 {w : World} {B : Nat} {y m d h i s k u : Int} (hr : w.heap[B]? = some (clk y m d h i s k)) : (w.setCell ⟨B, 2, none⟩ (.int .i64 u)).heap[B]? = some (clk y m u h i s k) := row_set hr 2 _
theorem clk_set3 {w : World} {B : Nat} {y m d h i s k u : Int} (hr : w.heap[B]? = some (clk y m d h i s k)) : (w.setCell ⟨B, 3, none⟩ (.int .i64 u)).heap[B]? = some (clk y m d u i s k) := row_set hr 3 _
theorem clk_set4 {w : World} {B : Nat} {y m d h i s k u : Int} (hr : w.heap[B]? = some (clk y m d h i s k)) : (w.setCell ⟨B, 4, none⟩ (.int .i64 u)).heap[B]? = some (clk y m d h u s k) := row_set hr 4 _
theorem clk_set5 {w : World} {B : Nat} {y m d h i s k u : Int} (hr : w.heap[B]? = some (clk y m d h i s k)) : (w.setCell ⟨B, 5, none⟩ (.int .i64 u)).heap[B]? = some (clk y m d h i u k) := row_set hr 5 _
theorem clk_set6 {w : World} {B : Nat} {y m d h i s k u : Int} (hr : w.heap[B]? = some (clk y m d h i s k)) : (w.setCell ⟨B, 6, none⟩ (.int .i64 u)).heap[B]? = some (clk y m d h i s u) := row_set hr 6 _
theorem wroteC_row {w : World} {B : Nat} {y m d h i s k y' m' d' h' i' s' k' : Int} (hr : w.heap[B]? = some (clk y' m' d' h' i' s' k')) : (wroteC w B y m d h i s k).heap[B]? = some (clk y m d h i s k) :=
  clk_set6 (clk_set5 (clk_set4 (clk_set3 (clk_set2 (clk_set1 (clk_set0 hr))))))
theorem wroteC_below {n : Nat} {w0 w : World} {B : Nat} {y m d h i s k : Int} (hb : Below n w0 w) (hB : n ≤ B) : Below n w0 (wroteC w B y m d h i s k) :=
  ((((((hb.setCell (p := ⟨B, 0, none⟩) hB _).setCell (p := ⟨B, 1, none⟩) hB _).setCell (p := ⟨B, 2, none⟩) hB _).setCell (p := ⟨B, 3, none⟩) hB _).setCell (p := ⟨B, 4, none⟩) hB _).setCell (p := ⟨B, 5, none⟩) hB _).setCell (p := ⟨B, 6, none⟩) hB _
theorem wroteC_other {w : World} {B g : Nat} {y m d h i s k : Int} (hne : g ≠ B) : (wroteC w B y m d h i s k).heap[g]? = w.heap[g]? := by
  have step : ∀ (W : World) (j : Nat) (v : Value), (W.setCell ⟨B, j, none⟩ v).heap[g]? = W.heap[g]? := fun W j v => by
    show (W.heap.modify B _)[g]? = _
    rw [Array.getElem?_modify, if_neg (fun h => hne h.symm)]
  unfold wroteC
  rw [step, step, step, step, step, step, step]
theorem clk_cells {w : World} {B : Nat} {y m d h i s k : Int} (hr : w.heap[B]? = some (clk y m d h i s k)) :
    w.cell? ⟨B, 0, none⟩ = some (.int .i64 y) ∧ w.cell? ⟨B, 1, none⟩ = some (.int .i64 m) ∧ w.cell? ⟨B, 2, none⟩ = some (.int .i64 d) ∧ w.cell? ⟨B, 3, none⟩ = some (.int .i64 h) ∧
    w.cell? ⟨B, 4, none⟩ = some (.int .i64 i) ∧ w.cell? ⟨B, 5, none⟩ = some (.int .i64 s) ∧ w.cell? ⟨B, 6, none⟩ = some (.int .i64 k) :=
  ⟨cell_of_row _ B 0 _ _ _ hr, cell_of_row _ B 1 _ _ _ hr, cell_of_row _ B 2 _ _ _ hr, cell_of_row _ B 3 _ _ _ hr, cell_of_row _ B 4 _ _ _ hr, cell_of_row _ B 5 _ _ _ hr, cell_of_row _ B 6 _ _ _ hr⟩
/-- a clock in a block of the call's own -/
structure Own (w : World) (B : Nat) (y m d h i s k : Int) (W : World) : Prop where
  bel : Below w.heap.size w W
  at_ : w.heap.size ≤ B
  siz : B < W.heap.size
  row : W.heap[B]? = some (clk y m d h i s k)
theorem Own.newAt {w W : World} (hb : Below w.heap.size w W) (y m d h i s k : Int) : Own w W.heap.size y m d h i s k (W.alloc (.cells #[.int .i64 y, .int .i64 m, .int .i64 d, .int .i64 h, .int .i64 i, .int .i64 s, .int .i64 k] 36)) :=
  ⟨hb.alloc hb.size _, hb.size, by simp, heap_alloc_new W _⟩
theorem Own.new (w : World) (y m d h i s k : Int) : Own w w.heap.size y m d h i s k (w.alloc (.cells #[.int .i64 y, .int .i64 m, .int .i64 d, .int .i64 h, .int .i64 i, .int .i64 s, .int .i64 k] 36)) := Own.newAt (Below.refl _ _) y m d h i s k
theorem Own.below {w : World} {B : Nat} {y m d h i s k : Int} {W W' : World} (o : Own w B y m d h i s k W) (hb : Below W.heap.size W W') : Own w B y m d h i s k W' :=
  ⟨o.bel.trans (hb.mono o.bel.size), o.at_, Nat.lt_of_lt_of_le o.siz hb.size, (hb.block _ o.siz).trans o.row⟩
theorem Own.drew {w : World} {B : Nat} {y m d h i s k : Int} {W : World} (o : Own w B y m d h i s k W) : Own w B y m d h i s k W.drew := o.below (Below.refl _ _).drew
theorem Own.set0 {w : World} {B : Nat} {y m d h i s k : Int} {W : World} (o : Own w B y m d h i s k W) (u : Int) : Own w B u m d h i s k (W.setCell ⟨B, 0, none⟩ (.int .i64 u)) :=
  ⟨o.bel.setCell (p := ⟨B, 0, none⟩) o.at_ _, o.at_, by simpa using o.siz, clk_set0 o.row⟩
theorem Own.set1 {w : World} {B : Nat} {y m d h i s k : Int} {W : World} (o : Own w B y m d h i s k W) (u : Int) : Own w B y u d h i s k (W.setCell ⟨B, 1, none⟩ (.int .i64 u)) :=
  ⟨o.bel.setCell (p := ⟨B, 1, none⟩) o.at_ _, o.at_, by simpa using o.siz, clk_set1 o.row⟩
theorem Own.set2 {w : World} {B : Nat} {y m d h i s k : Int} {W : World} (o : Own w B y m d h i s k W) (u : Int) : Own w B y m u h i s k (W.setCell ⟨B, 2, none⟩ (.int .i64 u)) :=
  ⟨o.bel.setCell (p := ⟨B, 2, none⟩) o.at_ _, o.at_, by simpa using o.siz, clk_set2 o.row⟩
theorem Own.set3 {w : World} {B : Nat} {y m d h i s k : Int} {W : World} (o : Own w B y m d h i s k W) (u : Int) : Own w B y m d u i s k (W.setCell ⟨B, 3, none⟩ (.int .i64 u)) :=
  ⟨o.bel.setCell (p := ⟨B, 3, none⟩) o.at_ _, o.at_, by simpa using o.siz, clk_set3 o.row⟩
theorem Own.set4 {w : World} {B : Nat} {y m d h i s k : Int} {W : World} (o : Own w B y m d h i s k W) (u : Int) : Own w B y m d h u s k (W.setCell ⟨B, 4, none⟩ (.int .i64 u)) :=
  ⟨o.bel.setCell (p := ⟨B, 4, none⟩) o.at_ _, o.at_, by simpa using o.siz, clk_set4 o.row⟩
theorem Own.set5 {w : World} {B : Nat} {y m d h i s k : Int} {W : World} (o : Own w B y m d h i s k W) (u : Int) : Own w B y m d h i u k (W.setCell ⟨B, 5, none⟩ (.int .i64 u)) :=
  ⟨o.bel.setCell (p := ⟨B, 5, none⟩) o.at_ _, o.at_, by simpa using o.siz, clk_set5 o.row⟩
theorem Own.set6 {w : World} {B : Nat} {y m d h i s k : Int} {W : World} (o : Own w B y m d h i s k W) (u : Int) : Own w B y m d h i s u (W.setCell ⟨B, 6, none⟩ (.int .i64 u)) :=
  ⟨o.bel.setCell (p := ⟨B, 6, none⟩) o.at_ _, o.at_, by simpa using o.siz, clk_set6 o.row⟩
theorem Own.other {w : World} {B C : Nat} {y m d h i s k : Int} {W : World} (o : Own w B y m d h i s k W) (hC : w.heap.size ≤ C) (hne : B ≠ C) (j : Nat) (v : Value) : Own w B y m d h i s k (W.setCell ⟨C, j, none⟩ v) :=
  ⟨o.bel.setCell (p := ⟨C, j, none⟩) hC _, o.at_, by simpa using o.siz, by rw [← o.row]; show (W.heap.modify C _)[B]? = _; rw [Array.getElem?_modify, if_neg (fun h => hne h.symm)]⟩
theorem Own.alloc {w : World} {B : Nat} {y m d h i s k : Int} {W : World} (o : Own w B y m d h i s k W) (x : Obj) : Own w B y m d h i s k (W.alloc x) := o.below ((Below.refl _ _).alloc (Nat.le_refl _) x)
/-- a date in a block of the call's own -/
structure OwnD (w : World) (B : Nat) (y m d : Int) (W : World) : Prop where
  bel : Below w.heap.size w W
  at_ : w.heap.size ≤ B
  siz : B < W.heap.size
  row : W.heap[B]? = some (triple y m d)
theorem OwnD.newAt {w W : World} (hb : Below w.heap.size w W) (y m d : Int) : OwnD w W.heap.size y m d (W.alloc (.cells #[.int .i64 y, .int .i64 m, .int .i64 d] 34)) :=
  ⟨hb.alloc hb.size _, hb.size, by simp, heap_alloc_new W _⟩
theorem OwnD.below {w : World} {B : Nat} {y m d : Int} {W W' : World} (o : OwnD w B y m d W) (hb : Below W.heap.size W W') : OwnD w B y m d W' :=
  ⟨o.bel.trans (hb.mono o.bel.size), o.at_, Nat.lt_of_lt_of_le o.siz hb.size, (hb.block _ o.siz).trans o.row⟩
theorem Own.put {w : World} {B : Nat} {y m d h i s k : Int} {W : World} (o : Own w B y m d h i s k W) (y' m' d' h' i' s' k' : Int) : Own w B y' m' d' h' i' s' k' (W.setRow B #[.int .i64 y', .int .i64 m', .int .i64 d', .int .i64 h', .int .i64 i', .int .i64 s', .int .i64 k']) :=
  ⟨below_setRow o.bel o.at_ _, o.at_, by simpa using o.siz, setRow_heap W B _ _ _ _ o.row⟩
theorem Own.wrote {w : World} {B : Nat} {y m d h i s k y' m' d' h' i' s' k' : Int} {W : World} (o : Own w B y m d h i s k W) : Own w B y' m' d' h' i' s' k' (wroteC W B y' m' d' h' i' s' k') :=
  ⟨wroteC_below o.bel o.at_, o.at_, by simpa [wroteC] using o.siz, wroteC_row o.row⟩
theorem Own.free {w : World} {B : Nat} {y m d h i s k : Int} {W : World} (o : Own w B y m d h i s k W) (j : Nat) : W.frozen? ⟨B, j, none⟩ = false := clk_free o.row j
/-- the months' table lies in whatever comes of this world -/
def MonOn (w : World) : Prop := ∀ W, Below w.heap.size w W → Mon W
theorem MonOn.on {w W : World} (h : MonOn w) (hb : Below w.heap.size w W) : Mon W := h W hb
theorem MonOn.of {w : World} (h : Mon w) : MonOn w := fun _ hb => h.below hb h.1
end Go.Proofs.YtgcineaodfomeaaDoor.Civ
