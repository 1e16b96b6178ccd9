/- stamp.Split and the reference's, by their contracts. Expressions: five fields as one value, in a block of a call's own; what may be, their texts, what fits; what lies in the world when a call begins. How long a field's text is. -/
import Derived.Test.YtoghalmjbbkjhaaGreatDoorMaa
import Derived.Test.YtoghalmjbbkjhaaGreatDoorCOfRef
import Derived.Laws.CopyOwn
import Derived.Laws.Tables
import Derived.Test.YtoghalmjbbkjhaaGreatDoorBase
import Derived.Test.YtoghalmjbbkjhaaGreatDoorHas
import Derived.Test.YtoghalmjbbkjhaaGreatDoorTextM
namespace Go.Proofs.YtoghalmjbbkjhaaGreatDoor.Civ
open Go.RowKit

/-- a clock in a block -/
def clk (y m d h i s k : Int) : Obj := .cells #[.int .i64 y, .int .i64 m, .int .i64 d, .int .i64 h, .int .i64 i, .int .i64 s, .int .i64 k] 49 (0, 0)
theorem clk_free {w : World} {B : Nat} {y m d h i s k : Int} (hr : w.heap[B]? = some (clk y m d h i s k)) (j : Nat) : w.frozen? ⟨B, j, none⟩ = false := by
  unfold clk at hr
  simp [World.frozen?, hr]
theorem row_set {w : World} {B : Nat} {c : Array Value} {t : TypeId} {f : Nat × Nat} (hr : w.heap[B]? = some (.cells c t f)) (j : Nat) (v : Value) : (w.setCell ⟨B, j, none⟩ v).heap[B]? = some (.cells (c.setIfInBounds j v) t f) := by
  have hlt := lt_of_block hr
  have h' : w.heap[B] = .cells c t f := by simpa [Array.getElem?_eq_getElem hlt] using hr
  show (w.heap.modify B _)[B]? = _
  rw [Array.getElem?_eq_getElem (by simpa using hlt), Array.getElem_modify_self, h']
  rfl
def wroteC (w : World) (B : Nat) (y m d h i s k : Int) : World :=
  ((((((w.setCell ⟨B, 0, none⟩ (.int .i64 y)).setCell ⟨B, 1, none⟩ (.int .i64 m)).setCell ⟨B, 2, none⟩ (.int .i64 d)).setCell ⟨B, 3, none⟩ (.int .i64 h)).setCell ⟨B, 4, none⟩ (.int .i64 i)).setCell ⟨B, 5, none⟩ (.int .i64 s)).setCell ⟨B, 6, none⟩ (.int .i64 k)
theorem clk_set0 {w : World} {B : Nat} {y m d h i s k u : Int} (hr : w.heap[B]? = some (clk y m d h i s k)) : (w.setCell ⟨B, 0, none⟩ (.int .i64 u)).heap[B]? = some (clk u m d h i s k) := row_set hr 0 _
theorem clk_set1 {w : World} {B : Nat} {y m d h i s k u : Int} (hr : w.heap[B]? = some (clk y m d h i s k)) : (w.setCell ⟨B, 1, none⟩ (.int .i64 u)).heap[B]? = some (clk y u d h i s k) := row_set hr 1 _
theorem clk_set2 {w : World} {B : Nat} {y m d h i s k u : Int} (hr : w.heap[B]? = some (clk y m d h i s k)) : (w.setCell ⟨B, 2, none⟩ (.int .i64 u)).heap[B]? = some (clk y m u h i s k) := row_set hr 2 _
theorem clk_set3 {w : World} {B : Nat} {y m d h i s k u : Int} (hr : w.heap[B]? = some (clk y m d h i s k)) : (w.setCell ⟨B, 3, none⟩ (.int .i64 u)).heap[B]? = some (clk y m d u i s k) := row_set hr 3 _
theorem clk_set4 {w : World} {B : Nat} {y m d h i s k u : Int} (hr : w.heap[B]? = some (clk y m d h i s k)) : (w.setCell ⟨B, 4, none⟩ (.int .i64 u)).heap[B]? = some (clk y m d h u s k) := row_set hr 4 _
theorem clk_set5 {w : World} {B : Nat} {y m d h i s k u : Int} (hr : w.heap[B]? = some (clk y m d h i s k)) : (w.setCell ⟨B, 5, none⟩ (.int .i64 u)).heap[B]? = some (clk y m d h i u k) := row_set hr 5 _
theorem clk_set6 {w : World} {B : Nat} {y m d h i s k u : Int} (hr : w.heap[B]? = some (clk y m d h i s k)) : (w.setCell ⟨B, 6, none⟩ (.int .i64 u)).heap[B]? = some (clk y m d h i s u) := row_set hr 6 _
theorem wroteC_row {w : World} {B : Nat} {y m d h i s k y' m' d' h' i' s' k' : Int} (hr : w.heap[B]? = some (clk y' m' d' h' i' s' k')) : (wroteC w B y m d h i s k).heap[B]? = some (clk y m d h i s k) :=
  clk_set6 (clk_set5 (clk_set4 (clk_set3 (clk_set2 (clk_set1 (clk_set0 hr))))))
theorem wroteC_below {n : Nat} {w0 w : World} {B : Nat} {y m d h i s k : Int} (hb : Below n w0 w) (hB : n ≤ B) : Below n w0 (wroteC w B y m d h i s k) :=
  ((((((hb.setCell (p := ⟨B, 0, none⟩) hB _).setCell (p := ⟨B, 1, none⟩) hB _).setCell (p := ⟨B, 2, none⟩) hB _).setCell (p := ⟨B, 3, none⟩) hB _).setCell (p := ⟨B, 4, none⟩) hB _).setCell (p := ⟨B, 5, none⟩) hB _).setCell (p := ⟨B, 6, none⟩) hB _
theorem wroteC_other {w : World} {B g : Nat} {y m d h i s k : Int} (hne : g ≠ B) : (wroteC w B y m d h i s k).heap[g]? = w.heap[g]? := by
  have step : ∀ (W : World) (j : Nat) (v : Value), (W.setCell ⟨B, j, none⟩ v).heap[g]? = W.heap[g]? := fun W j v => by
    show (W.heap.modify B _)[g]? = _
    rw [Array.getElem?_modify, if_neg (fun h => hne h.symm)]
  unfold wroteC
  rw [step, step, step, step, step, step, step]
theorem clk_cells {w : World} {B : Nat} {y m d h i s k : Int} (hr : w.heap[B]? = some (clk y m d h i s k)) :
    w.cell? ⟨B, 0, none⟩ = some (.int .i64 y) ∧ w.cell? ⟨B, 1, none⟩ = some (.int .i64 m) ∧ w.cell? ⟨B, 2, none⟩ = some (.int .i64 d) ∧ w.cell? ⟨B, 3, none⟩ = some (.int .i64 h) ∧
    w.cell? ⟨B, 4, none⟩ = some (.int .i64 i) ∧ w.cell? ⟨B, 5, none⟩ = some (.int .i64 s) ∧ w.cell? ⟨B, 6, none⟩ = some (.int .i64 k) :=
  ⟨cell_of_row _ B 0 _ _ _ hr, cell_of_row _ B 1 _ _ _ hr, cell_of_row _ B 2 _ _ _ hr, cell_of_row _ B 3 _ _ _ hr, cell_of_row _ B 4 _ _ _ hr, cell_of_row _ B 5 _ _ _ hr, cell_of_row _ B 6 _ _ _ hr⟩
/-- a clock in a block of the call's own -/
structure Own (w : World) (B : Nat) (y m d h i s k : Int) (W : World) : Prop where
  bel : Below w.heap.size w W
  at_ : w.heap.size ≤ B
  siz : B < W.heap.size
  row : W.heap[B]? = some (clk y m d h i s k)
theorem Own.newAt {w W : World} (hb : Below w.heap.size w W) (y m d h i s k : Int) : Own w W.heap.size y m d h i s k (W.alloc (.cells #[.int .i64 y, .int .i64 m, .int .i64 d, .int .i64 h, .int .i64 i, .int .i64 s, .int .i64 k] 49)) :=
  ⟨hb.alloc hb.size _, hb.size, by simp, heap_alloc_new W _⟩
theorem Own.new (w : World) (y m d h i s k : Int) : Own w w.heap.size y m d h i s k (w.alloc (.cells #[.int .i64 y, .int .i64 m, .int .i64 d, .int .i64 h, .int .i64 i, .int .i64 s, .int .i64 k] 49)) := Own.newAt (Below.refl _ _) y m d h i s k
theorem Own.below {w : World} {B : Nat} {y m d h i s k : Int} {W W' : World} (o : Own w B y m d h i s k W) (hb : Below W.heap.size W W') : Own w B y m d h i s k W' :=
  ⟨o.bel.trans (hb.mono o.bel.size), o.at_, Nat.lt_of_lt_of_le o.siz hb.size, (hb.block _ o.siz).trans o.row⟩
theorem Own.drew {w : World} {B : Nat} {y m d h i s k : Int} {W : World} (o : Own w B y m d h i s k W) : Own w B y m d h i s k W.drew := o.below (Below.refl _ _).drew
theorem Own.set0 {w : World} {B : Nat} {y m d h i s k : Int} {W : World} (o : Own w B y m d h i s k W) (u : Int) : Own w B u m d h i s k (W.setCell ⟨B, 0, none⟩ (.int .i64 u)) :=
  ⟨o.bel.setCell (p := ⟨B, 0, none⟩) o.at_ _, o.at_, by simpa using o.siz, clk_set0 o.row⟩
theorem Own.set1 {w : World} {B : Nat} {y m d h i s k : Int} {W : World} (o : Own w B y m d h i s k W) (u : Int) : Own w B y u d h i s k (W.setCell ⟨B, 1, none⟩ (.int .i64 u)) :=
  ⟨o.bel.setCell (p := ⟨B, 1, none⟩) o.at_ _, o.at_, by simpa using o.siz, clk_set1 o.row⟩
theorem Own.set2 {w : World} {B : Nat} {y m d h i s k : Int} {W : World} (o : Own w B y m d h i s k W) (u : Int) : Own w B y m u h i s k (W.setCell ⟨B, 2, none⟩ (.int .i64 u)) :=
  ⟨o.bel.setCell (p := ⟨B, 2, none⟩) o.at_ _, o.at_, by simpa using o.siz, clk_set2 o.row⟩
theorem Own.set3 {w : World} {B : Nat} {y m d h i s k : Int} {W : World} (o : Own w B y m d h i s k W) (u : Int) : Own w B y m d u i s k (W.setCell ⟨B, 3, none⟩ (.int .i64 u)) :=
  ⟨o.bel.setCell (p := ⟨B, 3, none⟩) o.at_ _, o.at_, by simpa using o.siz, clk_set3 o.row⟩
theorem Own.set4 {w : World} {B : Nat} {y m d h i s k : Int} {W : World} (o : Own w B y m d h i s k W) (u : Int) : Own w B y m d h u s k (W.setCell ⟨B, 4, none⟩ (.int .i64 u)) :=
  ⟨o.bel.setCell (p := ⟨B, 4, none⟩) o.at_ _, o.at_, by simpa using o.siz, clk_set4 o.row⟩
theorem Own.set5 {w : World} {B : Nat} {y m d h i s k : Int} {W : World} (o : Own w B y m d h i s k W) (u : Int) : Own w B y m d h i u k (W.setCell ⟨B, 5, none⟩ (.int .i64 u)) :=
  ⟨o.bel.setCell (p := ⟨B, 5, none⟩) o.at_ _, o.at_, by simpa using o.siz, clk_set5 o.row⟩
theorem Own.set6 {w : World} {B : Nat} {y m d h i s k : Int} {W : World} (o : Own w B y m d h i s k W) (u : Int) : Own w B y m d h i s u (W.setCell ⟨B, 6, none⟩ (.int .i64 u)) :=
  ⟨o.bel.setCell (p := ⟨B, 6, none⟩) o.at_ _, o.at_, by simpa using o.siz, clk_set6 o.row⟩
theorem Own.other {w : World} {B C : Nat} {y m d h i s k : Int} {W : World} (o : Own w B y m d h i s k W) (hC : w.heap.size ≤ C) (hne : B ≠ C) (j : Nat) (v : Value) : Own w B y m d h i s k (W.setCell ⟨C, j, none⟩ v) :=
  ⟨o.bel.setCell (p := ⟨C, j, none⟩) hC _, o.at_, by simpa using o.siz, by rw [← o.row]; show (W.heap.modify C _)[B]? = _; rw [Array.getElem?_modify, if_neg (fun h => hne h.symm)]⟩
theorem Own.alloc {w : World} {B : Nat} {y m d h i s k : Int} {W : World} (o : Own w B y m d h i s k W) (x : Obj) : Own w B y m d h i s k (W.alloc x) := o.below ((Below.refl _ _).alloc (Nat.le_refl _) x)
/-- a date in a block of the call's own -/
structure OwnD (w : World) (B : Nat) (y m d : Int) (W : World) : Prop where
  bel : Below w.heap.size w W
  at_ : w.heap.size ≤ B
  siz : B < W.heap.size
  row : W.heap[B]? = some (triple y m d)
theorem OwnD.newAt {w W : World} (hb : Below w.heap.size w W) (y m d : Int) : OwnD w W.heap.size y m d (W.alloc (.cells #[.int .i64 y, .int .i64 m, .int .i64 d] 47)) :=
  ⟨hb.alloc hb.size _, hb.size, by simp, heap_alloc_new W _⟩
theorem OwnD.below {w : World} {B : Nat} {y m d : Int} {W W' : World} (o : OwnD w B y m d W) (hb : Below W.heap.size W W') : OwnD w B y m d W' :=
  ⟨o.bel.trans (hb.mono o.bel.size), o.at_, Nat.lt_of_lt_of_le o.siz hb.size, (hb.block _ o.siz).trans o.row⟩
theorem Own.put {w : World} {B : Nat} {y m d h i s k : Int} {W : World} (o : Own w B y m d h i s k W) (y' m' d' h' i' s' k' : Int) : Own w B y' m' d' h' i' s' k' (W.setRow B #[.int .i64 y', .int .i64 m', .int .i64 d', .int .i64 h', .int .i64 i', .int .i64 s', .int .i64 k']) :=
  ⟨below_setRow o.bel o.at_ _, o.at_, by simpa using o.siz, setRow_heap W B _ _ _ _ o.row⟩
theorem Own.wrote {w : World} {B : Nat} {y m d h i s k y' m' d' h' i' s' k' : Int} {W : World} (o : Own w B y m d h i s k W) : Own w B y' m' d' h' i' s' k' (wroteC W B y' m' d' h' i' s' k') :=
  ⟨wroteC_below o.bel o.at_, o.at_, by simpa [wroteC] using o.siz, wroteC_row o.row⟩
theorem Own.free {w : World} {B : Nat} {y m d h i s k : Int} {W : World} (o : Own w B y m d h i s k W) (j : Nat) : W.frozen? ⟨B, j, none⟩ = false := clk_free o.row j
/-- the months' table lies in whatever comes of this world -/
def MonOn (w : World) : Prop := ∀ W, Below w.heap.size w W → Mon W
theorem MonOn.on {w W : World} (h : MonOn w) (hb : Below w.heap.size w W) : Mon W := h W hb
theorem MonOn.of {w : World} (h : Mon w) : MonOn w := fun _ hb => h.below hb h.1
end Go.Proofs.YtoghalmjbbkjhaaGreatDoor.Civ

namespace Go.Proofs.YtoghalmjbbkjhaaGreatDoor
open Go.RowKit

/-- an expression's cells: its fields' bits, and whether each is free -/
def xcells (b : Nat → Nat) (s : Nat → Bool) : Array Value :=
  #[.int .u64 ((b 0 : Nat) : Int), .bool (s 0), .int .u64 ((b 1 : Nat) : Int), .bool (s 1), .int .u64 ((b 2 : Nat) : Int), .bool (s 2), .int .u64 ((b 3 : Nat) : Int), .bool (s 3), .int .u64 ((b 4 : Nat) : Int), .bool (s 4)]
def xval (b : Nat → Nat) (s : Nat → Bool) : Value := .agg (xcells b s)
def xobj (b : Nat → Nat) (s : Nat → Bool) : Obj := .cells (xcells b s) 43 (0, 0)
theorem five {P : Nat → Prop} (h0 : P 0) (h1 : P 1) (h2 : P 2) (h3 : P 3) (h4 : P 4) : ∀ i, i < 5 → P i := by
  intro i hi
  have : i = 0 ∨ i = 1 ∨ i = 2 ∨ i = 3 ∨ i = 4 := by omega
  rcases this with rfl | rfl | rfl | rfl | rfl <;> assumption
theorem index_expr (b : Nat → Nat) (s : Nat → Bool) (i : Nat) (hi : i < 5) (w : World) : (Instr.index 43 (.agg (xcells b s)) (.int .i64 (i : Int))).run Tryz.prog w = .ok (fval (b i) (s i)) w := by
  revert i
  refine five ?_ ?_ ?_ ?_ ?_ <;> simp [Instr.index, run_underlying Tryz.underlying43, asIntOf, go_sem, xcells, fval]
structure OwnX (w : World) (B : Nat) (b : Nat → Nat) (s : Nat → Bool) (W : World) : Prop where
  bel : Below w.heap.size w W
  at_ : w.heap.size ≤ B
  siz : B < W.heap.size
  row : W.heap[B]? = some (xobj b s)
theorem OwnX.newAt {w W : World} (hb : Below w.heap.size w W) (b : Nat → Nat) (s : Nat → Bool) : OwnX w W.heap.size b s (W.alloc (.cells #[.int .u64 ((b 0 : Nat) : Int), .bool (s 0), .int .u64 ((b 1 : Nat) : Int), .bool (s 1), .int .u64 ((b 2 : Nat) : Int), .bool (s 2), .int .u64 ((b 3 : Nat) : Int), .bool (s 3), .int .u64 ((b 4 : Nat) : Int), .bool (s 4)] 43)) :=
  ⟨hb.alloc hb.size _, hb.size, by simp, heap_alloc_new W _⟩
theorem OwnX.new (w : World) (b : Nat → Nat) (s : Nat → Bool) : OwnX w w.heap.size b s (w.alloc (.cells #[.int .u64 ((b 0 : Nat) : Int), .bool (s 0), .int .u64 ((b 1 : Nat) : Int), .bool (s 1), .int .u64 ((b 2 : Nat) : Int), .bool (s 2), .int .u64 ((b 3 : Nat) : Int), .bool (s 3), .int .u64 ((b 4 : Nat) : Int), .bool (s 4)] 43)) := OwnX.newAt (Below.refl _ _) b s
theorem OwnX.below {w : World} {B : Nat} {b : Nat → Nat} {s : Nat → Bool} {W W' : World} (o : OwnX w B b s W) (hb : Below W.heap.size W W') : OwnX w B b s W' :=
  ⟨o.bel.trans (hb.mono o.bel.size), o.at_, Nat.lt_of_lt_of_le o.siz hb.size, (hb.block _ o.siz).trans o.row⟩
theorem OwnX.drew {w : World} {B : Nat} {b : Nat → Nat} {s : Nat → Bool} {W : World} (o : OwnX w B b s W) : OwnX w B b s W.drew := o.below (Below.refl _ _).drew
theorem OwnX.alloc {w : World} {B : Nat} {b : Nat → Nat} {s : Nat → Bool} {W : World} (o : OwnX w B b s W) (x : Obj) : OwnX w B b s (W.alloc x) := o.below ((Below.refl _ _).alloc (Nat.le_refl _) x)
theorem xobj_cells {W : World} {B : Nat} {b : Nat → Nat} {s : Nat → Bool} (h : W.heap[B]? = some (xobj b s)) :
    W.cell? ⟨B, 0, none⟩ = some (.int .u64 ((b 0 : Nat) : Int)) ∧ W.cell? ⟨B, 1, none⟩ = some (.bool (s 0)) ∧ W.cell? ⟨B, 2, none⟩ = some (.int .u64 ((b 1 : Nat) : Int)) ∧ W.cell? ⟨B, 3, none⟩ = some (.bool (s 1)) ∧
    W.cell? ⟨B, 4, none⟩ = some (.int .u64 ((b 2 : Nat) : Int)) ∧ W.cell? ⟨B, 5, none⟩ = some (.bool (s 2)) ∧ W.cell? ⟨B, 6, none⟩ = some (.int .u64 ((b 3 : Nat) : Int)) ∧ W.cell? ⟨B, 7, none⟩ = some (.bool (s 3)) ∧
    W.cell? ⟨B, 8, none⟩ = some (.int .u64 ((b 4 : Nat) : Int)) ∧ W.cell? ⟨B, 9, none⟩ = some (.bool (s 4)) :=
  ⟨cell_of_row _ B 0 _ _ _ h, cell_of_row _ B 1 _ _ _ h, cell_of_row _ B 2 _ _ _ h, cell_of_row _ B 3 _ _ _ h, cell_of_row _ B 4 _ _ _ h, cell_of_row _ B 5 _ _ _ h, cell_of_row _ B 6 _ _ _ h, cell_of_row _ B 7 _ _ _ h, cell_of_row _ B 8 _ _ _ h, cell_of_row _ B 9 _ _ _ h⟩
theorem xobj_at {W : World} {B : Nat} {b : Nat → Nat} {s : Nat → Bool} (h : W.heap[B]? = some (xobj b s)) : ∀ i, i < 5 → W.cell? ⟨B, i * 2, none⟩ = some (.int .u64 ((b i : Nat) : Int)) ∧ W.cell? ⟨B, i * 2 + 1, none⟩ = some (.bool (s i)) := by
  obtain ⟨c0, c1, c2, c3, c4, c5, c6, c7, c8, c9⟩ := xobj_cells h
  exact five ⟨c0, c1⟩ ⟨c2, c3⟩ ⟨c4, c5⟩ ⟨c6, c7⟩ ⟨c8, c9⟩

namespace Cron
open Fld
/-- whether an expression may be -/
def may (b : Nat → Nat) : Bool := (List.range 5).all fun (k : Nat) => Fld.may (k : Int) (b k)
theorem may_iff {b : Nat → Nat} : may b = true ↔ ∀ k : Nat, k < 5 → Fld.may (k : Int) (b k) = true := by
  unfold may
  rw [List.all_eq_true]
  exact ⟨fun h k hk => h k (List.mem_range.2 hk), fun h k hk => h k (List.mem_range.1 hk)⟩
theorem may_not {b : Nat → Nat} (k : Nat) (hk : k < 5) (h : Fld.may (k : Int) (b k) = false) : may b = false := by
  cases e : may b
  · rfl
  · rw [may_iff.1 e k hk] at h; cases h
/-- the first fields' texts, with one blank between -/
def upto (b : Nat → Nat) (s : Nat → Bool) : Nat → List UInt8
  | 0 => Fld.text 0 (b 0) (s 0)
  | k + 1 => upto b s k ++ 32 :: Fld.text ((k + 1 : Nat) : Int) (b (k + 1)) (s (k + 1))
/-- an expression's text -/
def text (b : Nat → Nat) (s : Nat → Bool) : List UInt8 := if may b = true then upto b s 4 else []
/-- whether a clock's month and its day fit -/
def days (b : Nat → Nat) (s : Nat → Bool) (m d k : Int) : Bool := Fld.has (b 3) m && (if s 2 = true ∨ s 4 = true then Fld.has (b 2) d && Fld.has (b 4) k else Fld.has (b 2) d || Fld.has (b 4) k)
def dayFits (b : Nat → Nat) (s : Nat → Bool) (y m d h i x k : Int) : Bool := may b && (decide (Stm.may y m d h i x k) && days b s m d k)
def fits (b : Nat → Nat) (s : Nat → Bool) (y m d h i x k : Int) : Bool := dayFits b s y m d h i x k && (Fld.has (b 0) i && Fld.has (b 1) h)
end Cron

/-- what lies in the world when a call begins: the fields' tables, the months', the names -/
structure World7 (w : World) : Prop where
  tabs : TabsOn w
  mon : Civ.MonOn w
theorem World7.next {w w' : World} (h : World7 w) (hb : Below w.heap.size w w') : World7 w' :=
  ⟨h.tabs.next hb, Civ.MonOn.of (h.mon.on hb)⟩
end Go.Proofs.YtoghalmjbbkjhaaGreatDoor

namespace Go.Proofs.YtoghalmjbbkjhaaGreatDoor.Fld
open Go

theorem dig_len {n : Nat} (h : n < 64) : (dig n).length ≤ 2 := (dig_some ⟨n, h⟩).2.1
theorem run_len {x y : Nat} (hxy : x ≤ y) (hy : y < 64) : (run x y).length + 1 ≤ 2 * (y - x + 2) := by
  have h1 := dig_len (show x < 64 by omega)
  have h2 := dig_len hy
  unfold run
  split
  · omega
  · split
    · simp only [List.length_append, List.length_cons, List.length_nil]; omega
    · simp only [List.length_append, List.length_cons, List.length_nil]; omega
def cost : List (Nat × Nat) → Nat
  | [] => 0
  | r :: rs => (run r.1 r.2).length + 1 + cost rs
theorem join_cost : ∀ rs : List (Nat × Nat), (Lib.join (rs.map fun r => run r.1 r.2) [44]).length ≤ cost rs
  | [] => by simp [Lib.join_nil]
  | [r] => by rw [List.map_cons, List.map_nil, Lib.join_one]; simp [cost]
  | r :: q :: rs => by
    have ih := join_cost (q :: rs)
    rw [List.map_cons, Lib.join_cons, Lib.joinTail, List.map_cons] at *
    simp only [List.map_cons, List.flatten_cons, List.length_append, List.length_cons, List.length_nil, cost] at *
    omega
theorem first_after {b y x : Nat} (hend : b.testBit (y + 1) = false) (h : first b ((y + 1 : Nat) : Int) = some x) : y + 2 ≤ x := by
  obtain ⟨_, h2, h3, _⟩ := first_spec h
  rcases Nat.lt_or_ge (y + 1) x with h4 | h4
  · omega
  · obtain rfl : x = y + 1 := by omega
    rw [hend] at h3; simp at h3
theorem cost_le {b n : Nat} {rs : List (Nat × Nat)} (hr : Runs b n rs) : (∀ r ∈ rs, r.1 ≤ r.2 ∧ r.2 < 64) → ∀ N, (∀ r ∈ rs.head?, N ≤ r.1) → cost rs ≤ 2 * (66 - N) := by
  induction hr with
  | stop h => intro _ N _; simp [cost]
  | @next n x y rs h hxy hall hend hr ih =>
    intro hA N hN
    have hx : N ≤ x := hN (x, y) (by simp)
    have hy : y < 64 := (hA (x, y) (by simp)).2
    have h1 := run_len hxy hy
    have h2 := ih (fun r hr => hA r (by simp [hr])) (y + 2) (fun r hr' => by
      cases hr with
      | stop h => simp at hr'
      | next h' _ _ _ _ =>
        simp at hr'
        rw [← hr']
        exact first_after hend h')
    simp only [cost]
    omega
theorem runs_len {b : Nat} {rs : List (Nat × Nat)} (hr : Runs b 0 rs) (h : ∀ r ∈ rs, r.1 ≤ r.2 ∧ r.2 < 64) : (Lib.join (rs.map fun r => run r.1 r.2) [44]).length ≤ 132 := by
  have h1 := cost_le hr h 0 (fun r _ => Nat.zero_le _)
  have h2 := join_cost rs
  omega
theorem runs_some {b : Nat} (h0 : b ≠ 0) (hb : b < 2 ^ 64) : ¬ Runs b 0 [] := by
  intro h
  cases h with
  | stop h =>
    obtain ⟨m, hm⟩ := Nat.exists_testBit_of_ne_zero h0
    have h64 : m < 64 := by
      rcases Nat.lt_or_ge m 64 with h' | h'
      · exact h'
      · rw [Nat.testBit_lt_two_pow (Nat.lt_of_lt_of_le hb (Nat.pow_le_pow_right (n := 2) (by decide) h'))] at hm; simp at hm
    have := first_none.1 h m (by omega) h64
    rw [hm] at this; simp at this
end Go.Proofs.YtoghalmjbbkjhaaGreatDoor.Fld
