/- Expressions: five fields as one value, in a block of a call's own; what may be, their texts, what fits; what lies in the world when a call begins. -/
import Derived.Test.YtgcineaodfomeaaDoorBase
import Derived.Test.YtgcineaodfomeaaDoorHas
import Derived.Test.YtgcineaodfomeaaDoorTextM
import Derived.Test.YtgcineaodfomeaaDoorCClock
namespace Go.Proofs.YtgcineaodfomeaaDoor
open Go.RowKit

/-- an expression's cells: its fields' bits, and whether each is free -/
def xcells (b : Nat → Nat) (s : Nat → Bool) : Array Value :=
  #[.int .u64 ((b 0 : Nat) : Int), .bool (s 0), .int .u64 ((b 1 : Nat) : Int), .bool (s 1), .int .u64 ((b 2 : Nat) : Int), .bool (s 2), .int .u64 ((b 3 : Nat) : Int), .bool (s 3), .int .u64 ((b 4 : Nat) : Int), .bool (s 4)]
def xval (b : Nat → Nat) (s : Nat → Bool) : Value := .agg (xcells b s)
def xobj (b : Nat → Nat) (s : Nat → Bool) : Obj := .cells (xcells b s) 26 (0, 0)
theorem five {P : Nat → Prop} (h0 : P 0) (h1 : P 1) (h2 : P 2) (h3 : P 3) (h4 : P 4) : ∀ i, i < 5 → P i := by
  intro i hi
  have : i = 0 ∨ i = 1 ∨ i = 2 ∨ i = 3 ∨ i = 4 := by omega
  rcases this with rfl | rfl | rfl | rfl | rfl <;> assumption
theorem index_expr (b : Nat → Nat) (s : Nat → Bool) (i : Nat) (hi : i < 5) (w : World) : (Instr.index 26 (.agg (xcells b s)) (.int .i64 (i : Int))).run Tryd.prog w = .ok (fval (b i) (s i)) w := by
  revert i
  refine five ?_ ?_ ?_ ?_ ?_ <;> simp [Instr.index, run_underlying Tryd.underlying26, asIntOf, go_sem, xcells, fval]
structure OwnX (w : World) (B : Nat) (b : Nat → Nat) (s : Nat → Bool) (W : World) : Prop where
  bel : Below w.heap.size w W
  at_ : w.heap.size ≤ B
  siz : B < W.heap.size
  row : W.heap[B]? = some (xobj b s)
theorem OwnX.newAt {w W : World} (hb : Below w.heap.size w W) (b : Nat → Nat) (s : Nat → Bool) : OwnX w W.heap.size b s (W.alloc (.cells #[.int .u64 ((b 0 : Nat) : Int), .bool (s 0), .int .u64 ((b 1 : Nat) : Int), .bool (s 1), .int .u64 ((b 2 : Nat) : Int), .bool (s 2), .int .u64 ((b 3 : Nat) : Int), .bool (s 3), .int .u64 ((b 4 : Nat) : Int), .bool (s 4)] 26)) :=
  ⟨hb.alloc hb.size _, hb.size, by simp, heap_alloc_new W _⟩
theorem OwnX.new (w : World) (b : Nat → Nat) (s : Nat → Bool) : OwnX w w.heap.size b s (w.alloc (.cells #[.int .u64 ((b 0 : Nat) : Int), .bool (s 0), .int .u64 ((b 1 : Nat) : Int), .bool (s 1), .int .u64 ((b 2 : Nat) : Int), .bool (s 2), .int .u64 ((b 3 : Nat) : Int), .bool (s 3), .int .u64 ((b 4 : Nat) : Int), .bool (s 4)] 26)) := OwnX.newAt (Below.refl _ _) b s
theorem OwnX.below {w : World} {B : Nat} {b : Nat → Nat} {s : Nat → Bool} {W W' : World} (o : OwnX w B b s W) (hb : Below W.heap.size W W') : OwnX w B b s W' :=
  ⟨o.bel.trans (hb.mono o.bel.size), o.at_, Nat.lt_of_lt_of_le o.siz hb.size, (hb.block _ o.siz).trans o.row⟩
theorem OwnX.drew {w : World} {B : Nat} {b : Nat → Nat} {s : Nat → Bool} {W : World} (o : OwnX w B b s W) : OwnX w B b s W.drew := o.below (Below.refl _ _).drew
theorem OwnX.alloc {w : World} {B : Nat} {b : Nat → Nat} {s : Nat → Bool} {W : World} (o : OwnX w B b s W) (x : Obj) : OwnX w B b s (W.alloc x) := o.below ((Below.refl _ _).alloc (Nat.le_refl _) x)
theorem xobj_cells {W : World} {B : Nat} {b : Nat → Nat} {s : Nat → Bool} (h : W.heap[B]? = some (xobj b s)) :
    W.cell? ⟨B, 0, none⟩ = some (.int .u64 ((b 0 : Nat) : Int)) ∧ W.cell? ⟨B, 1, none⟩ = some (.bool (s 0)) ∧ W.cell? ⟨B, 2, none⟩ = some (.int .u64 ((b 1 : Nat) : Int)) ∧ W.cell? ⟨B, 3, none⟩ = some (.bool (s 1)) ∧
    W.cell? ⟨B, 4, none⟩ = some (.int .u64 ((b 2 : Nat) : Int)) ∧ W.cell? ⟨B, 5, none⟩ = some (.bool (s 2)) ∧ W.cell? ⟨B, 6, none⟩ = some (.int .u64 ((b 3 : Nat) : Int)) ∧ W.cell? ⟨B, 7, none⟩ = some (.bool (s 3)) ∧
    W.cell? ⟨B, 8, none⟩ = some (.int .u64 ((b 4 : Nat) : Int)) ∧ W.cell? ⟨B, 9, none⟩ = some (.bool (s 4)) :=
  ⟨cell_of_row _ B 0 _ _ _ h, cell_of_row _ B 1 _ _ _ h, cell_of_row _ B 2 _ _ _ h, cell_of_row _ B 3 _ _ _ h, cell_of_row _ B 4 _ _ _ h, cell_of_row _ B 5 _ _ _ h, cell_of_row _ B 6 _ _ _ h, cell_of_row _ B 7 _ _ _ h, cell_of_row _ B 8 _ _ _ h, cell_of_row _ B 9 _ _ _ h⟩
theorem xobj_at {W : World} {B : Nat} {b : Nat → Nat} {s : Nat → Bool} (h : W.heap[B]? = some (xobj b s)) : ∀ i, i < 5 → W.cell? ⟨B, i * 2, none⟩ = some (.int .u64 ((b i : Nat) : Int)) ∧ W.cell? ⟨B, i * 2 + 1, none⟩ = some (.bool (s i)) := by
  obtain ⟨c0, c1, c2, c3, c4, c5, c6, c7, c8, c9⟩ := xobj_cells h
  exact five ⟨c0, c1⟩ ⟨c2, c3⟩ ⟨c4, c5⟩ ⟨c6, c7⟩ ⟨c8, c9⟩

namespace Cron
open Fld
/-- whether an expression may be -/
def may (b : Nat → Nat) : Bool := (List.range 5).all fun (k : Nat) => Fld.may (k : Int) (b k)
theorem may_iff {b : Nat → Nat} : may b = true ↔ ∀ k : Nat, k < 5 → Fld.may (k : Int) (b k) = true := by
  unfold may
  rw [List.all_eq_true]
  exact ⟨fun h k hk => h k (List.mem_range.2 hk), fun h k hk => h k (List.mem_range.1 hk)⟩
theorem may_not {b : Nat → Nat} (k : Nat) (hk : k < 5) (h : Fld.may (k : Int) (b k) = false) : may b = false := by
  cases e : may b
  · rfl
  · rw [may_iff.1 e k hk] at h; cases h
/-- the first fields' texts, with one blank between -/
def upto (b : Nat → Nat) (s : Nat → Bool) : Nat → List UInt8
  | 0 => Fld.text 0 (b 0) (s 0)
  | k + 1 => upto b s k ++ 32 :: Fld.text ((k + 1 : Nat) : Int) (b (k + 1)) (s (k + 1))
/-- an expression's text -/
def text (b : Nat → Nat) (s : Nat → Bool) : List UInt8 := if may b = true then upto b s 4 else []
/-- whether a clock's month and its day fit -/
def days (b : Nat → Nat) (s : Nat → Bool) (m d k : Int) : Bool := Fld.has (b 3) m && (if s 2 = true ∨ s 4 = true then Fld.has (b 2) d && Fld.has (b 4) k else Fld.has (b 2) d || Fld.has (b 4) k)
def dayFits (b : Nat → Nat) (s : Nat → Bool) (y m d h i x k : Int) : Bool := may b && (decide (Stm.may y m d h i x k) && days b s m d k)
def fits (b : Nat → Nat) (s : Nat → Bool) (y m d h i x k : Int) : Bool := dayFits b s y m d h i x k && (Fld.has (b 0) i && Fld.has (b 1) h)
end Cron

/-- what lies in the world when a call begins: the fields' tables, the months', the names -/
structure World7 (w : World) : Prop where
  tabs : TabsOn w
  mon : Civ.MonOn w
theorem World7.next {w w' : World} (h : World7 w) (hb : Below w.heap.size w w') : World7 w' :=
  ⟨h.tabs.next hb, Civ.MonOn.of (h.mon.on hb)⟩
end Go.Proofs.YtgcineaodfomeaaDoor
