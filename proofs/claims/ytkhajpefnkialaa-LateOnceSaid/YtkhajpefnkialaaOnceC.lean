/- The law's code, in pieces; its memory. -/
import Derived.Test.YtkhajpefnkialaaOnceM
import Derived.Deep.CutBlock
namespace Go.Proofs.Ytkhajpefnkialaa.Job
open Go.RowKit

def findRegion (n : Nat) : Code → Option Code
  | .region m ops d => if m = n then some (.region m ops d) else none
  | .block _ c => findRegion n c
  | .seq a b => match findRegion n a with
    | some c => some c
    | none => findRegion n b
  | .cond _ a b => match findRegion n a with
    | some c => some c
    | none => findRegion n b
  | .scope c => findRegion n c
  | .loop c => findRegion n c
  | _ => none
noncomputable def rgn (n : Nat) : Code := ((Try.f3.body.bind (findRegion n)).getD .skip)
/-- the law's memory behind the verdict: the lot in its box, what is due, what is skipped, all of them -/
structure OnceW (w W : World) (B : Nat) (l : Lt) (a : Option Addr) (ca : Nat) (b : Option Addr) (cb : Nat) (g : Option Addr) : Prop where
  bel : Below w.heap.size w W
  row : W.heap[B]? = some (lobj l)
  ge : w.heap.size ≤ B
  due : SlF W ⟨a, l.dues, ca⟩
  skip : SlF W ⟨b, l.skips, cb⟩
  all : Vals W g (l.all.map iv)
  off : ∀ x, a = some x → x.block ≠ B
theorem OnceW.below {w W W' : World} {B : Nat} {l : Lt} {a : Option Addr} {ca : Nat} {b : Option Addr} {cb : Nat} {g : Option Addr} (h : OnceW w W B l a ca b cb g) (hb : Below W.heap.size W W') : OnceW w W' B l a ca b cb g :=
  ⟨h.bel.trans (hb.mono h.bel.size), (hb.block B (lt_of_block h.row)).trans h.row, h.ge, h.due.below hb, h.skip.below hb, h.all.below hb, h.off⟩
/-- a number of a row, where it lies -/
theorem row_at {W : World} {a : Option Addr} {xs : List Int} (h : Vals W a (xs.map iv)) {i : Nat} (hi : i < xs.length) : ∃ g q, a = some ⟨g, q, none⟩ ∧ W.cell? ⟨g, q + i, none⟩ = some (.int .i64 xs[i]) := by
  obtain ⟨g, q, h1, h2⟩ := h
  refine ⟨g, q, h1 (by intro e; have := congrArg List.length e; rw [List.length_map, List.length_nil] at this; omega), ?_⟩
  have := (h2 i (by simpa using hi)).2
  rw [List.getElem_map] at this
  exact this
end Go.Proofs.Ytkhajpefnkialaa.Job
