/- What lies in memory while Reach searches. -/
import Derived.Test.YthbaldjdfehhlaaMid13
import Derived.Test.YthbaldjdfehhlaaSet13
import Derived.Test.YthbaldjdfehhlaaDeps13
namespace Go.Proofs.Ythbaldjdfehhlaa
open Go.RowKit Gr Go.Sort Go.Maps

structure ZS (w : World) (l : List NodeV) (to : Int) (N b1 R b2 : Nat) (S : List Int) (nb : Nat) (v : Value) (xs : List Int) (W : World) : Prop where
  bel : Below w.heap.size w W
  to_ : Boxed W w.heap.size 23 (.int .u64 to)
  res : Boxed W (w.heap.size + 1) 4 (.bool false)
  nbx : Boxed W N 45 (.map (some b1))
  nset : SetAt W b1 (idSet l)
  rbx : Boxed W R 45 (.map (some b2))
  rset : SetAt W b2 S
  nxt : Boxed W nb 26 v
  row : MidU (w.heap.size + 1) v xs W
  bne : b1 ≠ b2
  hb2 : w.heap.size ≤ b2
  hnb : w.heap.size ≤ nb
section
variable {w W W' W1 : World} {l : List NodeV} {to : Int} {N b1 R b2 nb : Nat} {S S' xs xs' : List Int} {v v' : Value}
theorem SetAt.map_block {b : Nat} (h : SetAt W b S) : ∃ es c, W.heap[b]? = some (.map es c) := by
  obtain ⟨D, ⟨es, c, hb, _⟩, _⟩ := h.map
  exact ⟨es, c, hb⟩
/-- a step that turns at most one block, which is none of these -/
theorem ZS.of (t : ZS w l to N b1 R b2 S nb v xs W) {row : Option Nat} (hg : W.grownBy W' row) (hr : ∀ r, row = some r → w.heap.size ≤ r ∧ r ≠ b1 ∧ r ≠ b2 ∧ ∀ (cs : Array Value) (ty : TypeId) (fr : Nat × Nat), W.heap[r]? ≠ some (Obj.cells cs ty fr)) : ZS w l to N b1 R b2 S nb v xs W' := by
  have hc : ∀ (k : Nat) (cs : Array Value) (ty : TypeId) (fr : Nat × Nat), W.heap[k]? = some (Obj.cells cs ty fr) → W'.heap[k]? = W.heap[k]? := fun k cs ty fr hk =>
    hg.block k (Array.getElem?_eq_some_iff.1 hk).1 (fun e => (hr k e.symm).2.2.2 cs ty fr hk)
  have hm1 : W'.heap[b1]? = W.heap[b1]? := hg.block b1 t.nset.lt (fun e => (hr b1 e.symm).2.1 rfl)
  have hm2 : W'.heap[b2]? = W.heap[b2]? := hg.block b2 t.rset.lt (fun e => (hr b2 e.symm).2.2.1 rfl)
  obtain ⟨k, cur, hk, hcur⟩ := t.row.row
  exact ⟨t.bel.grown hg t.bel.size (fun r e => (hr r e).1), (hc _ _ _ _ t.to_).trans t.to_, (hc _ _ _ _ t.res).trans t.res, (hc _ _ _ _ t.nbx).trans t.nbx, t.nset.same hm1, (hc _ _ _ _ t.rbx).trans t.rbx, t.rset.same hm2, (hc _ _ _ _ t.nxt).trans t.nxt,
    t.row.same (fun j hj => by rw [hk] at hj; cases hj; exact hc _ _ _ _ hcur), t.bne, t.hb2, t.hnb⟩
theorem ZS.below (t : ZS w l to N b1 R b2 S nb v xs W) (h : Below W.heap.size W W') : ZS w l to N b1 R b2 S nb v xs W' :=
  t.of (row := none) ⟨h.os, h.tape, h.output, h.size, fun k hk _ => h.block k hk⟩ (fun r e => by cases e)
/-- one more was reached -/
theorem ZS.add (t : ZS w l to N b1 R b2 S nb v xs W) (hg : W.grownBy W' (some b2)) (hs : SetAt W' b2 S') : ZS w l to N b1 R b2 S' nb v xs W' := by
  obtain ⟨es, c, hb⟩ := t.rset.map_block
  have hc : ∀ (k : Nat) (cs : Array Value) (ty : TypeId) (fr : Nat × Nat), W.heap[k]? = some (Obj.cells cs ty fr) → W'.heap[k]? = W.heap[k]? := fun k cs ty fr hk =>
    hg.block k (Array.getElem?_eq_some_iff.1 hk).1 (fun e => by
      have e2 := Option.some.inj e
      rw [e2, hb] at hk; cases hk)
  have hm1 : W'.heap[b1]? = W.heap[b1]? := hg.block b1 t.nset.lt (fun e => t.bne (Option.some.inj e))
  obtain ⟨k, cur, hk, hcur⟩ := t.row.row
  exact ⟨t.bel.grown hg t.bel.size (fun r e => by cases e; exact t.hb2), (hc _ _ _ _ t.to_).trans t.to_, (hc _ _ _ _ t.res).trans t.res, (hc _ _ _ _ t.nbx).trans t.nbx, t.nset.same hm1, (hc _ _ _ _ t.rbx).trans t.rbx, hs, (hc _ _ _ _ t.nxt).trans t.nxt,
    t.row.same (fun j hj => by rw [hk] at hj; cases hj; exact hc _ _ _ _ hcur), t.bne, t.hb2, t.hnb⟩
/-- a row that was made anew, or turned, goes into next -/
theorem ZS.push (t : ZS w l to N b1 R b2 S nb v xs W) (hrow : MidU (w.heap.size + 1) v' xs' W1) (hg : W.grownBy W1 v.ownBlock) : ZS w l to N b1 R b2 S nb v' xs' (W1.setCell ⟨nb, 0, none⟩ v') := by
  obtain ⟨g, cur, hk, hcur⟩ := t.row.row
  have hgB := (t.row.lt g hk).1
  have step1 : ∀ (k : Nat) (cs : Array Value) (ty : TypeId) (fr : Nat × Nat), W.heap[k]? = some (Obj.cells cs ty fr) → ty ≠ 23 ∨ k = w.heap.size → W1.heap[k]? = W.heap[k]? := fun k cs ty fr hkk hor =>
    hg.block k (Array.getElem?_eq_some_iff.1 hkk).1 (fun e => by
      rw [hk] at e
      have e2 := Option.some.inj e
      rcases hor with h | h
      · rw [e2, hcur] at hkk; cases hkk; exact h rfl
      · omega)
  have step1m : ∀ (k : Nat) es c, W.heap[k]? = some (Obj.map es c) → W1.heap[k]? = W.heap[k]? := fun k es c hkk =>
    hg.block k (Array.getElem?_eq_some_iff.1 hkk).1 (fun e => by
      rw [hk] at e
      have e2 := Option.some.inj e
      rw [e2, hcur] at hkk; cases hkk)
  have n1 : Boxed W1 nb 26 v := (step1 _ _ _ _ t.nxt (.inl (by decide))).trans t.nxt
  have step2 : ∀ k, k ≠ nb → (W1.setCell ⟨nb, 0, none⟩ v').heap[k]? = W1.heap[k]? := fun k hkn => Below.heap_setCell _ _ _ _ hkn
  have ne : ∀ (k : Nat) (cs : Array Value) (ty : TypeId) (fr : Nat × Nat), W1.heap[k]? = some (Obj.cells cs ty fr) → ty ≠ 26 → k ≠ nb := fun k cs ty fr hkk hty e => by
    subst e
    rw [show W1.heap[k]? = _ from n1] at hkk
    cases hkk
    exact hty rfl
  have nem : ∀ (k : Nat) es c, W1.heap[k]? = some (Obj.map es c) → k ≠ nb := fun k es c hkk e => by
    subst e
    rw [show W1.heap[k]? = _ from n1] at hkk
    cases hkk
  have box : ∀ k ty u, Boxed W k ty u → ty ≠ 23 ∨ k = w.heap.size → ty ≠ 26 → Boxed (W1.setCell ⟨nb, 0, none⟩ v') k ty u := fun k ty u hb h1 h2 => by
    have hb1 : Boxed W1 k ty u := (step1 _ _ _ _ hb h1).trans hb
    exact (step2 k (ne _ _ _ _ hb1 h2)).trans hb1
  have setm : ∀ k S, SetAt W k S → SetAt (W1.setCell ⟨nb, 0, none⟩ v') k S := fun k S hs => by
    obtain ⟨es, c, hb⟩ := hs.map_block
    have h1 := step1m k es c hb
    exact hs.same ((step2 k (nem k es c (h1.trans hb))).trans h1)
  obtain ⟨g', cur', hk', hcur'⟩ := hrow.row
  have hb1 : Below w.heap.size w W1 := t.bel.grown hg t.bel.size (fun r e => by rw [hk] at e; cases e; omega)
  exact ⟨hb1.setCell (p := ⟨nb, 0, none⟩) t.hnb v', box _ _ _ t.to_ (.inr rfl) (by decide), box _ _ _ t.res (.inl (by decide)) (by decide), box _ _ _ t.nbx (.inl (by decide)) (by decide), setm _ _ t.nset, box _ _ _ t.rbx (.inl (by decide)) (by decide), setm _ _ t.rset, n1.set v',
    hrow.same (fun j hj => by rw [hk'] at hj; cases hj; exact step2 _ (ne _ _ _ _ hcur' (by decide))), t.bne, t.hb2, t.hnb⟩
/-- next lies in a new box -/
theorem ZS.rebox (t : ZS w l to N b1 R b2 S nb v xs W) : ZS w l to N b1 R b2 S W.heap.size v xs (W.alloc (.cells #[v] 26)) := by
  have h := t.below ((Below.refl _ W).alloc (Nat.le_refl _) (.cells #[v] 26))
  exact ⟨h.bel, h.to_, h.res, h.nbx, h.nset, h.rbx, h.rset, Boxed.new _ _ _, h.row, h.bne, h.hb2, t.bel.size⟩
end

end Go.Proofs.Ythbaldjdfehhlaa
