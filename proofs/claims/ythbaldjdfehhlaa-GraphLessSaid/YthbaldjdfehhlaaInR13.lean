/- What one round of Reach's search keeps: the steps of its inner loop. -/
import Derived.Test.YthbaldjdfehhlaaMarks13
import Derived.Test.YthbaldjdfehhlaaReachM
namespace Go.Proofs.Ythbaldjdfehhlaa
open Go.RowKit Gr Go.Sort Go.Maps

theorem KS.grown {S : Nat → Prop} {W W' : World} {row : Option Nat} (hg : W.grownBy W' row) (hr : ∀ r, row = some r → ¬ S r) (hS : ∀ k, S k → k < W.heap.size) : KS S W W' :=
  ⟨hg.size, fun k hk => hg.block k (hS k hk) fun e => hr k e.symm hk⟩
theorem grown_below {W W' : World} (h : Below W.heap.size W W') : W.grownBy W' none := ⟨h.os, h.tape, h.output, h.size, fun k hk _ => h.block k hk⟩
theorem grown_refl (W : World) (row : Option Nat) : W.grownBy W row := ⟨rfl, rfl, rfl, Nat.le_refl _, fun _ _ _ => rfl⟩

section
variable {w W W' W1 X Y : World} {l : List NodeV} {t f x d : Int} {N b1 R b2 nb p2 B m : Nat} {S S' xs xs' q pre : List Int} {v v' : Value} {ds : List Deferred}
theorem ZS.nxt_grown (h : ZS w l t N b1 R b2 S nb v xs W) (hg : W.grownBy W1 v.ownBlock) : Boxed W1 nb 26 v := by
  obtain ⟨g, cur, hk, hcur⟩ := h.row.row
  refine (hg.block nb h.nxt.lt fun e => ?_).trans h.nxt
  rw [hk] at e
  have e2 := Option.some.inj e
  have := h.nxt
  unfold Boxed at this
  rw [e2, hcur] at this
  cases this
/-- the row's rest, in a new box -/
theorem ZS.turn (h : ZS w l t N b1 R b2 S nb v xs W) (hrow : MidU (w.heap.size + 1) v' xs' W) : ZS w l t N b1 R b2 S W.heap.size v' xs' (W.alloc (.cells #[v'] 26)) := by
  have k := h.below ((Below.refl _ W).alloc (Nat.le_refl _) (.cells #[v'] 26))
  exact ⟨k.bel, k.to_, k.res, k.nbx, k.nset, k.rbx, k.rset, Boxed.new _ _ _, hrow.below ((Below.refl _ W).alloc (Nat.le_refl _) _), k.bne, k.hb2, h.bel.size⟩

structure InR (w : World) (l : List NodeV) (f t : Int) (N b1 R b2 nb p2 B m : Nat) (ds : List Deferred) (x : Int) (pre : List Int) (W : World) : Prop where
  ex : ∃ S v q, ZS w l t N b1 R b2 S nb v (x :: q) W ∧ Part l f t S q x pre ∧ (∀ k, v.ownBlock = some k → k ≠ p2) ∧ (q.length + 1) + (l.length - S.length) = m
  marks : Marks w.heap.size B W ds
  size : B ≤ W.heap.size
structure Cst (w : World) (b1 b2 nb p2 B : Nat) : Prop where
  i1 : b1 < B
  i2 : b2 < p2
  i3 : nb < p2
  i4 : p2 < B
  i5 : w.heap.size ≤ b2
  i6 : w.heap.size ≤ nb
def Kept (w : World) (p2 : Nat) (k : Nat) : Prop := k < w.heap.size ∨ k = p2
theorem Cst.kept (c : Cst w b1 b2 nb p2 B) : ∀ k, Kept w p2 k → k < B := fun k hk => by
  have := c.i2; have := c.i4; have := c.i5
  rcases hk with h | h <;> omega
theorem InR.of (h : InR w l f t N b1 R b2 nb p2 B m ds x pre X) (c : Cst w b1 b2 nb p2 B) {row : Option Nat} (hg : X.grownBy Y row) (hr : ∀ r, row = some r → B ≤ r ∧ ∃ o : Obj, X.heap[r]? = some o ∧ o.isCells = false) : InR w l f t N b1 R b2 nb p2 B m ds x pre Y := by
  obtain ⟨S, v, q, hz, hp, hv, hm⟩ := h.ex
  have := c.i1; have := c.i2; have := c.i4; have := c.i5
  refine ⟨⟨S, v, q, hz.of hg fun r e => ?_, hp, hv, hm⟩, h.marks.keep (Nat.le_refl _) fun D h1 h2 h3 _ => ?_, Nat.le_trans h.size hg.size⟩
  · obtain ⟨hB, o, ho, hc⟩ := hr r e
    refine ⟨by omega, by omega, by omega, fun cs ty fr e2 => ?_⟩
    rw [ho] at e2
    cases e2
    cases hc
  · refine hg.block D (Array.getElem?_eq_some_iff.1 h3).1 fun e => ?_
    have := (hr D e.symm).1
    omega
theorem InR.below (h : InR w l f t N b1 R b2 nb p2 B m ds x pre X) (c : Cst w b1 b2 nb p2 B) (hb : Below X.heap.size X Y) : InR w l f t N b1 R b2 nb p2 B m ds x pre Y := h.of c (grown_below hb) fun r e => by cases e
/-- one who leads nowhere new -/
theorem told_old {Ix : Code → List Int → World → Prop} (c : Cst w b1 b2 nb p2 B) (hz : ZS w l t N b1 R b2 S nb v (x :: q) W) (hp : Part l f t S q x pre) (hv : ∀ k, v.ownBlock = some k → k ≠ p2) (hm : (q.length + 1) + (l.length - S.length) = m)
    (hM : Marks w.heap.size B W ds) (hs : B ≤ W.heap.size) (hb : Below W.heap.size W W') (hne : d ≠ t) (hin : d ∈ ids (rowOf l) → d ∈ S) (a : Act) :
    told B (KS (Kept w p2)) (InR w l f t N b1 R b2 nb p2 B m ds x) Ix (pre ++ [d]) W .normal a W' :=
  ⟨KeepsFrom.of_grownBy (grown_below hb) (fun j e => by cases e), KS.grown (grown_below hb) (fun r e => by cases e) (fun k hk => Nat.lt_of_lt_of_le (c.kept k hk) hs),
    (⟨⟨S, v, q, hz, hp.old hne hin, hv, hm⟩, hM, hs⟩ : InR w l f t N b1 R b2 nb p2 B m ds x (pre ++ [d]) W).below c hb⟩
/-- one who is reached anew -/
theorem told_new {W2 W3 W4 : World} {Ix : Code → List Int → World → Prop} (c : Cst w b1 b2 nb p2 B) (hz : ZS w l t N b1 R b2 S nb v (x :: q) W) (hp : Part l f t S q x pre) (hv : ∀ k, v.ownBlock = some k → k ≠ p2) (hm : (q.length + 1) + (l.length - S.length) = m)
    (hM : Marks w.heap.size B W ds) (hs : B ≤ W.heap.size) (hb : Below W.heap.size W W2) (hne : d ≠ t) (hd : d ∈ depList l x) (hi : d ∈ ids (rowOf l)) (hn : d ∉ S)
    (hg3 : W2.grownBy W3 (some b2)) (hs3 : SetAt W3 b2 (put S d)) (hrow : MidU (w.heap.size + 1) v' ((x :: q) ++ [d]) W4) (hg4 : (W3.alloc (.cells #[.int .u64 d] 23)).grownBy W4 v.ownBlock)
    (hown : v'.ownBlock = v.ownBlock ∨ v'.ownBlock = some (W3.alloc (.cells #[.int .u64 d] 23)).heap.size) (a : Act) :
    told B (KS (Kept w p2)) (InR w l f t N b1 R b2 nb p2 B m ds x) Ix (pre ++ [d]) W .normal a (W4.setCell ⟨nb, 0, none⟩ v') := by
  have c1 := c.i1; have c2 := c.i2; have c3 := c.i3; have c4 := c.i4; have c5 := c.i5; have c6 := c.i6
  have h3 : ZS w l t N b1 R b2 (put S d) nb v (x :: q) W3 := (hz.below hb).add hg3 hs3
  have h3' := h3.below ((Below.refl _ W3).alloc (Nat.le_refl _) (.cells #[.int .u64 d] 23))
  have h5 := h3'.push hrow hg4
  have z2 := hb.size
  have z3 := hg3.size
  have z4 := hg4.size
  have z5 := (KeepsOthers.setCell W4 ⟨nb, 0, none⟩ v').size
  simp only [World.size_alloc] at z4
  obtain ⟨g, cur, hk, hcur⟩ := h3'.row.row
  have hgB := (h3'.row.lt g hk).1
  have hcells : KeepsOthers (W3.alloc (.cells #[.int .u64 d] 23)) W4 := KeepsOthers.of_grownBy hg4 fun j o e ho => by
    rw [hk] at e
    cases e
    rw [hcur] at ho
    cases ho
    rfl
  have hKF : KeepsFrom B W (W4.setCell ⟨nb, 0, none⟩ v') :=
    (KeepsFrom.of_grownBy (grown_below hb) fun j e => by cases e).trans ((KeepsFrom.of_grownBy hg3 fun j e => by cases e; omega).trans (((KeepsOthers.alloc W3 _).from B).trans ((hcells.from B).trans ((KeepsOthers.setCell W4 ⟨nb, 0, none⟩ v').from B))))
  have hKept : ∀ k, Kept w p2 k → k < W.heap.size := fun k hk => Nat.lt_of_lt_of_le (c.kept k hk) hs
  have hKS : KS (Kept w p2) W (W4.setCell ⟨nb, 0, none⟩ v') := by
    refine (KS.grown (grown_below hb) (fun r e => by cases e) hKept).trans ((KS.grown hg3 (fun r e => ?_) fun k hk => Nat.lt_of_lt_of_le (hKept k hk) z2).trans ((KS.grown (World.grownBy_alloc W3 _ none) (fun r e => by cases e) fun k hk => Nat.lt_of_lt_of_le (hKept k hk) (by omega)).trans ((KS.grown hg4 (fun r e => ?_) fun k hk => Nat.lt_of_lt_of_le (hKept k hk) (by simp; omega)).trans (KS.grown (grownBy_setCell' W4 nb v') (fun r e => ?_) fun k hk => Nat.lt_of_lt_of_le (hKept k hk) (by omega)))))
    · cases e
      rintro (h | h) <;> omega
    · rw [hk] at e
      cases e
      rintro (h | h)
      · omega
      · exact hv g hk h
    · cases e
      rintro (h | h) <;> omega
  have hsub : (put S d).length ≤ l.length := by
    rw [put_new hn]
    exact (hp.add hd hne hi hn).s.len
  refine ⟨hKF, hKS, ⟨put S d, v', q ++ [d], h5, ?_, fun k hk2 => ?_, ?_⟩, hM.keep (Nat.le_refl _) fun D d1 d2 d3 _ => ?_, by omega⟩
  · rw [put_new hn]
    exact hp.add hd hne hi hn
  · rcases hown with e | e
    · exact hv k (by rw [← e]; exact hk2)
    · rw [e] at hk2
      cases hk2
      simp only [World.size_alloc]
      omega
  · rw [put_new hn] at hsub ⊢
    simp only [List.length_append, List.length_singleton] at hsub ⊢
    omega
  · have hB3 : D < W3.heap.size := by omega
    have e2 : W2.heap[D]? = W.heap[D]? := hb.block D (by omega)
    have hW3 : W3.heap[D]? = W2.heap[D]? := hg3.block D (by omega) fun e => by
      cases e
      obtain ⟨es, cl, hmap⟩ := (hz.below hb).rset.map_block
      rw [e2, d3] at hmap
      cases hmap
    have hWa : (W3.alloc (.cells #[.int .u64 d] 23)).heap[D]? = W3.heap[D]? := Below.heap_alloc W3 _ _ hB3
    have hd4 : (W3.alloc (.cells #[.int .u64 d] 23)).heap[D]? = some (.deferred (some [])) := by rw [hWa, hW3, e2, d3]
    have hd5 : W4.heap[D]? = some (.deferred (some [])) := hcells.same D _ hd4 rfl
    have hd6 : (W4.setCell ⟨nb, 0, none⟩ v').heap[D]? = some (.deferred (some [])) := (KeepsOthers.setCell W4 ⟨nb, 0, none⟩ v').same D _ hd5 rfl
    rw [hd6, d3]
end

end Go.Proofs.Ythbaldjdfehhlaa
