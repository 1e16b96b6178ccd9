/- next.All of an expression and moments that may be, by its contract: the iterator, and what it holds. -/
import Derived.Test.YtgcineaodfomeaaDoorAllIn8
namespace Go.Proofs.YtgcineaodfomeaaDoor
open Go.RowKit

theorem farOut_in {t : Int} (h : 0 ≤ t ∧ t < 13569465600) : farOut t = false := by unfold farOut; simp; omega
/-- what an iterator of All's holds -/
structure Held (w : World) (b : Nat → Nat) (s : Nat → Bool) (f t : Int) (X G H : Nat) (W : World) : Prop where
  bel : Below w.heap.size w W
  at_ : w.heap.size ≤ X ∧ w.heap.size ≤ G ∧ w.heap.size ≤ H
  x : W.heap[X]? = some (xobj b s)
  fr : Boxed W G 2 (.int .i64 f)
  to : Boxed W H 2 (.int .i64 t)
theorem Held.below {w : World} {b : Nat → Nat} {s : Nat → Bool} {f t : Int} {X G H : Nat} {W W' : World} (h : Held w b s f t X G H W) (hb : Below W.heap.size W W') : Held w b s f t X G H W' :=
  ⟨h.bel.trans (hb.mono h.bel.size), h.at_, (hb.block _ (lt_of_block h.x)).trans h.x, (hb.block _ (lt_of_block h.fr)).trans h.fr, (hb.block _ (lt_of_block h.to)).trans h.to⟩
theorem Held.start (w : World) (b : Nat → Nat) (s : Nat → Bool) (f t : Int) : Held w b s f t w.heap.size (w.heap.size + 1) (w.heap.size + 2)
    (((w.alloc (.cells #[.int .u64 ((b 0 : Nat) : Int), .bool (s 0), .int .u64 ((b 1 : Nat) : Int), .bool (s 1), .int .u64 ((b 2 : Nat) : Int), .bool (s 2), .int .u64 ((b 3 : Nat) : Int), .bool (s 3), .int .u64 ((b 4 : Nat) : Int), .bool (s 4)] 26)).alloc (.cells #[.int .i64 f] 2)).alloc (.cells #[.int .i64 t] 2)) := by
  have o := OwnX.new w b s
  have s1 : (w.alloc (.cells #[.int .u64 ((b 0 : Nat) : Int), .bool (s 0), .int .u64 ((b 1 : Nat) : Int), .bool (s 1), .int .u64 ((b 2 : Nat) : Int), .bool (s 2), .int .u64 ((b 3 : Nat) : Int), .bool (s 3), .int .u64 ((b 4 : Nat) : Int), .bool (s 4)] 26)).heap.size = w.heap.size + 1 := by simp
  generalize w.alloc (.cells #[.int .u64 ((b 0 : Nat) : Int), .bool (s 0), .int .u64 ((b 1 : Nat) : Int), .bool (s 1), .int .u64 ((b 2 : Nat) : Int), .bool (s 2), .int .u64 ((b 3 : Nat) : Int), .bool (s 3), .int .u64 ((b 4 : Nat) : Int), .bool (s 4)] 26) = W1 at *
  have h2 := heap_alloc_new W1 (.cells #[.int .i64 f] 2)
  rw [s1] at h2
  have o2 := o.alloc (.cells #[.int .i64 f] 2)
  have s2 : (W1.alloc (.cells #[.int .i64 f] 2)).heap.size = w.heap.size + 2 := by simp [s1]
  generalize W1.alloc (.cells #[.int .i64 f] 2) = W2 at *
  have h3 := heap_alloc_new W2 (.cells #[.int .i64 t] 2)
  rw [s2] at h3
  have o3 := o2.alloc (.cells #[.int .i64 t] 2)
  have b3 : Below W2.heap.size W2 (W2.alloc (.cells #[.int .i64 t] 2)) := (Below.refl _ _).alloc (Nat.le_refl _) _
  exact ⟨o3.bel, by omega, o3.row, (b3.block _ (by omega)).trans h2, h3⟩

theorem row_two (W : World) (n : Nat) (hn : W.heap.size = n) (f t : Int) : n < (W.alloc (.cells #[.int .i64 f, .int .i64 t] 2)).heap.size ∧
    ∀ (i : Nat) u, [f, t][i]? = some u → (W.alloc (.cells #[.int .i64 f, .int .i64 t] 2)).cell? ⟨n, i, none⟩ = some (.int .i64 u) := by
  subst hn
  have h := heap_alloc_new W (.cells #[.int .i64 f, .int .i64 t] 2)
  refine ⟨by simp, fun i u hu => ?_⟩
  match i with
  | 0 => simp at hu; subst hu; exact cell_of_row _ _ 0 _ _ _ h
  | 1 => simp at hu; subst hu; exact cell_of_row _ _ 1 _ _ _ h
  | i + 2 => simp at hu
theorem row_one (W : World) (n : Nat) (hn : W.heap.size = n) (f : Int) : n < (W.alloc (.cells #[.int .i64 f] 2)).heap.size ∧
    ∀ (i : Nat) u, [f][i]? = some u → (W.alloc (.cells #[.int .i64 f] 2)).cell? ⟨n, i, none⟩ = some (.int .i64 u) := by
  subst hn
  have h := heap_alloc_new W (.cells #[.int .i64 f] 2)
  refine ⟨by simp, fun i u hu => ?_⟩
  match i with
  | 0 => simp at hu; subst hu; exact cell_of_row _ _ 0 _ _ _ h
  | i + 1 => simp at hu

set_option maxRecDepth 100000 in
set_option maxHeartbeats 4000000 in
theorem all8_any (b : Nat → Nat) (s : Nat → Bool) (hb : ∀ k, k < 5 → b k < 2 ^ 64) (hm : Cron.may b = true) (f t : Int) (hf : 0 ≤ f ∧ f < 13569465600) (ht : 0 ≤ t ∧ t < 13569465600) (w : World) (hw : TabsOn w) :
    Calls Tryd.prog 16 #[xval b s, .int .i64 f, .int .i64 t] w fun e w' => ∃ X G H, e = .returned (.func (.func 34) #[] #[.pointer (some ⟨G, 0, none⟩), .pointer (some ⟨H, 0, none⟩), .pointer (some ⟨X, 0, none⟩)]) ∧ Held w b s f t X G H w' := by
  have h0 := Held.start w b s f t
  have hok : refusedOf (Cron.may b) [f, t] = 0 := by
    rw [hm]
    refine refused_ok fun i u hu => ?_
    match i with
    | 0 => simp at hu; subst hu; exact farOut_in hf
    | 1 => simp at hu; subst hu; exact farOut_in ht
    | i + 2 => simp at hu
  have hR := fun g W hW hg hc => refusal_any b s hb g 2 [f, t] (by simp) W hW hg hc
  rw [hok] at hR
  simp only [List.length_cons, List.length_nil, Nat.zero_add, Nat.reduceAdd] at hR
  have HW := Lib.hid hw
  have H0 := Lib.hid h0
  have HR := Lib.hid hR
  clear hok hR hb hm hw h0
  have o0 := H0.out.x
  obtain ⟨x0, x1, x2, x3, x4, x5, x6, x7, x8, x9⟩ := xobj_cells o0
  have c1 := H0.out.fr.cell
  have c2 := H0.out.to.cell
  unfold xval xcells at *
  clear o0
  go_enter Tryd.func16, Tryd.ntmps16
  go_wp2_with fail
  have h1 := H0.out.below ((Below.refl _ _).alloc (Nat.le_refl _) (.cells #[.int .i64 f, .int .i64 t] 2))
  have H1 := Lib.hid h1
  clear H0 h1
  with_reducible refine (HR.out (w.heap.size + 1 + 1 + 1) _ (HW.out.next H1.out.bel) (row_two _ _ (by simp) f t).1 (row_two _ _ (by simp) f t).2).mono ?_
  rintro e w1 ⟨rfl, hb1⟩
  have H2 := Lib.hid (H1.out.below hb1)
  clear hb1 H1 HR x0 x1 x2 x3 x4 x5 x6 x7 x8 x9 c1 c2
  go_wp2_with fail
  go_ret
  exact ⟨_, _, _, rfl, H2.out⟩
end Go.Proofs.YtgcineaodfomeaaDoor
