/- next.Count of an expression and moments that may be, by its contract: how many firings there are, up to the most. -/
import Derived.Test.YtgcineaodfomeaaDoorAfter8
namespace Go.Proofs.YtgcineaodfomeaaDoor
open Go.RowKit Go.Shelf
attribute [local go_sem] Oper.semAt_some

/-- an expression, and the most -/
structure Cnt (w : World) (b : Nat → Nat) (s : Nat → Bool) (q : Int) (W : World) : Prop where
  bel : Below w.heap.size w W
  x : W.heap[w.heap.size]? = some (xobj b s)
  q : Boxed W (w.heap.size + 1) 3 (.int .i64 q)
theorem Cnt.below {w : World} {b : Nat → Nat} {s : Nat → Bool} {q : Int} {W W' : World} (h : Cnt w b s q W) (hb : Below W.heap.size W W') : Cnt w b s q W' :=
  ⟨h.bel.trans (hb.mono h.bel.size), (hb.block _ (lt_of_block h.x)).trans h.x, (hb.block _ (lt_of_block h.q)).trans h.q⟩
theorem Cnt.start (w : World) (b : Nat → Nat) (s : Nat → Bool) (q : Int) : Cnt w b s q
    ((w.alloc (.cells #[.int .u64 ((b 0 : Nat) : Int), .bool (s 0), .int .u64 ((b 1 : Nat) : Int), .bool (s 1), .int .u64 ((b 2 : Nat) : Int), .bool (s 2), .int .u64 ((b 3 : Nat) : Int), .bool (s 3), .int .u64 ((b 4 : Nat) : Int), .bool (s 4)] 26)).alloc (.cells #[.int .i64 q] 3)) := by
  have o := OwnX.new w b s
  have s1 : (w.alloc (.cells #[.int .u64 ((b 0 : Nat) : Int), .bool (s 0), .int .u64 ((b 1 : Nat) : Int), .bool (s 1), .int .u64 ((b 2 : Nat) : Int), .bool (s 2), .int .u64 ((b 3 : Nat) : Int), .bool (s 3), .int .u64 ((b 4 : Nat) : Int), .bool (s 4)] 26)).heap.size = w.heap.size + 1 := by simp
  generalize w.alloc (.cells #[.int .u64 ((b 0 : Nat) : Int), .bool (s 0), .int .u64 ((b 1 : Nat) : Int), .bool (s 1), .int .u64 ((b 2 : Nat) : Int), .bool (s 2), .int .u64 ((b 3 : Nat) : Int), .bool (s 3), .int .u64 ((b 4 : Nat) : Int), .bool (s 4)] 26) = W1 at *
  have h2 := heap_alloc_new W1 (.cells #[.int .i64 q] 3)
  rw [s1] at h2
  have o2 := o.alloc (.cells #[.int .i64 q] 3)
  exact ⟨o2.bel, o2.row, h2⟩
theorem Cnt.grown {w : World} {b : Nat → Nat} {s : Nat → Bool} {q : Int} {A W : World} {row : Option Nat} {B : Nat} (h : Cnt w b s q A) (hB : w.heap.size ≤ B) (hg : A.grownBy W row) (hr : ∀ r, row = some r → B ≤ r ∧ ∃ o : Obj, A.heap[r]? = some o ∧ o.isCells = false) : Cnt w b s q W :=
  ⟨h.bel.grown hg h.bel.size (fun k e => by have := (hr k e).1; omega), (grownBy_keeps_cells hg (fun r e => (hr r e).2) h.x rfl).trans h.x, (grownBy_keeps_cells hg (fun r e => (hr r e).2) h.q rfl).trans h.q⟩
theorem Cnt.put {w : World} {b : Nat → Nat} {s : Nat → Bool} {q : Int} {W : World} (h : Cnt w b s q W) {N : Nat} (hN : w.heap.size + 1 < N) (v : Value) : Cnt w b s q (W.setCell ⟨N, 0, none⟩ v) :=
  ⟨h.bel.setCell (p := ⟨N, 0, none⟩) (by show w.heap.size ≤ N; omega) _, (set_else (by omega)).trans h.x, (set_else (by omega)).trans h.q⟩
theorem Cnt.over {w : World} {b : Nat → Nat} {s : Nat → Bool} {q : Int} {W : World} {D : Nat} (h : Cnt w b s q W) (hD : w.heap.size ≤ D) (hK : W.heap[D]? = some (.deferred (some []))) : Cnt w b s q (W.putObj D (.deferred none)) :=
  h.grown hD (grownBy_putObj' _ D (.deferred none)) (fun j e => by cases e; exact ⟨Nat.le_refl _, _, hK, rfl⟩)
theorem KeepX.set (W : World) (N : Nat) (v : Value) : KeepX N W (W.setCell ⟨N, 0, none⟩ v) :=
  ⟨by simp, fun k _ _ _ _ hk => set_else (by omega)⟩
theorem refused_two {m : Bool} {f t : Int} (hm : m = true) (hf : 0 ≤ f ∧ f < 13569465600) (ht : 0 ≤ t ∧ t < 13569465600) : refusedOf m [f, t] = 0 := by
  rw [hm]
  refine refused_ok fun i u hu => ?_
  match i with
  | 0 => simp at hu; subst hu; exact farOut_in hf
  | 1 => simp at hu; subst hu; exact farOut_in ht
  | i + 2 => simp at hu
/-- what Count counts -/
def Counts (b : Nat → Nat) (s : Nat → Bool) (f t : Int) (q k : Nat) : Prop :=
  (∃ xs, Fire.AllTold b s f t xs ∧ xs.length ≤ q ∧ k = xs.length) ∨ ∃ xs m, Fire.Chain b s f t xs m ∧ xs.length = q + 1 ∧ k = q

set_option maxRecDepth 100000 in
set_option maxHeartbeats 4000000 in
theorem count_yes (b : Nat → Nat) (s : Nat → Bool) (hb : ∀ k, k < 5 → b k < 2 ^ 64) (hm : Cron.may b = true) (f t : Int) (hf : 0 ≤ f ∧ f < 13569465600) (ht : 0 ≤ t ∧ t < 13569465600) (q : Nat) (w : World) (hw : World7 w) :
    Calls Tryd.prog 14 #[xval b s, .int .i64 f, .int .i64 t, .int .i64 q] w fun e w' => ∃ k : Nat, Counts b s f t q k ∧ e = .returned (.tuple #[.int .i64 k, .int .i64 0]) ∧ Below w.heap.size w w' := by
  have h0 := Cnt.start w b s q
  have hR := fun g W hW hg hc => refusal_any b s hb g 2 [f, t] (by simp) W hW hg hc
  rw [refused_two hm hf ht] at hR
  simp only [List.length_cons, List.length_nil, Nat.zero_add, Nat.reduceAdd] at hR
  have hA := fun W hW => all8_any b s hb hm f t hf ht W hW
  have hI := fun l X G H Bn J Jx W => all2_in (3 - 1) (by decide) l X G H Bn b s hb hm f t hf ht J Jx W
  have HW := Lib.hid hw
  have H0 := Lib.hid h0
  have HR := Lib.hid hR
  have HA := Lib.hid hA
  have HI := Lib.hid hI
  clear hR hb hw h0 hA hI hm
  obtain ⟨x0, x1, x2, x3, x4, x5, x6, x7, x8, x9⟩ := xobj_cells H0.out.x
  have q0 := H0.out.q.cell
  have gq : decide ((q : Int) < 0) = false := by simp
  unfold xval xcells at *
  refine (callsIn_wide (n := 3)).1 ?_
  refine callsIn_of_wp_marks Tryd.func14 rfl trivial ?_ rfl
  simp only [Tryd.ntmps14, List.size_toArray, List.length_cons, List.length_nil, Nat.reduceAdd, Nat.reduceSub, Array.replicate_succ, Array.replicate_zero, List.push_toArray, List.append_toArray, List.nil_append, List.cons_append]
  gi_wp2_with fail
  have h1 := H0.out.below ((Below.refl _ _).alloc (Nat.le_refl _) (.cells #[.int .i64 f, .int .i64 t] 2))
  have H1 := Lib.hid h1
  clear H0 h1
  refine ⟨trivial, ?_⟩
  with_reducible refine (callsIn_wide.2 (HR.out (w.heap.size + 1 + 1) _ (HW.out.tabs.next H1.out.bel) (row_two _ _ (by simp) f t).1 (row_two _ _ (by simp) f t).2)).mono ?_
  rintro e w1 ⟨rfl, hb1⟩
  have H2 := Lib.hid (H1.out.below hb1)
  clear hb1 H1 HR x0 x1 x2 x3 x4 x5 x6 x7 x8 x9 q0
  have q0 := H2.out.q.cell
  have hN := lt_of_block H2.out.q
  have hb2 : Below w1.heap.size w1 (w1.alloc (.cells #[.int .i64 0] 3)) := (Below.refl _ _).alloc (Nat.le_refl _) _
  have hbx : Boxed (w1.alloc (.cells #[.int .i64 0] 3)) w1.heap.size 3 (.int .i64 0) := heap_alloc_new w1 (.cells #[.int .i64 0] 3)
  obtain ⟨x0, x1, x2, x3, x4, x5, x6, x7, x8, x9⟩ := xobj_cells (H2.out.below hb2).x
  have H3 := Lib.hid (H2.out.below hb2)
  have HBX := Lib.hid hbx
  clear hb2 hbx
  gi_wp2_with fail
  have hn1 : w1.heap.size < (w1.alloc (.cells #[.int .i64 0] 3)).heap.size := by simp
  generalize w1.alloc (.cells #[.int .i64 0] 3) = W2 at *
  generalize w1.heap.size = N at *
  clear H2
  refine ⟨trivial, (callsIn_wide.2 (HA.out _ (HW.out.tabs.next H3.out.bel))).mono ?_⟩
  rintro e w2 ⟨X, G, H, rfl, hh⟩
  have H4 := Lib.hid (H3.out.below hh.bel)
  have HB4 := Lib.hid ((hh.bel.block _ (lt_of_block HBX.out)).trans HBX.out)
  have hlow := tables_low HW.out
  have hX := hh.at_
  have hs1 := hh.bel.size
  have HH := Lib.hid hh
  clear HA H3 HBX hh x0 x1 x2 x3 x4 x5 x6 x7 x8 x9 q0
  gi_wp2_with fail
  refine range_told (by omega) (gf := 34) (lb := #[.pointer (some ⟨G, 0, none⟩), .pointer (some ⟨H, 0, none⟩), .pointer (some ⟨X, 0, none⟩)]) rfl (enters_of Tryd.func34 (by kernel_rfl) rfl)
    (encs := fun x : Int => #[.int .i64 x]) (Kp := KeepX N) (T := fun pre _ => ∃ m, Fire.Chain b s f t pre m) (S := Fire.AllTold b s f t) (N := 13569465600) (w0 := w2)
    (fun l J Jx W hW hJ hJx hY h0 => (HI.out l X G H N J Jx W hJ hY (by omega) (HW.out.next (H4.out.bel.trans (hW.mono H4.out.bel.size))) ((hW.block _ (lt_of_block HH.out.x)).trans HH.out.x) ((hW.block _ (lt_of_block HH.out.fr)).trans HH.out.fr) ((hW.block _ (lt_of_block HH.out.to)).trans HH.out.to) h0).mono fun e W' ⟨hv, ho⟩ => ⟨hv, match ho with | .inl ⟨xs, ⟨m, hc, hcl⟩, hj⟩ => .inl ⟨xs, ⟨m, hc, hcl⟩, ⟨m, hc⟩, hj⟩ | .inr hx => .inr hx⟩)
    (fun h k => h.trans k) (fun W l o o' _ h ho => KeepX.other W l o o' h ho) (fun _ _ _ _ h _ _ => h) (Below.refl _ _) (fun _ => rfl)
    (fun pre W => pre.length ≤ q ∧ Cnt w b s q W ∧ Boxed W N 3 (.int .i64 (pre.length : Int))) (fun c pre W => c = .exit 0 ∧ (∃ m, Fire.Chain b s f t pre m) ∧ pre.length = q + 1 ∧ Cnt w b s q W ∧ Boxed W N 3 (.int .i64 (q : Int)))
    ?own ?ownx ⟨Nat.zero_le _, H4.out, HB4.out⟩
    (fun x => { tmps := #[.agg #[.int .u64 ((b 0 : Nat) : Int), .bool (s 0), .int .u64 ((b 1 : Nat) : Int), .bool (s 1), .int .u64 ((b 2 : Nat) : Int), .bool (s 2), .int .u64 ((b 3 : Nat) : Int), .bool (s 3), .int .u64 ((b 4 : Nat) : Int), .bool (s 4)], .int .i64 f, .int .i64 t, .int .i64 (q : Int), .pointer (some ⟨w.heap.size, 0, none⟩), undef, undef, .pointer (some ⟨w.heap.size + 1, 0, none⟩), .int .i64 0, .int .i64 0, .int .i64 0, .pointer (some ⟨N, 0, none⟩), .agg #[.int .u64 ((b 0 : Nat) : Int), .bool (s 0), .int .u64 ((b 1 : Nat) : Int), .bool (s 1), .int .u64 ((b 2 : Nat) : Int), .bool (s 2), .int .u64 ((b 3 : Nat) : Int), .bool (s 3), .int .u64 ((b 4 : Nat) : Int), .bool (s 4)], .int .i64 f, .int .i64 t, .slice (some ⟨w.heap.size + 1 + 1, 0, none⟩) 2 2, .int .i64 0, .int .i64 0, .bool false, undef, .int .i64 (q : Int), .bool false, .agg #[.int .u64 ((b 0 : Nat) : Int), .bool (s 0), .int .u64 ((b 1 : Nat) : Int), .bool (s 1), .int .u64 ((b 2 : Nat) : Int), .bool (s 2), .int .u64 ((b 3 : Nat) : Int), .bool (s 3), .int .u64 ((b 4 : Nat) : Int), .bool (s 4)], .int .i64 f, .int .i64 t, .func (.func 34) #[] #[.pointer (some ⟨G, 0, none⟩), .pointer (some ⟨H, 0, none⟩), .pointer (some ⟨X, 0, none⟩)], .int .i64 x, undef, undef, undef, undef, undef, undef], defers := [] }) ?assign ?body ?done ?stop
  case assign =>
    intro l x W K hK
    gi_wp2
    exact hK
  case own =>
    rintro k A W row ⟨hl, h, hbx⟩ hg hr
    exact ⟨hl, h.grown (Nat.le_trans (by omega) H4.out.bel.size) hg hr, (grownBy_keeps_cells hg (fun r e => (hr r e).2) hbx rfl).trans hbx⟩
  case ownx =>
    rintro c k A W row ⟨rfl, hc, hl, h, hbx⟩ hg hr
    exact ⟨rfl, hc, hl, h.grown (Nat.le_trans (by omega) H4.out.bel.size) hg hr, (grownBy_keeps_cells hg (fun r e => (hr r e).2) hbx rfl).trans hbx⟩
  case body =>
    rintro l pre x W ⟨hl, h, hbx⟩ ht _
    have h' := Lib.hid h
    have HBX := Lib.hid hbx
    have HT := Lib.hid ht
    have c1 := hbx.cell
    have f1 := hbx.frozen
    have c2 := h.q.cell
    clear ht h hbx
    by_cases he : pre.length = q
    · have ge : ((pre.length : Int) == (q : Int)) = true := by simp; omega
      gi_wp2_with fail
      exact ⟨KeepsFrom.refl _ _, rfl, HT.out, by simp [he], h'.out, by have := HBX.out; rw [he] at this; exact this⟩
    · have ge : ((pre.length : Int) == (q : Int)) = false := by simp; omega
      gi_wp2_with fail
      refine ⟨(KeepsOthers.setCell _ _ _).from _, KeepX.set _ _ _, by simp; omega, h'.out.put (by have := lt_of_block H4.out.q; omega) _, ?_⟩
      rw [show (((pre ++ [x]).length : Nat) : Int) = (pre.length : Int) + 1 by simp]
      exact HBX.out.set (.int .i64 ((pre.length : Int) + 1))
  case stop =>
    rintro D c pre W hD ⟨rfl, hc, hl, h, hbx⟩ hK
    have c1 := hbx.cell
    have f1 := hbx.frozen
    gi_wp2_with fail
    have h2 := h.over (Nat.le_trans H4.out.bel.size (by omega)) hK
    obtain ⟨m, hm⟩ := hc
    refine ⟨by simp, .inl ⟨_, _, rfl, run_takeDeferred hK, ?_⟩⟩
    exact ⟨.tuple #[.int .i64 (q : Int), .int .i64 0], by simp [results, Tryd.results14, go_sem], q, .inr ⟨pre, m, hm, hl, rfl⟩, rfl, h2.bel⟩
  case done =>
    rintro D xs W hD hall _ ⟨hl, h, hbx⟩ hK
    have c1 := hbx.cell
    have f1 := hbx.frozen
    gi_wp2_with fail
    have h2 := h.over (Nat.le_trans H4.out.bel.size (by omega)) hK
    refine ⟨by simp, .inl ⟨_, _, rfl, run_takeDeferred hK, ?_⟩⟩
    exact ⟨.tuple #[.int .i64 (xs.length : Int), .int .i64 0], by simp [results, Tryd.results14, go_sem], xs.length, .inl ⟨xs, hall, hl, rfl⟩, rfl, h2.bel⟩
end Go.Proofs.YtgcineaodfomeaaDoor
