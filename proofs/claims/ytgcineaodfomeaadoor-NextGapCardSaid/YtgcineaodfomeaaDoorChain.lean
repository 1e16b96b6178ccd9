/- Firings told one behind the other: a chain of them, behind one moment, up to another; what a walk over days, hours and minutes holds; what a round over them leaves as it was. -/
import Derived.Test.YtgcineaodfomeaaDoorDay8
import Derived.Test.YtgcineaodfomeaaDoorTold
namespace Go.Proofs.YtgcineaodfomeaaDoor
open Go.RowKit
namespace Fire
/-- the firings behind f, up to t, as far as they were told; m: the last one that was, or f -/
inductive Chain (b : Nat → Nat) (s : Nat → Bool) (f t : Int) : List Int → Int → Prop
  | start : Chain b s f t [] f
  | next {pre m x} : Chain b s f t pre m → AfterIs b s m x → x ≤ t → Chain b s f t (pre ++ [x]) x
variable {b : Nat → Nat} {s : Nat → Bool} {f t m x n h i : Int} {pre xs : List Int}
theorem Chain.le (h : Chain b s f t pre m) : f + (pre.length : Int) ≤ m ∧ (m = f ∨ m ≤ t) := by
  induction h with
  | start => simp
  | @next pre m x h0 h1 h2 ih =>
    have := h1.2.1
    rw [List.length_append, List.length_singleton]
    omega
theorem Chain.last (h : Chain b s f t pre m) : m = pre.getLast?.getD f := by
  cases h with
  | start => rfl
  | next => simp
theorem Chain.one {m' : Int} (h : Chain b s f t pre m) (h' : Chain b s f t pre m') : m = m' := h.last.trans h'.last.symm
/-- all firings behind f, up to t, were told -/
def AllTold (b : Nat → Nat) (s : Nat → Bool) (f t : Int) (xs : List Int) : Prop := ∃ m, Chain b s f t xs m ∧ ClearB b s m t
theorem clear_back {c : Int} (h : Clear b s (m + 1) c) (hc : t < c) : ClearB b s m t := fun u h1 h2 => h u (by omega) (by omega)

/-! what a walk holds: no firing from behind m on, ahead of c -/
theorem go_day {F L : Int} (hd : Days b s n F L false) (h : Clear b s (m + 1) (n * 86400)) : Clear b s (m + 1) ((L + 1) * 86400) := fun u h1 h2 hf => by
  rcases Int.lt_or_le u (n * 86400) with q | q
  · exact h u h1 q hf
  · have := hd.in_
    exact hd.no rfl (u / 86400) (by omega) (by omega) hf.2.2.2.1
theorem go_past {c : Int} (hm : f ≤ m) (hc : c ≤ f) : Clear b s (m + 1) c := fun u h1 h2 => by omega
theorem go_hour (h0 : 0 ≤ h ∧ h < 24) (hh : Fld.has (b 1) h = false) (hc : Clear b s (m + 1) (n * 86400 + h * 3600)) : Clear b s (m + 1) (n * 86400 + (h + 1) * 3600) := fun u h1 h2 hf => by
  rcases Int.lt_or_le u (n * 86400 + h * 3600) with q | q
  · exact hc u h1 q hf
  · have hk := hf.2.2.2.2
    unfold minOk at hk
    rw [show u % 86400 / 60 / 60 = h by omega, hh, Bool.and_false] at hk
    cases hk
theorem go_minute (hi : 0 ≤ i ∧ i < 60) (hh : Fld.has (b 0) i = false) (hc : Clear b s (m + 1) (n * 86400 + h * 3600 + i * 60)) : Clear b s (m + 1) (n * 86400 + h * 3600 + (i + 1) * 60) := fun u h1 h2 hf => by
  rcases Int.lt_or_le u (n * 86400 + h * 3600 + i * 60) with q | q
  · exact hc u h1 q hf
  · have hk := hf.2.2.2.2
    unfold minOk at hk
    rw [show u % 86400 / 60 % 60 = i by omega, hh, Bool.false_and] at hk
    cases hk
theorem go_late (hm : f ≤ m) (hc : n * 86400 + h * 3600 + i * 60 ≤ f) : Clear b s (m + 1) (n * 86400 + h * 3600 + (i + 1) * 60) := fun u h1 h2 hf => by
  have := hf.2.2.1
  omega
theorem go_on {c : Int} (hm : m = n * 86400 + h * 3600 + i * 60) (hc : c = n * 86400 + h * 3600 + (i + 1) * 60) : Clear b s (m + 1) c := fun u h1 h2 hf => by
  have := hf.2.2.1
  omega
theorem go_found (h0 : 0 ≤ h ∧ h < 24) (hi : 0 ≤ i ∧ i < 60) (hn : 0 ≤ n ∧ n < 157054) (hd : dayOk b s n) (hh : Fld.has (b 1) h = true) (hq : Fld.has (b 0) i = true) (hm : m < n * 86400 + h * 3600 + i * 60) (hc : Clear b s (m + 1) (n * 86400 + h * 3600 + i * 60)) :
    AfterIs b s m (n * 86400 + h * 3600 + i * 60) := by
  refine ⟨⟨by omega, by omega, by omega, ?_, ?_⟩, hm, fun u h1 h2 => hc u (by omega) h2⟩
  · rw [show (n * 86400 + h * 3600 + i * 60) / 86400 = n by omega]
    exact hd
  · unfold minOk
    rw [show (n * 86400 + h * 3600 + i * 60) % 86400 / 60 % 60 = i by omega, show (n * 86400 + h * 3600 + i * 60) % 86400 / 60 / 60 = h by omega, hh, hq]
    rfl
end Fire

/-- what a round keeps: all cells but those of the block Bn -/
structure KeepX (Bn : Nat) (W W' : World) : Prop where
  size : W.heap.size ≤ W'.heap.size
  same : ∀ (k : Nat) (cs : Array Value) (t : TypeId) (fr : Nat × Nat), W.heap[k]? = some (.cells cs t fr) → k ≠ Bn → W'.heap[k]? = W.heap[k]?
theorem KeepX.trans {Bn : Nat} {A B C : World} (h : KeepX Bn A B) (k : KeepX Bn B C) : KeepX Bn A C :=
  ⟨Nat.le_trans h.size k.size, fun i cs t fr hi ht => (k.same i cs t fr ((h.same i cs t fr hi ht).trans hi) ht).trans (h.same i cs t fr hi ht)⟩
theorem KeepX.other {Bn : Nat} (W : World) (l : Nat) (o o' : Obj) (h : W.heap[l]? = some o) (ho : o.isCells = false) : KeepX Bn W (W.putObj l o') :=
  ⟨by simp, fun k cs t fr hk _ => World.putObj_heap_other (fun e => by subst e; rw [h] at hk; cases hk; cases ho)⟩
theorem KeepX.below {Bn : Nat} {W W' : World} (h : Below W.heap.size W W') : KeepX Bn W W' :=
  ⟨h.size, fun k _ _ _ hk _ => h.block k (lt_of_block hk)⟩
theorem keep_cell {Bn : Nat} {W W' : World} (hk : KeepX Bn W W') {g i : Nat} {v : Value} (hg : g ≠ Bn) (h : W.cell? ⟨g, i, none⟩ = some v) : W'.cell? ⟨g, i, none⟩ = some v := by
  have hb : ∃ cs t fr, W.heap[g]? = some (.cells cs t fr) := by
    cases hq : W.heap[g]? with
    | none => simp [World.cell?, hq] at h
    | some o =>
      cases o with
      | cells cs t fr => exact ⟨cs, t, fr, rfl⟩
      | _ => simp [World.cell?, hq] at h
  obtain ⟨cs, t, fr, hb⟩ := hb
  have := hk.same g cs t fr hb hg
  simp only [World.cell?] at h ⊢
  rw [this]
  exact h
/-- the tables stay -/
theorem World7.keep {Bn : Nat} {W W' : World} (h : World7 W) (hk : KeepX Bn W W') (h1 : 0 ≠ Bn) (h2 : 1 ≠ Bn) : World7 W' := by
  refine ⟨TabsOn.of ⟨fun k hk4 => ⟨keep_cell hk h2 (h.tabs.here.low k hk4).1, keep_cell hk h2 (h.tabs.here.low k hk4).2⟩⟩, Civ.MonOn.of ?_⟩
  have hm := h.mon.on (Below.refl _ _)
  exact ⟨Nat.lt_of_lt_of_le hm.1 hk.size, fun i hi => keep_cell hk h1 (hm.2 i hi)⟩
theorem below_grows {W W' : World} (h : Below W.heap.size W W') : W.grownBy W' none := ⟨h.os, h.tape, h.output, h.size, fun k hk _ => h.block k hk⟩

/-- what lies in memory, and was told, when a walk over a time stands ahead of c -/
structure Run (b : Nat → Nat) (s : Nat → Bool) (f t : Int) (X G H Bn : Nat) (J : List Int → World → Prop) (pre : List Int) (m c : Int) (W : World) : Prop where
  chain : Fire.Chain b s f t pre m
  clear : Fire.Clear b s (m + 1) c
  low : m = f ∨ m < c
  j : J pre W
  w7 : World7 W
  x : W.heap[X]? = some (xobj b s)
  fr : Boxed W G 2 (.int .i64 f)
  to : Boxed W H 2 (.int .i64 t)
section
variable {b : Nat → Nat} {s : Nat → Bool} {f t m c c' : Int} {X G H Bn B : Nat} {J : List Int → World → Prop} {pre : List Int} {W W' : World}
theorem Run.below (r : Run b s f t X G H Bn J pre m c W) (hJ : AbidesFrom B J) (hb : Below W.heap.size W W') : Run b s f t X G H Bn J pre m c W' :=
  ⟨r.chain, r.clear, r.low, hJ pre W W' none r.j (below_grows hb) (fun _ e => by cases e), r.w7.next hb, (hb.block _ (lt_of_block r.x)).trans r.x, (hb.block _ (lt_of_block r.fr)).trans r.fr, (hb.block _ (lt_of_block r.to)).trans r.to⟩
theorem Run.step (r : Run b s f t X G H Bn J pre m c W) (h : Fire.Clear b s (m + 1) c') (hc : c ≤ c') : Run b s f t X G H Bn J pre m c' W :=
  ⟨r.chain, h, by have := r.low; omega, r.j, r.w7, r.x, r.fr, r.to⟩
theorem Run.turn (r : Run b s f t X G H Bn J pre m c W) (hk : KeepX Bn W W') (hB : X ≠ Bn ∧ G ≠ Bn ∧ H ≠ Bn ∧ 0 ≠ Bn ∧ 1 ≠ Bn) (x : Int) (hch : Fire.Chain b s f t (pre ++ [x]) x) (hj : J (pre ++ [x]) W') (h : Fire.Clear b s (x + 1) c') (hx : x < c') :
    Run b s f t X G H Bn J (pre ++ [x]) x c' W' :=
  ⟨hch, h, .inr hx, hj, r.w7.keep hk hB.2.2.2.1 hB.2.2.2.2, (hk.same X _ _ _ r.x hB.1).trans r.x, (hk.same G _ _ _ r.fr hB.2.1).trans r.fr, (hk.same H _ _ _ r.to hB.2.2.1).trans r.to⟩
theorem Run.ge (r : Run b s f t X G H Bn J pre m c W) : f ≤ m := by have := r.chain.le; omega
end
end Go.Proofs.YtgcineaodfomeaaDoor
