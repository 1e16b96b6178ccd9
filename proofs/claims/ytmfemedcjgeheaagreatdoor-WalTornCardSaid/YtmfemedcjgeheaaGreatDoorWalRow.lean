/- Rows of entries and of segments in memory; last, follows, by their contracts. -/
import Derived.Test.YtmfemedcjgeheaaGreatDoorDisk6
import Derived.Test.YtmfemedcjgeheaaGreatDoorSegName
import Derived.WalkSmall
import Derived.Test.YtmfemedcjgeheaaGreatDoorHere
namespace Go.Proofs.YtmfemedcjgeheaaGreatDoor
open Go.RowKit Go.Maps Dsk Wl

/-- bytes at the head of a block -/
def Body (w : World) (B : Nat) (zs : List Int) (v : Value) : Prop := ∃ g c, v = .slice (some ⟨g, 0, none⟩) zs.length c ∧ B ≤ g ∧ Here w g zs ∧ zs.length ≤ c ∧ c ≤ 9223372036854775807
section
variable {w w' : World} {B B' : Nat} {zs : List Int} {v : Value}
theorem Body.keep (h : Body w B zs v) (hk : ∀ k cs fr, B ≤ k → w.heap[k]? = some (.cells cs 5 fr) → v.ownBlock = some k → w'.heap[k]? = w.heap[k]?) : Body w' B zs v := by
  obtain ⟨g, c, rfl, h1, h2, h3⟩ := h
  obtain ⟨cs, fr, hb, _⟩ := h2.blk
  exact ⟨g, c, rfl, h1, h2.other (hk g cs fr h1 hb rfl), h3⟩
theorem Body.below (h : Body w B zs v) (hb : Below w.heap.size w w') : Body w' B zs v := h.keep fun k _ _ _ hk _ => hb.block k (lt_of_block hk)
theorem Body.less (h : Body w B zs v) (hB : B' ≤ B) : Body w B' zs v := by
  obtain ⟨g, c, rfl, h1, h2⟩ := h
  exact ⟨g, c, rfl, Nat.le_trans hB h1, h2⟩
theorem Body.shape (h : Body w B zs v) : ∃ a c, v = .slice a zs.length c := by
  obtain ⟨g, c, rfl, _⟩ := h
  exact ⟨_, _, rfl⟩
theorem Body.reads {a : Option Addr} {c : Nat} (h : Body w B zs (.slice a zs.length c)) : Reads w a zs ∧ zs.length ≤ c ∧ c ≤ 9223372036854775807 ∧ a ≠ none := by
  obtain ⟨g, c', e, _, h2, h3⟩ := h
  simp only [Value.slice.injEq] at e
  obtain ⟨rfl, _, rfl⟩ := e
  exact ⟨h2.reads, h3.1, h3.2, by simp⟩
theorem Body.off {b : Nat} {cs : Array Value} {t : TypeId} {fr : Nat × Nat} (h : Body w B zs v) (hb : w.heap[b]? = some (.cells cs t fr)) (hne : 5 ≠ t) : v.ownBlock ≠ some b := by
  obtain ⟨g, c, rfl, h1, h2, h3⟩ := h
  obtain ⟨cs', fr', hg, _⟩ := h2.blk
  intro e0
  have e1 : g = b := by simpa [Value.ownBlock] using e0
  subst e1
  rw [hg] at hb
  injection hb with h1
  injection h1 with _ h2
  exact hne h2
theorem Body.conv (w : World) (zs : List Int) (hr : ∀ x ∈ zs, 0 ≤ x ∧ x ≤ 255) (hl : zs.length ≤ 1048576) : Body (Lib.bytesWorld w 5 (strOfNums zs)) w.heap.size zs (.slice (some ⟨w.heap.size, 0, none⟩) zs.length (grownCap w zs.length 0 5)) :=
  ⟨_, _, rfl, Nat.le_refl _, bytes_here w zs hr (by omega), grownCap_ge _ _ _ _, by have := grownCap_le_maxLen w zs.length 0 5 (by unfold maxLen; omega); unfold maxLen at this; omega⟩
end

/-- entries' cells; vs: their Bodies -/
def entCells : List Ent → List Value → List Value
  | e :: es, v :: vs => .int .u64 e.ix :: .int .u64 e.term :: v :: entCells es vs
  | _, _ => []
theorem entCells_len : ∀ (es : List Ent) (vs : List Value), vs.length = es.length → (entCells es vs).length = es.length * 3
  | [], _, _ => by simp [entCells]
  | e :: es, [], h => by simp at h
  | e :: es, v :: vs, h => by
    simp only [entCells, List.length_cons]
    rw [entCells_len es vs (by simpa using h)]
    omega
theorem entCells_snoc : ∀ (es : List Ent) (vs : List Value) (e : Ent) (v : Value), vs.length = es.length → entCells (es ++ [e]) (vs ++ [v]) = entCells es vs ++ [.int .u64 e.ix, .int .u64 e.term, v]
  | [], [], e, v, _ => rfl
  | [], v' :: vs, e, v, h => by simp at h
  | e' :: es, [], e, v, h => by simp at h
  | e' :: es, v' :: vs, e, v, h => by
    simp only [entCells, List.cons_append]
    rw [entCells_snoc es vs e v (by simpa using h)]
theorem entCells_at : ∀ (es : List Ent) (vs : List Value) (i : Nat) (hi : i < es.length), vs.length = es.length →
    (entCells es vs)[i * 3]? = some (.int .u64 es[i].ix) ∧ (entCells es vs)[i * 3 + 1]? = some (.int .u64 es[i].term) ∧ (entCells es vs)[i * 3 + 2]? = some (vs.getD i undef)
  | [], _, i, hi, _ => by simp at hi
  | e :: es, [], i, hi, h => by simp at h
  | e :: es, v :: vs, 0, hi, h => by simp [entCells]
  | e :: es, v :: vs, i + 1, hi, h => by
    have := entCells_at es vs i (by simpa using hi) (by simpa using h)
    simp only [entCells]
    rw [show (i + 1) * 3 = i * 3 + 1 + 1 + 1 by omega]
    simpa using this

/-- v holds just the entries es -/
structure EntRow (w : World) (B : Nat) (es : List Ent) (v : Value) : Prop where
  row : ∃ vs : List Value, vs.length = es.length ∧ w.ownsRow B 55 3 v es.length (entCells es vs) ∧ ∀ i (h : i < es.length), Body w B es[i].body (vs.getD i undef)

theorem ownsRow_apart {w : World} {B B' : Nat} {e e' : TypeId} {size size' n m : Nat} {v u : Value} {xs ys : List Value} (h : w.ownsRow B e size v n xs) (h' : w.ownsRow B' e' size' u m ys) (hne : e ≠ e') : v.ownBlock = none ∨ v.ownBlock ≠ u.ownBlock := by
  rcases h.2 with ⟨rfl, _⟩ | ⟨g, cap, cur, rfl, _, hg, _⟩
  · exact .inl rfl
  · refine .inr fun e0 => ?_
    rcases h'.2 with ⟨rfl, _⟩ | ⟨g', cap', cur', rfl, _, hg', _⟩
    · cases e0
    · have e1 : g = g' := by simpa [Value.ownBlock] using e0
      subst e1
      rw [hg] at hg'
      injection hg' with h1
      injection h1 with _ h2
      exact hne h2
theorem ownsRow_less {w : World} {B B' : Nat} {e : TypeId} {size n : Nat} {v : Value} {xs : List Value} (h : w.ownsRow B e size v n xs) (hB : B' ≤ B) : w.ownsRow B' e size v n xs := by
  refine ⟨h.1, ?_⟩
  rcases h.2 with hn | ⟨g, cap, cur, rfl, hb, rest⟩
  · exact .inl hn
  · exact .inr ⟨g, cap, cur, rfl, Nat.le_trans hB hb, rest⟩
/-- a slice's block is no block of another type -/
theorem ownsRow_off {w : World} {B : Nat} {e t : TypeId} {size n : Nat} {v : Value} {xs : List Value} {b : Nat} {cs : Array Value} {fr : Nat × Nat} (h : w.ownsRow B e size v n xs) (hb : w.heap[b]? = some (.cells cs t fr)) (hne : e ≠ t) : v.ownBlock ≠ some b := by
  rcases h.2 with ⟨rfl, _⟩ | ⟨g, cap, cur, rfl, _, hg, _⟩
  · intro e0; cases e0
  · intro e0
    have e1 : g = b := by simpa [Value.ownBlock] using e0
    subst e1
    rw [hg] at hb
    injection hb with h1
    injection h1 with _ h2
    exact hne h2

section
variable {w w' : World} {B B' : Nat} {es : List Ent} {v : Value}

theorem EntRow.keep (h : EntRow w B es v) (hk : ∀ k cs, B ≤ k → w.heap[k]? = some (.cells cs 55 (0, 0)) → v.ownBlock = some k → w'.heap[k]? = w.heap[k]?) (hu : ∀ k cs fr, B ≤ k → w.heap[k]? = some (.cells cs 5 fr) → w'.heap[k]? = w.heap[k]?) : EntRow w' B es v := by
  obtain ⟨vs, h1, h2, h3⟩ := h.row
  refine ⟨vs, h1, ownsRow_keep h2 fun k e => ?_, fun i hi => (h3 i hi).keep fun k cs fr hB hb _ => hu k cs fr hB hb⟩
  rcases h2.2 with ⟨rfl, _⟩ | ⟨g, cap, cur, rfl, hB, hg, _⟩
  · cases e
  · have e1 : g = k := by simpa [Value.ownBlock] using e
    subst e1
    exact hk g cur hB hg rfl
theorem EntRow.below (h : EntRow w B es v) (hb : Below w.heap.size w w') : EntRow w' B es v :=
  h.keep (fun _ _ _ hk _ => hb.block _ (Array.getElem?_eq_some_iff.1 hk).1) (fun _ _ _ _ hk => hb.block _ (Array.getElem?_eq_some_iff.1 hk).1)
theorem EntRow.less (h : EntRow w B es v) (hB : B' ≤ B) : EntRow w B' es v := by
  obtain ⟨vs, h1, h2, h3⟩ := h.row
  exact ⟨vs, h1, ownsRow_less h2 hB, fun i hi => (h3 i hi).less hB⟩
theorem EntRow.nil (w : World) (B : Nat) : EntRow w B [] (.slice none 0 0) := ⟨[], rfl, World.ownsRow_nil _ _ _ _, fun i hi => by simp at hi⟩
theorem EntRow.shape (h : EntRow w B es v) : ∃ a c, v = .slice a es.length c ∧ (a = none → es.length = 0 ∧ c = 0) := by
  obtain ⟨vs, h1, h2, h3⟩ := h.row
  exact slice_shape h2
/-- where the entries lie -/
theorem EntRow.at_ (h : EntRow w B es v) {i : Nat} (hi : i < es.length) : ∃ g cap a c, v = .slice (some ⟨g, 0, none⟩) es.length cap ∧ B ≤ g ∧ g < w.heap.size ∧ w.cell? ⟨g, i * 3, none⟩ = some (.int .u64 es[i].ix) ∧ w.cell? ⟨g, i * 3 + 1, none⟩ = some (.int .u64 es[i].term) ∧
    w.cell? ⟨g, i * 3 + 2, none⟩ = some (.slice a es[i].body.length c) ∧ Body w B es[i].body (.slice a es[i].body.length c) ∧ es.length ≤ cap ∧ cap ≤ maxLen := by
  obtain ⟨vs, h1, h2, h3⟩ := h.row
  obtain ⟨c1, c2, c3⟩ := entCells_at es vs i hi h1
  have hr := h3 i hi
  obtain ⟨a, c, hs⟩ := hr.shape
  rcases h2.2 with ⟨_, hn⟩ | ⟨g, cap, cur, rfl, hB, hg, hle, hcm, _⟩
  · omega
  · refine ⟨g, cap, a, c, rfl, hB, lt_of_block hg, ?_, ?_, ?_, hs ▸ hr, hle, hcm⟩
    · rw [h2.cellAt _ (by omega), c1]
    · rw [h2.cellAt _ (by omega), c2]
    · rw [h2.cellAt _ (by omega), c3, hs]
theorem EntRow.pop {e : Ent} {a : Option Addr} {c : Nat} (h : EntRow w B (es ++ [e]) (.slice a (es.length + 1) c)) : EntRow w B es (.slice a es.length c) := by
  obtain ⟨vs, h1, h2, h3⟩ := h.row
  have hne : vs ≠ [] := fun e => by rw [e] at h1; simp at h1
  obtain ⟨us, u, rfl⟩ : ∃ us u, vs = us ++ [u] := ⟨vs.dropLast, vs.getLast hne, (List.dropLast_concat_getLast hne).symm⟩
  have hl : us.length = es.length := by simpa using h1
  rw [entCells_snoc _ _ _ _ hl, List.length_append] at h2
  refine ⟨us, hl, ?_, fun i hi => ?_⟩
  · rcases h2.2 with ⟨hv, _⟩ | ⟨g, cap, cur, hv, _⟩
    · injection hv with _ hv; omega
    · simp only [Value.slice.injEq] at hv
      obtain ⟨rfl, _, rfl⟩ := hv
      exact ownsRow_pop (entCells_len _ _ hl) h2
  · have := h3 i (by simp; omega)
    have e1 : (es ++ [e])[i]'(by simp; omega) = es[i] := by simp [hi]
    have e2 : (us ++ [u]).getD i undef = us.getD i undef := by simp [List.getD, List.getElem?_append, show i < us.length by omega]
    rw [e1, e2] at this
    exact this
/-- one entry more -/
theorem EntRow.more {e : Ent} {s v' : Value} {vs : List Value} (h1 : vs.length = es.length) (h2 : w.ownsRow B 55 3 v es.length (entCells es vs)) (h3 : ∀ i (h : i < es.length), Body w B es[i].body (vs.getD i undef)) (hs : Body w B e.body s) (hg : w.grownBy w' v.ownBlock)
    (hrow : w'.ownsRow B 55 3 v' (es.length + 1) (entCells es vs ++ [.int .u64 e.ix, .int .u64 e.term, s])) : EntRow w' B (es ++ [e]) v' := by
  have hk : ∀ {zs : List Int} {u : Value}, Body w B zs u → Body w' B zs u := fun hr => hr.keep fun k cs fr _ hb _ => hg.block k (lt_of_block hb) fun e0 => ownsRow_off h2 hb (by decide) e0.symm
  refine ⟨vs ++ [s], by simp [h1], ?_, fun i hi => ?_⟩
  · rw [entCells_snoc _ _ _ _ h1, List.length_append]
    exact hrow
  · by_cases hin : i < es.length
    · have e1 : (es ++ [e])[i]'hi = es[i] := by simp [hin]
      have e2 : (vs ++ [s]).getD i undef = vs.getD i undef := by simp [List.getD, List.getElem?_append, show i < vs.length by omega]
      rw [e1, e2]
      exact hk (h3 i hin)
    · obtain rfl : i = es.length := by simp at hi; omega
      have e1 : (es ++ [e])[es.length]'hi = e := by simp
      have e2 : (vs ++ [s]).getD es.length undef = s := by simp [List.getD, ← h1]
      rw [e1, e2]
      exact hk hs
end

theorem last_none (a : Option Addr) (c : Nat) (w : World) : Calls Tryz.prog 45 #[.slice a 0 c] w fun e w' => e = .returned (.int .u64 0) ∧ w = w' := by
  go_enter Tryz.func45, Tryz.ntmps45
  go_wp2
  go_ret
  exact ⟨rfl, rfl⟩

theorem last_some (g n c : Nat) (x : Int) (w : World) (hn : n + 1 ≤ 1000000000) (hc : w.cell? ⟨g, n * 3, none⟩ = some (.int .u64 x)) : Calls Tryz.prog 45 #[.slice (some ⟨g, 0, none⟩) (n + 1) c] w fun e w' => e = .returned (.int .u64 x) ∧ w = w' := by
  go_enter Tryz.func45, Tryz.ntmps45
  go_wp2
  go_ret
  exact ⟨rfl, rfl⟩

theorem last_any {w : World} {B : Nat} {es : List Ent} {v : Value} (h : EntRow w B es v) (hn : es.length ≤ 1000000000) : Calls Tryz.prog 45 #[v] w fun e w' => e = .returned (.int .u64 (lastIx es)) ∧ w = w' := by
  by_cases he : es = []
  · subst he
    obtain ⟨a, c, rfl, _⟩ := h.shape
    exact last_none a c w
  · obtain ⟨r, e, rfl⟩ := snoc_of he
    obtain ⟨g, cap, a, c, rfl, _, _, hc, _⟩ := h.at_ (i := r.length) (by simp)
    have e1 : (r ++ [e])[r.length]'(by simp) = e := by simp
    rw [e1] at hc
    rw [lastIx_snoc, List.length_append]
    exact last_some g r.length cap e.ix w (by simpa using hn) hc

theorem follows_any (l i : Nat) (w : World) : Calls Tryz.prog 77 #[.int .u64 (l : Int), .int .u64 (i : Int)] w fun e w' => e = .returned (.bool (follows l i)) ∧ w = w' := by
  have hwr : IntKind.u64.wrap ((l : Int) + 1) = (((l + 1) % 18446744073709551616 : Nat) : Int) := by
    rw [IntKind.wrap_u64]
    omega
  have e1 : decide ((0 : Int) < (i : Int)) = decide (0 < i) := by simp
  have e2 : ((l : Int) == 0) = decide (l = 0) := by
    rw [Bool.eq_iff_iff]
    simp
  have e3 : decide ((i : Int) ≤ (((l + 1) % 18446744073709551616 : Nat) : Int)) = decide (i ≤ (l + 1) % 18446744073709551616) := by
    rw [decide_eq_decide]
    omega
  unfold follows
  generalize decide (0 < i) = b1 at *
  generalize decide (l = 0) = b2 at *
  generalize decide (i ≤ (l + 1) % 18446744073709551616) = b3 at *
  generalize (((l + 1) % 18446744073709551616 : Nat) : Int) = M at *
  go_enter Tryz.func77, Tryz.ntmps77
  cases b1 <;> cases b2 <;> cases b3
  all_goals go_wp2
  all_goals first
    | (go_ret; exact ⟨rfl, rfl⟩)
    | (exfalso; simp at e1; omega)

end Go.Proofs.YtmfemedcjgeheaaGreatDoor
