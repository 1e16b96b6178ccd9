/- Rows of numbers: as they are read, as a call makes them. -/
import Derived.Test.YtkhajpefnkialaaProg
import Derived.WalkKit
import Derived.Lib.Hide
import Derived.OneCell
import Derived.Laws.BytesArg
import Derived.Laws.Rows
import Derived.Laws.AppendOwn
import Derived.Laws.OwnMore
import Derived.Deep.AppendLies
import Derived.Maps.AppendAt
import Derived.DataElems
import Derived.Lib.AppendZeros
import Derived.BigQuiet
import Derived.Tactics2
namespace Go.Proofs.Ytkhajpefnkialaa.Job
open Go.RowKit

theorem bel_drewN {B : Nat} {a w : World} (h : Below B a w) (n : Nat) : Below B a (w.drewN n) := ⟨h.os, h.tape, h.output, h.size, h.block⟩
theorem stays {w w' : World} {p : Addr} {v : Value} (hb : Below w.heap.size w w') (h : w.cell? p = some v) : w'.cell? p = some v := (hb.cell (World.block_lt_of_cell? w p h)).trans h

/-- a world that has only drawn -/
def Drew (w w' : World) : Prop := ∃ m, w' = w.drewN m
theorem Drew.refl (w : World) : Drew w w := ⟨0, by simp [World.drewN]⟩
theorem Drew.more {w wr : World} (h : Drew w wr) (n : Nat) : Drew w (wr.drewN n) := by
  obtain ⟨m, rfl⟩ := h
  exact ⟨m + n, by simp [World.drewN, Nat.add_assoc]⟩
theorem Drew.drew {w wr : World} (h : Drew w wr) : Drew w wr.drew := h.more 1
theorem Drew.bel {w wr : World} (h : Drew w wr) : Below w.heap.size w wr := by
  obtain ⟨m, rfl⟩ := h
  exact bel_drewN (Below.refl _ _) m

def U64 (x : Int) : Prop := 0 ≤ x ∧ x < 18446744073709551616
theorem of_wf_u {x : Int} (h : (Lit.int .u64 x).wf = true) : U64 x := by
  have hb : 0 ≤ x ∧ x ≤ 18446744073709551615 := by simpa [Lit.wf, IntKind.min, IntKind.max, IntKind.signed, IntKind.bits] using h
  exact ⟨hb.1, by omega⟩

/-- the values vs (of one cell each) are read at a -/
def Vals (w : World) (a : Option Addr) (vs : List Value) : Prop := ∃ g q, (vs ≠ [] → a = some ⟨g, q, none⟩) ∧ ∀ i (h : i < vs.length), g < w.heap.size ∧ w.cell? ⟨g, q + i, none⟩ = some vs[i]
theorem Vals.nil (w : World) (a : Option Addr) : Vals w a [] := ⟨0, 0, fun h => absurd rfl h, fun i h => absurd h (by simp)⟩
theorem Vals.below {w w' : World} {a : Option Addr} {vs : List Value} (h : Vals w a vs) (hb : Below w.heap.size w w') : Vals w' a vs := by
  obtain ⟨g, q, h1, h2⟩ := h
  exact ⟨g, q, h1, fun i hi => ⟨Nat.lt_of_lt_of_le (h2 i hi).1 hb.size, (hb.cell (p := ⟨g, q + i, none⟩) (h2 i hi).1).trans (h2 i hi).2⟩⟩
/-- it stands where its own block does -/
theorem Vals.kept {w w' : World} {a : Option Addr} {vs : List Value} (h : Vals w a vs) (hs : w.heap.size ≤ w'.heap.size) (hb : ∀ x, a = some x → x.block < w.heap.size → w'.heap[x.block]? = w.heap[x.block]?) : Vals w' a vs := by
  obtain ⟨g, q, h1, h2⟩ := h
  refine ⟨g, q, h1, fun i hi => ⟨Nat.lt_of_lt_of_le (h2 i hi).1 hs, ?_⟩⟩
  have hne : vs ≠ [] := fun e => by subst e; simp at hi
  have hbl := hb _ (h1 hne) (h2 i hi).1
  have hc := (h2 i hi).2
  rw [← hc]
  unfold World.cell?
  simp only [] at hbl ⊢
  rw [hbl]
theorem Vals.at {w : World} {x : Addr} {vs : List Value} (h : Vals w (some x) vs) {i : Nat} (hi : i < vs.length) : w.cell? (x.add i) = some vs[i] := by
  obtain ⟨g, q, h1, h2⟩ := h
  have hne : vs ≠ [] := fun e => by subst e; simp at hi
  have := h1 hne
  cases this
  rw [show ((⟨g, q, none⟩ : Addr).add i) = ⟨g, q + i, none⟩ by unfold Addr.add; split <;> simp_all]
  exact (h2 i hi).2
theorem Vals.news {w : World} {x : Addr} {vs : List Value} (h : Vals w (some x) vs) : ∀ j u, vs[j]? = some u → w.cell? (x.add j) = some u := by
  intro j u hu
  obtain ⟨hj, e⟩ := List.getElem?_eq_some_iff.1 hu
  rw [h.at hj, e]
theorem Vals.there {w : World} {a : Option Addr} {vs : List Value} (h : Vals w a vs) (hl : 0 < vs.length) : ∃ x, a = some x := by
  obtain ⟨g, q, h1, _⟩ := h
  exact ⟨_, h1 fun e => by subst e; simp at hl⟩
theorem vals_row {w : World} {g : Nat} {cs : Array Value} {t : TypeId} {fr : Nat × Nat} (vs : List Value) (hg : w.heap[g]? = some (.cells cs t fr)) (hc : ∀ i (h : i < vs.length), cs[i]? = some vs[i]) : Vals w (some ⟨g, 0, none⟩) vs :=
  ⟨g, 0, fun _ => rfl, fun i hi => ⟨(Array.getElem?_eq_some_iff.1 hg).1, by rw [Nat.zero_add, cell_of_row w g i cs _ _ hg]; exact hc i hi⟩⟩

section
variable {B : Nat} {v : Value} {e : TypeId} {n : Nat} {xs : List Value} {W W' : World}
theorem own_below (h : W.ownsRow B e 1 v n xs) (hb : Below W.heap.size W W') : W'.ownsRow B e 1 v n xs := by
  refine ⟨h.1, ?_⟩
  rcases h.2 with hn | ⟨g, cap, cur, rfl, hB, hg, rest⟩
  · exact .inl hn
  · exact .inr ⟨g, cap, cur, rfl, hB, (hb.block g (Array.getElem?_eq_some_iff.1 hg).1).trans hg, rest⟩
/-- it stands where its own block does -/
theorem own_kept (h : W.ownsRow B e 1 v n xs) (hk : ∀ k, v.ownBlock = some k → W'.heap[k]? = W.heap[k]?) : W'.ownsRow B e 1 v n xs := by
  refine ⟨h.1, ?_⟩
  rcases h.2 with hn | ⟨g, cap, cur, rfl, hB, hg, rest⟩
  · exact .inl hn
  · exact .inr ⟨g, cap, cur, rfl, hB, (hk g (by simp [Value.ownBlock])).trans hg, rest⟩
theorem own_less {B' : Nat} (h : W.ownsRow B e 1 v n xs) (hB : B' ≤ B) : W.ownsRow B' e 1 v n xs := by
  refine ⟨h.1, ?_⟩
  rcases h.2 with hn | ⟨g, cap, cur, rfl, hb, rest⟩
  · exact .inl hn
  · exact .inr ⟨g, cap, cur, rfl, by omega, rest⟩
theorem own_shape (h : W.ownsRow B e 1 v n xs) : ∃ a c, v = .slice a n c ∧ (a = none → n = 0 ∧ c = 0) ∧ n ≤ c ∧ c ≤ maxLen ∧ Vals W a xs ∧ xs.length = n := by
  have h' := h
  have hl : xs.length = n := by have := h.1; omega
  rcases h.2 with ⟨rfl, hn⟩ | ⟨g, cap, cur, rfl, hB, hg, hc, hm, _⟩
  · obtain rfl := List.eq_nil_of_length_eq_zero (hl.trans hn)
    exact ⟨none, 0, by rw [hn], fun _ => ⟨hn, rfl⟩, by omega, by unfold maxLen; omega, Vals.nil _ _, by omega⟩
  · refine ⟨some ⟨g, 0, none⟩, cap, rfl, fun e => by simp at e, hc, hm, ⟨g, 0, fun _ => rfl, fun i hi => ⟨(Array.getElem?_eq_some_iff.1 hg).1, ?_⟩⟩, hl⟩
    rw [Nat.zero_add, h'.cellAt i (by omega)]
    simp [hi]
end

/-- append to a row of the call's own (of values of one cell), of any row: what comes out, and where it lies -/
theorem run_app {P : Program} {W : World} {B : Nat} {v : Value} {xs : List Value} {t e : TypeId} {z : Value} {bytes : Nat} (hu : P.underlying t = some (.slice e)) (hi : (P.info? e).map (fun i => (i.zero, i.size, i.bytes)) = some (some z, 1, bytes)) (hzs : z.cells.size = 1) (hby : bytes ≤ 16)
    {n : Nat} (h : W.ownsRow B e 1 v n xs) (hB : B ≤ W.heap.size) {ao : Option Addr} {zs : List Value} {m c : Nat} (hz : Vals W ao zs) (hm : zs.length = m) (hn : ao = none → m = 0 ∧ c = 0) (h1 : ∀ u ∈ zs, u.oneCell' = true)
    (hl : n + m ≤ 1000000000000) :
    ∃ v' W', (Builtin.append_ #[t, t] t #[v, .slice ao m c]).run P W = .ok v' W' ∧ W'.ownsRow B e 1 v' (n + m) (xs ++ zs) ∧ W.grownBy W' v.ownBlock ∧ (v'.ownBlock = v.ownBlock ∨ v'.ownBlock = some W.heap.size) := by
  obtain ⟨i0, hi, hz0, hz1, hz2⟩ := info_parts hi
  cases ao with
  | none =>
    obtain ⟨h0, rfl⟩ := hn rfl
    subst hm
    obtain rfl := List.eq_nil_of_length_eq_zero h0
    exact ⟨v, W, run_append_owned_none (P := P) W B t t e i0 1 hu hi v n _ h, by simpa using h, ⟨rfl, rfl, rfl, Nat.le_refl _, fun _ _ _ => rfl⟩, .inl rfl⟩
  | some ad =>
    obtain ⟨v', W', hrun, hown, hg, _, hlies⟩ := run_append_own_at (P := P) W B t t e i0 z 1 bytes hu hi hz0 hz1 hz2 hzs (by decide) v n _ h ad m c zs (by omega) hz.news h1 (by unfold maxLen; omega)
      (Nat.le_trans (Nat.mul_le_mul (Nat.le_refl _) hby) (by omega)) hB
    exact ⟨v', W', hrun, hown, hg, hlies⟩

theorem infoI64 : (Try.prog.info? 2).map (fun i => (i.zero, i.size, i.bytes)) = some (some (.int .i64 0), 1, 8) := by kernel_rfl
def uv : Int → Value := Value.int .u64
def iv : Int → Value := Value.int .i64
theorem one_u (xs : List Int) : ∀ u ∈ xs.map uv, u.oneCell' = true := fun u hu => by
  obtain ⟨x, _, rfl⟩ := List.mem_map.1 hu
  rfl
theorem one_i (xs : List Int) : ∀ u ∈ xs.map iv, u.oneCell' = true := fun u hu => by
  obtain ⟨x, _, rfl⟩ := List.mem_map.1 hu
  rfl
/-- v holds just the numbers xs, in a block from B on -/
def RowI (w : World) (B : Nat) (xs : List Int) (v : Value) : Prop := w.ownsRow B 2 1 v xs.length (xs.map iv)
end Go.Proofs.Ytkhajpefnkialaa.Job
