/- 'same', by its contract: two rows of records, one by one. -/
import Derived.Test.YtjpbniajhkindaaScan
import Derived.BigQuiet
import Derived.Deep.Draws
namespace Go.Proofs.Ytjpbniajhkindaa
open Go.RowKit

theorem drewN_below (w : World) (n : Nat) : Below w.heap.size w (w.drewN n) := ⟨rfl, rfl, rfl, Nat.le_refl _, fun _ _ => rfl⟩

/-- a slice of slices of bytes reads as the lists ls -/
structure SlicesAt (w : World) (a : Option Addr) (ls : List (List Int)) : Prop where
  at_ : ∀ i, i < ls.length → ∃ x A C, a = some x ∧ w.cell? (x.add i) = some (.slice A (ls.getD i []).length C) ∧ x.block < w.heap.size ∧ Reads w A (ls.getD i [])

theorem SlicesAt.below {w w' : World} {a : Option Addr} {ls : List (List Int)} (h : SlicesAt w a ls) (hb : Below w.heap.size w w') : SlicesAt w' a ls :=
  ⟨fun i hi => by
    obtain ⟨x, A, C, hx, hc, hlt, hr⟩ := h.at_ i hi
    exact ⟨x, A, C, hx, (hb.cell (p := x.add i) (by rw [add_block]; exact hlt)).trans hc, Nat.lt_of_lt_of_le hlt hb.size, hr.below hb⟩⟩

/-- what Scan told -/
theorem Scanned.slices {bs : List Int} {w w' : World} {xs : List Rec} {v : Value} {good : Nat} (h : Scanned bs w w' xs v good) : ∃ a c, v = .slice a xs.length c ∧ SlicesAt w' a (xs.map Rec.zs) ∧ xs.length ≤ c ∧ (a = none → c = 0) := by
  rcases h.row.2 with ⟨rfl, h0⟩ | ⟨g, cap, cur, rfl, hB, hg, hc, _⟩
  · have hx : xs = [] := by
      cases xs with
      | nil => rfl
      | cons x xs => simp at h0
    subst hx
    exact ⟨none, 0, rfl, ⟨fun i hi => by simp at hi⟩, Nat.le_refl _, fun _ => rfl⟩
  · refine ⟨some ⟨g, 0, none⟩, cap, rfl, ⟨fun i hi => ?_⟩, hc, fun e => by cases e⟩
    rw [List.length_map] at hi
    have k := h.row.cellAt i (by omega)
    have hget : (xs.map Rec.val)[i]? = some (xs[i]).val := by simp [hi]
    rw [hget] at k
    have hz : (xs.map Rec.zs).getD i [] = (xs[i]).zs := by simp [List.getD, hi]
    refine ⟨⟨g, 0, none⟩, some ⟨(xs[i]).g, 0, none⟩, (xs[i]).c, rfl, ?_, lt_of_block hg, ?_⟩
    · rw [hz, show ((⟨g, 0, none⟩ : Addr).add i) = ⟨g, i, none⟩ by unfold Addr.add; split <;> simp_all, k]
      rfl
    · rw [hz]
      exact (h.here _ (List.getElem_mem hi)).1.reads

end Go.Proofs.Ytjpbniajhkindaa
