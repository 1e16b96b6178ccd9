/- A row of bytes that a call itself made: its words over this program. -/
import Derived.Test.YtjpbniajhkindaaNum
import Derived.Test.YtjpbniajhkindaaProg
import Derived.WalkKit
import Derived.Lib.Hide
import Derived.Laws.BytesArg
import Derived.Deep.AppendLies
namespace Go.Proofs.Ytjpbniajhkindaa
open Go.RowKit

theorem info5 : (Try.prog.info? 5).map (fun i => (i.zero, i.size, i.bytes)) = some (some (.int .u8 0), 1, 1) := by kernel_rfl

/-- v holds just the bytes zs, in a block from B on -/
def Row (w : World) (B : Nat) (zs : List Int) (v : Value) : Prop := w.ownsRow B 5 1 v zs.length (zs.map (Value.int .u8))

section
variable {w w' : World} {B : Nat} {zs : List Int} {v : Value}

theorem Row.below (h : Row w B zs v) (hb : Below w.heap.size w w') : Row w' B zs v := by
  refine ⟨h.1, ?_⟩
  rcases h.2 with hn | ⟨g, cap, cur, rfl, hB, hg, rest⟩
  · exact .inl hn
  · exact .inr ⟨g, cap, cur, rfl, hB, (hb.block g (Array.getElem?_eq_some_iff.1 hg).1).trans hg, rest⟩

theorem Row.less {B' : Nat} (h : Row w B zs v) (hB : B' ≤ B) : Row w B' zs v := by
  refine ⟨h.1, ?_⟩
  rcases h.2 with hn | ⟨g, cap, cur, rfl, hb, rest⟩
  · exact .inl hn
  · exact .inr ⟨g, cap, cur, rfl, by omega, rest⟩

theorem Row.is (h : Row w B zs v) (hne : zs ≠ []) :
    ∃ g cap, v = .slice (some ⟨g, 0, none⟩) zs.length cap ∧ B ≤ g ∧ g < w.heap.size ∧ zs.length ≤ cap ∧ cap ≤ maxLen ∧ ∀ i, i < zs.length → w.cell? ⟨g, i, none⟩ = some (.int .u8 (zs.getD i 0)) := by
  rcases h.2 with ⟨_, hn⟩ | ⟨g, cap, cur, rfl, hB, hg, hc, hm, _⟩
  · exact absurd (List.eq_nil_of_length_eq_zero hn) hne
  · refine ⟨g, cap, rfl, hB, (Array.getElem?_eq_some_iff.1 hg).1, hc, hm, fun i hi => ?_⟩
    have h' := h
    unfold Row at h'
    rw [h'.cellAt i (by omega)]
    simp [List.getD, List.getElem?_eq_getElem hi]

/-- 'string(v)', now or later -/
theorem Row.text (h : Row w B zs v) (hb : Below w.heap.size w w') : (convert 33 9 v).run Try.prog w' = .ok (.string (strOfNums zs)) w' := by
  have h' := h.below hb
  by_cases hne : zs = []
  · subst hne
    rcases h'.2 with ⟨rfl, _⟩ | ⟨g, cap, cur, rfl, _⟩
    · exact run_convert_bytes_nil w' _ _ Try.underlying33 Try.underlying5 0 0 _ Try.underlying9
    · exact run_convert_bytes_arg w' _ _ Try.underlying33 Try.underlying5 g 0 0 cap [] rfl (fun i hi => by omega) _ Try.underlying9
  · obtain ⟨g, cap, rfl, _, _, _, _, hc⟩ := h'.is hne
    exact run_convert_bytes_arg w' _ _ Try.underlying33 Try.underlying5 g 0 _ cap zs rfl (fun i hi => by rw [Nat.zero_add]; exact hc i hi) _ Try.underlying9

/-- the cells, as an append's source asks for them -/
theorem Row.news (h : Row w B zs v) (hb : Below w.heap.size w w') {g n cap : Nat} (hv : v = .slice (some ⟨g, 0, none⟩) n cap) :
    ∀ j u, (zs.map (Value.int .u8))[j]? = some u → w'.cell? ((⟨g, 0, none⟩ : Addr).add j) = some u := by
  subst hv
  exact (h.below hb).cells (g := g) rfl
end

/-- the one cell of a block that has just been made -/
theorem one_new (w : World) (x : Value) (t : TypeId) : ∀ j u, [x][j]? = some u → (w.alloc (.cells #[x] t)).cell? ((⟨w.heap.size, 0, none⟩ : Addr).add j) = some u := by
  intro j u hj
  match j, hj with
  | 0, hj => simp at hj; subst hj; simp [Addr.add]

/-- a literal of one byte -/
theorem Row.lit1 (w : World) (x : Int) : Row (w.alloc (.cells #[.int .u8 x] 5)) w.heap.size [x] (.slice (some ⟨w.heap.size, 0, none⟩) 1 1) :=
  World.ownsRow_lit w #[.int .u8 x] 1 (Nat.le_refl _) (by unfold maxLen; omega) rfl

end Go.Proofs.Ytjpbniajhkindaa
