/- A row that a call made is read like any slice of bytes. -/
import Derived.Test.YtchmipeehhbniaaRow
import Derived.Test.YtchmipeehhbniaaText
namespace Go.Proofs.Ytchmipeehhbniaa
open Go.RowKit

theorem Row.reads {w : World} {B : Nat} {zs : List Int} {v : Value} (h : Row w B zs v) (hr : ∀ x ∈ zs, 0 ≤ x ∧ x ≤ 255) (hl : zs.length ≤ 9223372036854775807) :
    ∃ a cap, v = .slice a zs.length cap ∧ Reads w a zs ∧ zs.length ≤ cap ∧ cap ≤ 9223372036854775807 := by
  rcases h.2 with ⟨rfl, hn⟩ | ⟨g, cap, cur, rfl, hB, hg, hc, hm, _⟩
  · have : zs = [] := by
      have h1 := h.1
      rw [hn] at h1
      exact List.eq_nil_of_length_eq_zero (by simpa using h1)
    subst this
    exact ⟨none, 0, rfl, Reads.nil w none, Nat.le_refl _, by omega⟩
  · unfold maxLen at hm
    refine ⟨_, cap, rfl, reads_row zs hg (fun i hi => ?_) hr hl, hc, hm⟩
    have h' := h
    unfold Row at h'
    have := h'.cells (g := g) rfl i (.int .u8 (zs.getD i 0)) (by simp [List.getD, hi])
    rw [show ((⟨g, 0, none⟩ : Addr).add i) = ⟨g, i, none⟩ by unfold Addr.add; split <;> simp_all, cell_of_row w g i cur _ _ hg] at this
    exact this

end Go.Proofs.Ytchmipeehhbniaa
