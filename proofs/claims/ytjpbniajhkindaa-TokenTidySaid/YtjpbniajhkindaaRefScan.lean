/- The reference's Scan, by its contract. -/
import Derived.Test.YtjpbniajhkindaaRefFirst
import Derived.Test.YtjpbniajhkindaaScan
namespace Go.Proofs.Ytjpbniajhkindaa
open Go.RowKit

theorem here_alloc {w : World} {g : Nat} {zs : List Int} (h : Here w g zs) (o : Obj) : Here (w.alloc o) g zs := h.other (Below.heap_alloc _ _ _ h.lt)
theorem here_grown {w w' : World} {B : Nat} {g : Nat} {zs : List Int} {v : Value} {n : Nat} {xs : List Value} (h : Here w g zs) (hr : w.ownsRow B 33 1 v n xs) (hg : w.grownBy w' v.ownBlock) : Here w' g zs := by
  refine h.other (hg.block g h.lt fun e => ?_)
  obtain ⟨cs, fr, hb, _⟩ := h.blk
  rcases hr.2 with ⟨rfl, _⟩ | ⟨g', cap, cur, rfl, _, hgb, _⟩
  · simp [Value.ownBlock] at e
  · obtain rfl : g = g' := by simpa [Value.ownBlock] using e
    rw [hb] at hgb
    simp at hgb

end Go.Proofs.Ytjpbniajhkindaa
