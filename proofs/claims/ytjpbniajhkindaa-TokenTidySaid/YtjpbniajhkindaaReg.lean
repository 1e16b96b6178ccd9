/- A region that draws its order, walked in one way: what is held of the world may be said more sharply on the way. -/
import Derived.Deep.RegionHeld
import Derived.WalkKit
import Derived.Lib.Hide
namespace Go.Proofs.Ytjpbniajhkindaa
open Go.RowKit

theorem wpAnyH_sharper {P : Program} {ops : Array Oper} {Q : Exit → Act → World → Prop} {md : Region.Mode} {S S' : World → Prop} (hS : ∀ w, S' w → S w) :
    ∀ (fuel : Nat) (listed : Array Bool) (a : Act) (w : World), wpAnyH P md ops Q S' fuel listed a w → wpAnyH P md ops Q S fuel listed a w
  | 0, _, _, _, h => h
  | fuel + 1, _, _, _, h => ⟨h.1, fun i hi => wpOp_mono (fun a' w' h' => ⟨hS w' h'.1, wpAnyH_sharper hS fuel _ a' w' h'.2⟩) (h.2 i hi)⟩

end Go.Proofs.Ytjpbniajhkindaa
