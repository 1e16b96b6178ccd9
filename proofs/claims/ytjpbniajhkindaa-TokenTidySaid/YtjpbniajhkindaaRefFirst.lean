/- The reference's TakeText and First, by their contracts. -/
import Derived.Test.YtjpbniajhkindaaRefTake
import Derived.Test.YtjpbniajhkindaaFirst
import Derived.Test.YtjpbniajhkindaaRefPut
import Derived.BigQuiet
import Derived.Deep.Draws
namespace Go.Proofs.Ytjpbniajhkindaa
open Go.RowKit

theorem below_drewN (w : World) (n : Nat) : Below w.heap.size w (w.drewN n) := ⟨rfl, rfl, rfl, Nat.le_refl _, fun _ _ => rfl⟩

end Go.Proofs.Ytjpbniajhkindaa
