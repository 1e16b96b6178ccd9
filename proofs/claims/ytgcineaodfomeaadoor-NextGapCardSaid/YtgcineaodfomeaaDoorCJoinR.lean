/- The reference's Join, by its contract. -/
import Derived.Test.YtgcineaodfomeaaDoorCJoinC
namespace Go.Proofs.YtgcineaodfomeaaDoor.Civ
open Go.RowKit

end Go.Proofs.YtgcineaodfomeaaDoor.Civ
