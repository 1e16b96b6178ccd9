/- The reference's Put of layer 3, by its contract. -/
import Derived.Test.YtjpbniajhkindaaRefOf
import Derived.Test.YtjpbniajhkindaaHere
namespace Go.Proofs.Ytjpbniajhkindaa
open Go.RowKit

end Go.Proofs.Ytjpbniajhkindaa
