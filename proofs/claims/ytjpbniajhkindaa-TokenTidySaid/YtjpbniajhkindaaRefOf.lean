/- The reference's Of and Masked, by their contracts. -/
import Derived.Test.YtjpbniajhkindaaBits
namespace Go.Proofs.Ytjpbniajhkindaa
open Go.RowKit

end Go.Proofs.Ytjpbniajhkindaa
