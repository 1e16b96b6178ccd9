/- The reference's Take and TakeText, by their contracts: of any slice of bytes, at a place within. -/
import Derived.Test.YtjpbniajhkindaaTakeVal
import Derived.Test.YtjpbniajhkindaaTakeR
import Derived.Test.YtjpbniajhkindaaHere
import Derived.Test.YtjpbniajhkindaaReg
import Derived.Deep.RegionHeld
namespace Go.Proofs.Ytjpbniajhkindaa
open Go.RowKit

end Go.Proofs.Ytjpbniajhkindaa
