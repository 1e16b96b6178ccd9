/- vote.record, by its contract: numbers as bytes, one behind the other. -/
import Derived.Test.YtjpbniajhkindaaVtM
import Derived.Test.YtjpbniajhkindaaTornV
import Derived.Test.YtjpbniajhkindaaPutA
namespace Go.Proofs.Ytjpbniajhkindaa
open Go.RowKit

theorem put_range {n : Nat} (h : n < 18446744073709551616) : ∀ x ∈ Num.put n, 0 ≤ x ∧ x ≤ 255 := Num.enc_range 9 n (Nat.lt_trans h (by decide))

end Go.Proofs.Ytjpbniajhkindaa
