/- The law CheckTells, outside its bounds. -/
import Derived.Test.YtlookghkgbjeiaaTells
namespace Go.Proofs.Ytlookghkgbjeiaa
open Go.RowKit

set_option maxRecDepth 100000 in
set_option maxHeartbeats 1000000 in
theorem tells_out (a b : Option Addr) (n n2 cap cap2 : Nat) (p m : Int) (w : World) (hl : n ≤ 9223372036854775807) (hl2 : n2 ≤ 9223372036854775807) (hout : ¬ (n = n2 ∧ 4 ≤ n ∧ n ≤ 300 ∧ 0 ≤ p)) :
    Calls Try.prog 4 #[.slice a n cap, .slice b n2 cap2, .int .i64 p, .int .u32 m] w fun e w' => e = .returned (.bool true) ∧ Below w.heap.size w w' := by
  have HO := Lib.hid hout
  clear hout
  go_enter Try.func4, Try.ntmps4
  go_wp2_with fail
  refine (known_any _).mono ?_
  rintro e w1 ⟨rfl, hb1⟩
  by_cases h1 : n = n2
  · subst h1
    by_cases h2 : n < 4
    · go_wp2_with fail
      go_ret
      exact ⟨rfl, hb1⟩
    · by_cases h3 : 300 < n
      · go_wp2_with fail
        go_ret
        exact ⟨rfl, hb1⟩
      · have h4 : p < 0 := by have := HO.out; omega
        go_wp2_with fail
        go_ret
        exact ⟨rfl, hb1⟩
  · have h5 : ((n : Int) == (n2 : Int)) = false := by simp; omega
    have h6 : ((n : Int) != (n2 : Int)) = true := by simp; omega
    go_wp2_with fail
    go_ret
    exact ⟨rfl, hb1⟩

/-- a slice that has bytes has an address -/
theorem Reads.some {w : World} {a : Option Addr} {zs : List Int} (h : Reads w a zs) (hl : 0 < zs.length) : ∃ x, a = .some x := by
  obtain ⟨x, hx, _⟩ := h.cell 0 hl
  exact ⟨x, hx⟩

end Go.Proofs.Ytlookghkgbjeiaa
