/- The law FramePuts: its walk. -/
import Derived.Test.YtlebeegcdadgiaaFrameKnown
import Derived.Test.YtlebeegcdadgiaaRefPut
namespace Go.Proofs.Ytlebeegcdadgiaa
open Go.RowKit

set_option maxRecDepth 100000 in
set_option maxHeartbeats 1000000 in
theorem framePuts_in (a : Option Addr) (len cap : Nat) (zs : List Int) (w : World) (hz : len = zs.length) (hp : Reads w a zs) (h : len ≤ 300 ∨ 4090 ≤ len ∧ len ≤ 5000) (hs : len ≤ 4096) :
    Calls Try.prog 3 #[.slice a len cap] w fun e w' => e = .returned (.bool true) ∧ Below w.heap.size w w' := by
  have HP := Lib.hid hp
  have HZ := Lib.hid hz
  clear hp hz
  go_enter Try.func3, Try.ntmps3
  go_wp2_with fail
  refine (known_any _).mono ?_
  rintro e w1 ⟨rfl, hb1⟩
  have P1 := Lib.hid (framePut_any a len cap zs w1 HZ.out (HP.out.below hb1) (by have := HZ.out; omega))
  rcases h with h300 | h4090
  all_goals
    go_wp2_with fail
    with_reducible refine P1.out.mono ?_
    rintro e w2 ⟨g2, c2, rfl, hr2, hb2⟩
    clear P1
    have b2 := hb1.trans (hb2.mono hb1.size)
    have P2 := Lib.hid (refFramePut_any a len cap zs w2 HZ.out (HP.out.below b2) (by have := HZ.out; omega))
    clear hb1 hb2
    go_wp2_with fail
    with_reducible refine P2.out.mono ?_
    rintro e w3 ⟨g3, c3, rfl, hr3, hb3⟩
    clear P2
    have t2 := hr2.text hb3
    have t3 := hr3.text (Below.refl _ _)
    have b3 := b2.trans (hb3.mono b2.size)
    clear hr2 hr3 hb3 b2
    generalize strOfNums (Frame.frameOf zs) = s at *
    go_wp2
    go_ret
    exact ⟨by simp, b3⟩

set_option maxRecDepth 100000 in
set_option maxHeartbeats 1000000 in
theorem framePuts_long (a : Option Addr) (len cap : Nat) (zs : List Int) (w : World) (hz : len = zs.length) (hp : Reads w a zs) (h : 4096 < len) (hs : len ≤ 5000) :
    Calls Try.prog 3 #[.slice a len cap] w fun e w' => e = .returned (.bool true) ∧ Below w.heap.size w w' := by
  have HP := Lib.hid hp
  have HZ := Lib.hid hz
  clear hp hz
  have hn0 : Try.prog.underlying 22 = some (.slice 5) := Try.underlying22
  have hcv : ∀ W : World, (convert 22 9 (.slice none 0 0)).run Try.prog W = .ok (.string ByteArray.empty) W := fun W =>
    run_convert_bytes_nil W _ _ Try.underlying22 Try.underlying5 _ _ _ Try.underlying9
  go_enter Try.func3, Try.ntmps3
  go_wp2_with fail
  refine (known_any _).mono ?_
  rintro e w1 ⟨rfl, hb1⟩
  have P1 := Lib.hid (framePut_long a len cap zs w1 HZ.out (HP.out.below hb1) (by have := HZ.out; omega))
  have P2 := Lib.hid (refFramePut_long a len cap zs w1 HZ.out (HP.out.below hb1) (by have := HZ.out; omega))
  go_wp2_with fail
  with_reducible refine P1.out.mono ?_
  rintro e w2 ⟨rfl, rfl⟩
  clear P1
  go_wp2_with fail
  with_reducible refine P2.out.mono ?_
  rintro e w3 ⟨rfl, rfl⟩
  clear P2
  go_wp2
  go_ret
  exact ⟨rfl, hb1⟩

set_option maxRecDepth 100000 in
set_option maxHeartbeats 1000000 in
theorem framePuts_out (a : Option Addr) (len cap : Nat) (w : World) (h : 300 < len ∧ len < 4090 ∨ 5000 < len) (hm : len ≤ 9223372036854775807) :
    Calls Try.prog 3 #[.slice a len cap] w fun e w' => e = .returned (.bool true) ∧ Below w.heap.size w w' := by
  rcases h with h | h
  all_goals
    go_enter Try.func3, Try.ntmps3
    go_wp2_with fail
    refine (known_any _).mono ?_
    rintro e w1 ⟨rfl, hb1⟩
    go_wp2_with fail
    go_ret
    exact ⟨rfl, hb1⟩

end Go.Proofs.Ytlebeegcdadgiaa
