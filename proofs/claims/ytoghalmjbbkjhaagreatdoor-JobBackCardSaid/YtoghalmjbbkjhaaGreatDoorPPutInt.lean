/- PutInt, the program's and the reference's, by their contracts. -/
import Derived.Test.YtoghalmjbbkjhaaGreatDoorMah
namespace Go.Proofs.YtoghalmjbbkjhaaGreatDoor.Pk
open Go.RowKit

set_option maxRecDepth 100000 in
set_option maxHeartbeats 400000 in
theorem putInt_any (m : Int) (h0 : -9223372036854775808 ≤ m) (h1 : m ≤ 9223372036854775807) (w : World) :
    Calls Tryz.prog 28 #[.int .i64 m] w fun e w' => ∃ v, e = .returned v ∧ Row w' w.heap.size (Num.put (Num.zig m)) v ∧ Below w.heap.size w w' := by
  have HP := Lib.hid (put_any (Num.zig m) (Num.zig_lt h0 h1) w)
  by_cases hm : 0 ≤ m
  · have HZ := Lib.hid (show m * 2 = ((Num.zig m : Nat) : Int) by rw [Num.zig_pos hm]; omega)
    go_enter Tryz.func28, Tryz.ntmps28
    go_wp2_with fail
    rw [HZ.out]
    refine HP.out.mono ?_
    rintro e w1 ⟨v, rfl, hr, hb⟩
    go_wp2
    go_ret
    exact ⟨_, rfl, hr, hb⟩
  · have HZ := Lib.hid (show bits .or .u64 (-(m + 1) * 2) 1 = ((Num.zig m : Nat) : Int) by rw [Num.or1 _ (by omega) (by omega) (by omega), Num.zig_neg (by omega)]; omega)
    go_enter Tryz.func28, Tryz.ntmps28
    go_wp2_with fail
    rw [HZ.out]
    refine HP.out.mono ?_
    rintro e w1 ⟨v, rfl, hr, hb⟩
    go_wp2
    go_ret
    exact ⟨_, rfl, hr, hb⟩

end Go.Proofs.YtoghalmjbbkjhaaGreatDoor.Pk
