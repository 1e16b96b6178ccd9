/- stamp.Split, Add, Floor and the reference's, by their contracts. -/
import Derived.Test.YtgcineaodfomeaaDoorCClock
import Derived.BigQuiet
import Derived.Deep.RegionHeld
namespace Go.Proofs.YtgcineaodfomeaaDoor.Civ
open Go.RowKit

theorem moment_in (t : Int) (w : World) (h0 : 0 ≤ t) (h1 : t < 13569465600) :
    Calls Tryd.prog 26 #[.int .i64 t] w fun e w' => e = .returned (.bool true) ∧ w' = w := by
  have g0 : decide (0 ≤ t) = true := by simp; omega
  have g1 : decide (t < 13569465600) = true := by simp; omega
  go_enter Tryd.func26, Tryd.ntmps26
  go_wp2_with fail
  go_ret
  exact ⟨rfl, rfl⟩
theorem moment_out (t : Int) (w : World) (h : t < 0 ∨ 13569465600 ≤ t) :
    Calls Tryd.prog 26 #[.int .i64 t] w fun e w' => e = .returned (.bool false) ∧ w' = w := by
  by_cases h0 : 0 ≤ t
  · have g0 : decide (0 ≤ t) = true := by simp; omega
    have g1 : decide (t < 13569465600) = false := by simp; omega
    go_enter Tryd.func26, Tryd.ntmps26
    go_wp2_with fail
    go_ret
    exact ⟨rfl, rfl⟩
  · have g0 : decide (0 ≤ t) = false := by simp; omega
    go_enter Tryd.func26, Tryd.ntmps26
    go_wp2_with fail
    go_ret
    exact ⟨rfl, rfl⟩

set_option maxRecDepth 100000 in
set_option maxHeartbeats 1000000 in
theorem split_out (t : Int) (w : World) (h : t < 0 ∨ 13569465600 ≤ t) :
    Calls Tryd.prog 11 #[.int .i64 t] w fun e w' => e = .returned (.tuple #[.agg #[.int .i64 0, .int .i64 0, .int .i64 0, .int .i64 0, .int .i64 0, .int .i64 0, .int .i64 0], .int .i64 50]) ∧ Below w.heap.size w w' := by
  have hb := (Own.new w 0 0 0 0 0 0 0).bel
  have HMO := Lib.hid (fun w => moment_out t w h)
  clear h
  go_enter Tryd.func11, Tryd.ntmps11
  go_wp2_with fail
  with_reducible refine (HMO.out _).mono ?_
  rintro e w1 ⟨rfl, rfl⟩
  go_wp2_with fail
  refine bodyPost_ret (v := .tuple #[.agg #[.int .i64 0, .int .i64 0, .int .i64 0, .int .i64 0, .int .i64 0, .int .i64 0, .int .i64 0], .int .i64 50]) (by simp [results, Tryd.results11, go_sem]) rfl ⟨rfl, hb⟩

set_option maxRecDepth 100000 in
set_option maxHeartbeats 1000000 in
theorem refSplit_out (t : Int) (w : World) (h : t < 0 ∨ 13569465600 ≤ t) :
    Calls Tryd.prog 18 #[.int .i64 t] w fun e w' => e = .returned (.tuple #[.agg #[.int .i64 0, .int .i64 0, .int .i64 0, .int .i64 0, .int .i64 0, .int .i64 0, .int .i64 0], .int .i64 50]) ∧ Below w.heap.size w w' := by
  have hb := (Own.new w 0 0 0 0 0 0 0).bel
  by_cases h0 : t < 0
  · go_enter Tryd.func18, Tryd.ntmps18
    go_wp2_with fail
    refine bodyPost_ret (v := .tuple #[.agg #[.int .i64 0, .int .i64 0, .int .i64 0, .int .i64 0, .int .i64 0, .int .i64 0, .int .i64 0], .int .i64 50]) (by simp [results, Tryd.results18, go_sem]) rfl ⟨rfl, hb⟩
  · have h1 : 13569465600 ≤ t := by omega
    clear h
    go_enter Tryd.func18, Tryd.ntmps18
    go_wp2_with fail
    refine bodyPost_ret (v := .tuple #[.agg #[.int .i64 0, .int .i64 0, .int .i64 0, .int .i64 0, .int .i64 0, .int .i64 0, .int .i64 0], .int .i64 50]) (by simp [results, Tryd.results18, go_sem]) rfl ⟨rfl, hb⟩

/-- a moment later, as it is told -/
def addOf (t n : Int) : Value := if 0 ≤ t ∧ t < 13569465600 ∧ 0 ≤ t + n ∧ t + n < 13569465600 then .tuple #[.int .i64 (t + n), .int .i64 0] else .tuple #[.int .i64 0, .int .i64 50]
theorem addOf_in {t n : Int} (h : 0 ≤ t ∧ t < 13569465600 ∧ 0 ≤ t + n ∧ t + n < 13569465600) : addOf t n = .tuple #[.int .i64 (t + n), .int .i64 0] := if_pos h
theorem addOf_out {t n : Int} (h : ¬ (0 ≤ t ∧ t < 13569465600 ∧ 0 ≤ t + n ∧ t + n < 13569465600)) : addOf t n = .tuple #[.int .i64 0, .int .i64 50] := if_neg h

theorem floor_in (t : Int) (w : World) (h0 : 0 ≤ t) (h1 : t < 13569465600) :
    Calls Tryd.prog 32 #[.int .i64 t] w fun e w' => e = .returned (.tuple #[.int .i64 (t - t % 60), .int .i64 0]) ∧ Below w.heap.size w w' := by
  have HMO := Lib.hid (fun w => moment_in t w h0 h1)
  go_enter Tryd.func32, Tryd.ntmps32
  go_wp2_with fail
  with_reducible refine (HMO.out _).mono ?_
  rintro e w1 ⟨rfl, rfl⟩
  go_wp2_with fail
  go_ret2
  exact ⟨rfl, Below.refl _ _⟩
theorem floor_out (t : Int) (w : World) (h : t < 0 ∨ 13569465600 ≤ t) :
    Calls Tryd.prog 32 #[.int .i64 t] w fun e w' => e = .returned (.tuple #[.int .i64 0, .int .i64 50]) ∧ Below w.heap.size w w' := by
  have HMO := Lib.hid (fun w => moment_out t w h)
  clear h
  go_enter Tryd.func32, Tryd.ntmps32
  go_wp2_with fail
  with_reducible refine (HMO.out _).mono ?_
  rintro e w1 ⟨rfl, rfl⟩
  go_wp2_with fail
  go_ret2
  exact ⟨rfl, Below.refl _ _⟩
end Go.Proofs.YtgcineaodfomeaaDoor.Civ
