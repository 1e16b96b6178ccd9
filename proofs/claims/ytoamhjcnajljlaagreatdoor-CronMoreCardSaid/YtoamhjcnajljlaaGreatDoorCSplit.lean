/- stamp.Split, Add, Floor and the reference's, by their contracts. -/
import Derived.Test.YtoamhjcnajljlaaGreatDoorCClock
import Derived.BigQuiet
import Derived.Deep.RegionHeld
namespace Go.Proofs.YtoamhjcnajljlaaGreatDoor.Civ
open Go.RowKit

theorem moment_in (t : Int) (w : World) (h0 : 0 ≤ t) (h1 : t < 13569465600) :
    Calls Tryz.prog 32 #[.int .i64 t] w fun e w' => e = .returned (.bool true) ∧ w' = w := by
  have g0 : decide (0 ≤ t) = true := by simp; omega
  have g1 : decide (t < 13569465600) = true := by simp; omega
  go_enter Tryz.func32, Tryz.ntmps32
  go_wp2_with fail
  go_ret
  exact ⟨rfl, rfl⟩
theorem moment_out (t : Int) (w : World) (h : t < 0 ∨ 13569465600 ≤ t) :
    Calls Tryz.prog 32 #[.int .i64 t] w fun e w' => e = .returned (.bool false) ∧ w' = w := by
  by_cases h0 : 0 ≤ t
  · have g0 : decide (0 ≤ t) = true := by simp; omega
    have g1 : decide (t < 13569465600) = false := by simp; omega
    go_enter Tryz.func32, Tryz.ntmps32
    go_wp2_with fail
    go_ret
    exact ⟨rfl, rfl⟩
  · have g0 : decide (0 ≤ t) = false := by simp; omega
    go_enter Tryz.func32, Tryz.ntmps32
    go_wp2_with fail
    go_ret
    exact ⟨rfl, rfl⟩

set_option maxRecDepth 100000 in
set_option maxHeartbeats 1000000 in
theorem split_out (t : Int) (w : World) (h : t < 0 ∨ 13569465600 ≤ t) :
    Calls Tryz.prog 17 #[.int .i64 t] w fun e w' => e = .returned (.tuple #[.agg #[.int .i64 0, .int .i64 0, .int .i64 0, .int .i64 0, .int .i64 0, .int .i64 0, .int .i64 0], .int .i64 50]) ∧ Below w.heap.size w w' := by
  have hb := (Own.new w 0 0 0 0 0 0 0).bel
  have HMO := Lib.hid (fun w => moment_out t w h)
  clear h
  go_enter Tryz.func17, Tryz.ntmps17
  go_wp2_with fail
  with_reducible refine (HMO.out _).mono ?_
  rintro e w1 ⟨rfl, rfl⟩
  go_wp2_with fail
  refine bodyPost_ret (v := .tuple #[.agg #[.int .i64 0, .int .i64 0, .int .i64 0, .int .i64 0, .int .i64 0, .int .i64 0, .int .i64 0], .int .i64 50]) (by simp [results, Tryz.results17, go_sem]) rfl ⟨rfl, hb⟩

set_option maxRecDepth 100000 in
set_option maxHeartbeats 1000000 in
theorem refSplit_out (t : Int) (w : World) (h : t < 0 ∨ 13569465600 ≤ t) :
    Calls Tryz.prog 35 #[.int .i64 t] w fun e w' => e = .returned (.tuple #[.agg #[.int .i64 0, .int .i64 0, .int .i64 0, .int .i64 0, .int .i64 0, .int .i64 0, .int .i64 0], .int .i64 50]) ∧ Below w.heap.size w w' := by
  have hb := (Own.new w 0 0 0 0 0 0 0).bel
  by_cases h0 : t < 0
  · go_enter Tryz.func35, Tryz.ntmps35
    go_wp2_with fail
    refine bodyPost_ret (v := .tuple #[.agg #[.int .i64 0, .int .i64 0, .int .i64 0, .int .i64 0, .int .i64 0, .int .i64 0, .int .i64 0], .int .i64 50]) (by simp [results, Tryz.results35, go_sem]) rfl ⟨rfl, hb⟩
  · have h1 : 13569465600 ≤ t := by omega
    clear h
    go_enter Tryz.func35, Tryz.ntmps35
    go_wp2_with fail
    refine bodyPost_ret (v := .tuple #[.agg #[.int .i64 0, .int .i64 0, .int .i64 0, .int .i64 0, .int .i64 0, .int .i64 0, .int .i64 0], .int .i64 50]) (by simp [results, Tryz.results35, go_sem]) rfl ⟨rfl, hb⟩

/-- a moment later, as it is told -/
def addOf (t n : Int) : Value := if 0 ≤ t ∧ t < 13569465600 ∧ 0 ≤ t + n ∧ t + n < 13569465600 then .tuple #[.int .i64 (t + n), .int .i64 0] else .tuple #[.int .i64 0, .int .i64 50]
theorem addOf_in {t n : Int} (h : 0 ≤ t ∧ t < 13569465600 ∧ 0 ≤ t + n ∧ t + n < 13569465600) : addOf t n = .tuple #[.int .i64 (t + n), .int .i64 0] := if_pos h
theorem addOf_out {t n : Int} (h : ¬ (0 ≤ t ∧ t < 13569465600 ∧ 0 ≤ t + n ∧ t + n < 13569465600)) : addOf t n = .tuple #[.int .i64 0, .int .i64 50] := if_neg h

end Go.Proofs.YtoamhjcnajljlaaGreatDoor.Civ
