/- stamp.Split, Add, Floor and the reference's, by their contracts. -/
import Derived.Test.YtpafjdbckbhcoaaDoorClock
import Derived.BigQuiet
import Derived.Deep.RegionHeld
namespace Go.Proofs.YtpafjdbckbhcoaaDoor
open Go.RowKit

theorem moment_in (t : Int) (w : World) (h0 : 0 ≤ t) (h1 : t < 13569465600) :
    Calls Tryd.prog 17 #[.int .i64 t] w fun e w' => e = .returned (.bool true) ∧ w' = w := by
  have g0 : decide (0 ≤ t) = true := by simp; omega
  have g1 : decide (t < 13569465600) = true := by simp; omega
  go_enter Tryd.func17, Tryd.ntmps17
  go_wp2_with fail
  go_ret
  exact ⟨rfl, rfl⟩
theorem moment_out (t : Int) (w : World) (h : t < 0 ∨ 13569465600 ≤ t) :
    Calls Tryd.prog 17 #[.int .i64 t] w fun e w' => e = .returned (.bool false) ∧ w' = w := by
  by_cases h0 : 0 ≤ t
  · have g0 : decide (0 ≤ t) = true := by simp; omega
    have g1 : decide (t < 13569465600) = false := by simp; omega
    go_enter Tryd.func17, Tryd.ntmps17
    go_wp2_with fail
    go_ret
    exact ⟨rfl, rfl⟩
  · have g0 : decide (0 ≤ t) = false := by simp; omega
    go_enter Tryd.func17, Tryd.ntmps17
    go_wp2_with fail
    go_ret
    exact ⟨rfl, rfl⟩

set_option maxRecDepth 100000 in
set_option maxHeartbeats 1000000 in
theorem split_out (t : Int) (w : World) (h : t < 0 ∨ 13569465600 ≤ t) :
    Calls Tryd.prog 6 #[.int .i64 t] w fun e w' => e = .returned (.tuple #[.agg #[.int .i64 0, .int .i64 0, .int .i64 0, .int .i64 0, .int .i64 0, .int .i64 0, .int .i64 0], .int .i64 50]) ∧ Below w.heap.size w w' := by
  have hb := (Own.new w 0 0 0 0 0 0 0).bel
  have HMO := Lib.hid (fun w => moment_out t w h)
  clear h
  go_enter Tryd.func6, Tryd.ntmps6
  go_wp2_with fail
  with_reducible refine (HMO.out _).mono ?_
  rintro e w1 ⟨rfl, rfl⟩
  go_wp2_with fail
  refine bodyPost_ret (v := .tuple #[.agg #[.int .i64 0, .int .i64 0, .int .i64 0, .int .i64 0, .int .i64 0, .int .i64 0, .int .i64 0], .int .i64 50]) (by simp [results, Tryd.results6, go_sem]) rfl ⟨rfl, hb⟩

set_option maxRecDepth 100000 in
set_option maxHeartbeats 1000000 in
theorem refSplit_out (t : Int) (w : World) (h : t < 0 ∨ 13569465600 ≤ t) :
    Calls Tryd.prog 7 #[.int .i64 t] w fun e w' => e = .returned (.tuple #[.agg #[.int .i64 0, .int .i64 0, .int .i64 0, .int .i64 0, .int .i64 0, .int .i64 0, .int .i64 0], .int .i64 50]) ∧ Below w.heap.size w w' := by
  have hb := (Own.new w 0 0 0 0 0 0 0).bel
  by_cases h0 : t < 0
  · go_enter Tryd.func7, Tryd.ntmps7
    go_wp2_with fail
    refine bodyPost_ret (v := .tuple #[.agg #[.int .i64 0, .int .i64 0, .int .i64 0, .int .i64 0, .int .i64 0, .int .i64 0, .int .i64 0], .int .i64 50]) (by simp [results, Tryd.results7, go_sem]) rfl ⟨rfl, hb⟩
  · have h1 : 13569465600 ≤ t := by omega
    clear h
    go_enter Tryd.func7, Tryd.ntmps7
    go_wp2_with fail
    refine bodyPost_ret (v := .tuple #[.agg #[.int .i64 0, .int .i64 0, .int .i64 0, .int .i64 0, .int .i64 0, .int .i64 0, .int .i64 0], .int .i64 50]) (by simp [results, Tryd.results7, go_sem]) rfl ⟨rfl, hb⟩

/-- a moment later, as it is told -/
def addOf (t n : Int) : Value := if 0 ≤ t ∧ t < 13569465600 ∧ 0 ≤ t + n ∧ t + n < 13569465600 then .tuple #[.int .i64 (t + n), .int .i64 0] else .tuple #[.int .i64 0, .int .i64 50]
theorem addOf_in {t n : Int} (h : 0 ≤ t ∧ t < 13569465600 ∧ 0 ≤ t + n ∧ t + n < 13569465600) : addOf t n = .tuple #[.int .i64 (t + n), .int .i64 0] := if_pos h
theorem addOf_out {t n : Int} (h : ¬ (0 ≤ t ∧ t < 13569465600 ∧ 0 ≤ t + n ∧ t + n < 13569465600)) : addOf t n = .tuple #[.int .i64 0, .int .i64 50] := if_neg h

set_option maxRecDepth 100000 in
set_option maxHeartbeats 1000000 in
theorem add_any (t n : Int) (w : World) : Calls Tryd.prog 8 #[.int .i64 t, .int .i64 n] w fun e w' => e = .returned (addOf t n) ∧ Below w.heap.size w w' := by
  by_cases ht : 0 ≤ t ∧ t < 13569465600
  · have HMO := Lib.hid (fun w => moment_in t w ht.1 ht.2)
    obtain ⟨t0, t1⟩ := ht
    by_cases h2 : n < -t
    · have HA := Lib.hid (addOf_out (t := t) (n := n) (by omega))
      have g2 : decide (n < -t) = true := by simp; omega
      go_enter Tryd.func8, Tryd.ntmps8
      go_wp2_with fail
      with_reducible refine (HMO.out _).mono ?_
      rintro e w1 ⟨rfl, rfl⟩
      go_wp2_with fail
      go_ret2
      exact ⟨by rw [HA.out]; rfl, Below.refl _ _⟩
    · have g2 : decide (n < -t) = false := by simp; omega
      by_cases h3 : 13569465600 - t ≤ n
      · have HA := Lib.hid (addOf_out (t := t) (n := n) (by omega))
        have g3 : decide (13569465600 - t ≤ n) = true := by simp; omega
        go_enter Tryd.func8, Tryd.ntmps8
        go_wp2_with fail
        with_reducible refine (HMO.out _).mono ?_
        rintro e w1 ⟨rfl, rfl⟩
        go_wp2_with fail
        go_ret2
        exact ⟨by rw [HA.out]; rfl, Below.refl _ _⟩
      · have HA := Lib.hid (addOf_in (t := t) (n := n) (by omega))
        have g3 : decide (13569465600 - t ≤ n) = false := by simp; omega
        go_enter Tryd.func8, Tryd.ntmps8
        go_wp2_with fail
        with_reducible refine (HMO.out _).mono ?_
        rintro e w1 ⟨rfl, rfl⟩
        go_wp2_with fail
        go_ret2
        exact ⟨by rw [HA.out]; rfl, Below.refl _ _⟩
  · have HMO := Lib.hid (fun w => moment_out t w (by omega))
    have HA := Lib.hid (addOf_out (t := t) (n := n) (by omega))
    clear ht
    go_enter Tryd.func8, Tryd.ntmps8
    go_wp2_with fail
    with_reducible refine (HMO.out _).mono ?_
    rintro e w1 ⟨rfl, rfl⟩
    go_wp2_with fail
    go_ret2
    exact ⟨by rw [HA.out]; rfl, Below.refl _ _⟩

set_option maxRecDepth 100000 in
set_option maxHeartbeats 1000000 in
theorem refAdd_any (t n : Int) (w : World) : Calls Tryd.prog 9 #[.int .i64 t, .int .i64 n] w fun e w' => e = .returned (addOf t n) ∧ Below w.heap.size w w' := by
  by_cases ht0 : t < 0
  · have HA := Lib.hid (addOf_out (t := t) (n := n) (by omega))
    have g : decide (t < 0) = true := by simp; omega
    go_enter Tryd.func9, Tryd.ntmps9
    go_wp2_with fail
    go_ret2
    exact ⟨by rw [HA.out]; rfl, Below.refl _ _⟩
  have g : decide (t < 0) = false := by simp; omega
  by_cases ht1 : 13569465600 ≤ t
  · have HA := Lib.hid (addOf_out (t := t) (n := n) (by omega))
    have g : decide (13569465600 ≤ t) = true := by simp; omega
    go_enter Tryd.func9, Tryd.ntmps9
    go_wp2_with fail
    go_ret2
    exact ⟨by rw [HA.out]; rfl, Below.refl _ _⟩
  have g1 : decide (13569465600 ≤ t) = false := by simp; omega
  by_cases hn0 : n < -13569465600
  · have HA := Lib.hid (addOf_out (t := t) (n := n) (by omega))
    have g2 : decide (n < -13569465600) = true := by simp; omega
    go_enter Tryd.func9, Tryd.ntmps9
    go_wp2_with fail
    go_ret2
    exact ⟨by rw [HA.out]; rfl, Below.refl _ _⟩
  have g2 : decide (n < -13569465600) = false := by simp; omega
  by_cases hn1 : 13569465600 < n
  · have HA := Lib.hid (addOf_out (t := t) (n := n) (by omega))
    have g3 : decide (13569465600 < n) = true := by simp; omega
    go_enter Tryd.func9, Tryd.ntmps9
    go_wp2_with fail
    go_ret2
    exact ⟨by rw [HA.out]; rfl, Below.refl _ _⟩
  have g3 : decide (13569465600 < n) = false := by simp; omega
  by_cases hs0 : t + n < 0
  · have HA := Lib.hid (addOf_out (t := t) (n := n) (by omega))
    have g4 : decide (t + n < 0) = true := by simp; omega
    go_enter Tryd.func9, Tryd.ntmps9
    go_wp2_with fail
    go_ret2
    exact ⟨by rw [HA.out]; rfl, Below.refl _ _⟩
  have g4 : decide (t + n < 0) = false := by simp; omega
  by_cases hs1 : 13569465600 ≤ t + n
  · have HA := Lib.hid (addOf_out (t := t) (n := n) (by omega))
    have g5 : decide (13569465600 ≤ t + n) = true := by simp; omega
    go_enter Tryd.func9, Tryd.ntmps9
    go_wp2_with fail
    go_ret2
    exact ⟨by rw [HA.out]; rfl, Below.refl _ _⟩
  have g5 : decide (13569465600 ≤ t + n) = false := by simp; omega
  have HA := Lib.hid (addOf_in (t := t) (n := n) (by omega))
  go_enter Tryd.func9, Tryd.ntmps9
  go_wp2_with fail
  go_ret2
  exact ⟨by rw [HA.out]; rfl, Below.refl _ _⟩

theorem floor_in (t : Int) (w : World) (h0 : 0 ≤ t) (h1 : t < 13569465600) :
    Calls Tryd.prog 10 #[.int .i64 t] w fun e w' => e = .returned (.tuple #[.int .i64 (t - t % 60), .int .i64 0]) ∧ Below w.heap.size w w' := by
  have HMO := Lib.hid (fun w => moment_in t w h0 h1)
  go_enter Tryd.func10, Tryd.ntmps10
  go_wp2_with fail
  with_reducible refine (HMO.out _).mono ?_
  rintro e w1 ⟨rfl, rfl⟩
  go_wp2_with fail
  go_ret2
  exact ⟨rfl, Below.refl _ _⟩
theorem floor_out (t : Int) (w : World) (h : t < 0 ∨ 13569465600 ≤ t) :
    Calls Tryd.prog 10 #[.int .i64 t] w fun e w' => e = .returned (.tuple #[.int .i64 0, .int .i64 50]) ∧ Below w.heap.size w w' := by
  have HMO := Lib.hid (fun w => moment_out t w h)
  clear h
  go_enter Tryd.func10, Tryd.ntmps10
  go_wp2_with fail
  with_reducible refine (HMO.out _).mono ?_
  rintro e w1 ⟨rfl, rfl⟩
  go_wp2_with fail
  go_ret2
  exact ⟨rfl, Below.refl _ _⟩
end Go.Proofs.YtpafjdbckbhcoaaDoor
