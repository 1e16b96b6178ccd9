/- An expression held against none at all. -/
import Derived.Test.YtoamhjcnajljlaaGreatDoorNamed
import Derived.ChangeKeysEq
namespace Go.Proofs.YtoamhjcnajljlaaGreatDoor
open Go.RowKit

theorem infoF : ∃ i, Tryz.prog.info? 25 = some i := by
  have h : (Tryz.prog.info? 25).isSome = true := by kernel_rfl
  exact Option.isSome_iff_exists.1 h
theorem cellsF : Tryz.prog.cellsOf 25 = 2 := by kernel_rfl
theorem eq_other (b : Nat → Nat) (s : Nat → Bool) (h : b 0 ≠ 0) (W : World) : (Op.equalIn 10000 27 (.agg (xcells b s)) (.agg zeroX)).run Tryz.prog W = .ok false W := by
  obtain ⟨i, hi⟩ := infoF
  rw [show (10000 : Nat) = 9999 + 1 from rfl, run_equalIn_array W 9999 _ _ Tryz.underlying27 hi, cellsF]
  have g0 : (((b 0 : Nat) : Int) == 0) = false := by simp; exact h
  rw [show List.range 5 = [0, 1, 2, 3, 4] from rfl]
  unfold xcells
  simp [Op.eqItems, go_sem, g0]
theorem eq_none (W : World) : (Op.equalIn 10000 27 (.agg zeroX) (.agg zeroX)).run Tryz.prog W = .ok true W := by
  obtain ⟨i, hi⟩ := infoF
  rw [show (10000 : Nat) = 9999 + 1 from rfl, run_equalIn_array W 9999 _ _ Tryz.underlying27 hi, cellsF]
  rw [show List.range 5 = [0, 1, 2, 3, 4] from rfl]
  simp [Op.eqItems, go_sem]
end Go.Proofs.YtoamhjcnajljlaaGreatDoor
