/- The months' table as the rows list it: what their list gives, and a world for the witness. -/
import Derived.Test.YtelbgpfhkahioaaDoorCards
import Derived.Test.YtelbgpfhkahioaaDoorTie
import Derived.Test.YtelbgpfhkahioaaDoorMonth
import Derived.WalkKit
import Derived.ProofKit
import Derived.OpenShut
import Derived.Deep.DeepHandedRow
import Derived.Lib.LaidTab
namespace Go.Proofs.YtelbgpfhkahioaaDoor
open Go.ChangeShapes Go.WideShapes Go.ChangeAt Go.RowKit

theorem ownLaid : ownKnob Tryd.prog.godebug = none := by kernel_rfl
theorem gMon : Tryd.prog.globalNamed "ringer/civil.months" = some 0 := by kernel_rfl
theorem gMonType : (Tryd.prog.globals[0]?).map (·.type) = some 35 := by kernel_rfl
theorem cellsMon : Tryd.prog.cellsOf 35 = 12 := by kernel_rfl
theorem cellsInt : Tryd.prog.cellsOf 3 = 1 := by kernel_rfl

theorem mon_met {W : World} (h : laidMetH Tryd.prog [("ringer/civil.months", Rows.laid_ringer_civil_months)] W) : Mon W := by
  have ht : Lib.TabIs Tryd.prog W "ringer/civil.months" .i64 lens := Lib.tabIs_of_head (rest := []) gMon gMonType Tryd.underlying35 Tryd.underlying3 cellsInt cellsMon h
  have hc : ∀ i : Nat, i < 12 → W.cell? ⟨0, i, none⟩ = some (.int .i64 (lens.getD i 0)) := fun i hi => ht.cell gMon i hi
  refine ⟨?_, hc⟩
  rcases Nat.eq_zero_or_pos W.heap.size with h0 | h0
  · have h1 := hc 0 (by decide)
    simp [World.cell?, h0] at h1
  · exact h0

noncomputable def laidWorld (os : Os) : World :=
  { World.holding Tryd.prog os ⟨#[], #[], []⟩ with heap := (World.holding Tryd.prog os ⟨#[], #[], []⟩).heap.modify 0 fun
      | .cells _ t frozen => .cells #[.int .i64 31, .int .i64 28, .int .i64 31, .int .i64 30, .int .i64 31, .int .i64 30, .int .i64 31, .int .i64 31, .int .i64 30, .int .i64 31, .int .i64 30, .int .i64 31] t frozen
      | o => o }
end Go.Proofs.YtelbgpfhkahioaaDoor
