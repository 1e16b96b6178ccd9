/- late.May, by its contract: of any lot. -/
import Derived.Test.YtkhajpefnkialaaLot
namespace Go.Proofs.Ytkhajpefnkialaa.Job
open Go.RowKit

set_option maxRecDepth 100000 in
set_option maxHeartbeats 4000000 in
theorem may_any {w : World} {l : Lt} (hl : LtF w l) : Calls Try.prog 5 #[l.val] w fun e w' => e = .returned (.bool l.may) ∧ Below w.heap.size w w' := by
  have HM := Lib.hid (fun W (hW : Below w.heap.size w W) h1 h2 => moments_any (hl.below hW) h1 h2)
  have HB := Lib.hid (show Below w.heap.size w (w.alloc (.cells l.cells 24)) from (Below.refl _ _).alloc (Nat.le_refl _) _)
  clear hl
  unfold Lt.may
  generalize l.ok = ok at *
  obtain ⟨pol, gra, now, da, dc, ds, ca, cc, cs, room⟩ := l
  unfold Lt.val Lt.cells lcells at *
  dsimp only at *
  by_cases h0 : ¬ (1 : Int) ≤ pol
  · have d0 : decide ((1 : Int) ≤ pol) = false := decide_eq_false h0
    rw [d0, Bool.false_and]
    clear h0
    go_enter Try.func5, Try.ntmps5
    go_wp2_with fail
    go_ret
    exact ⟨rfl, HB.out⟩
  have h0 := Decidable.not_not.1 h0
  have d0 : decide ((1 : Int) ≤ pol) = true := decide_eq_true h0
  rw [d0, Bool.true_and]
  by_cases h1 : ¬ pol ≤ 3
  · have d1 : decide (pol ≤ 3) = false := decide_eq_false h1
    rw [d1, Bool.false_and]
    clear h0 h1
    go_enter Try.func5, Try.ntmps5
    go_wp2_with fail
    go_ret
    exact ⟨rfl, HB.out⟩
  have h1 := Decidable.not_not.1 h1
  have d1 : decide (pol ≤ 3) = true := decide_eq_true h1
  rw [d1, Bool.true_and]
  by_cases h2 : ¬ (0 : Int) ≤ gra
  · have d2 : decide ((0 : Int) ≤ gra) = false := decide_eq_false h2
    rw [d2, Bool.false_and]
    clear h0 h1 h2
    go_enter Try.func5, Try.ntmps5
    go_wp2_with fail
    go_ret
    exact ⟨rfl, HB.out⟩
  have h2 := Decidable.not_not.1 h2
  have d2 : decide ((0 : Int) ≤ gra) = true := decide_eq_true h2
  rw [d2, Bool.true_and]
  by_cases h3 : ¬ (0 : Int) ≤ now
  · have d3 : decide ((0 : Int) ≤ now) = false := decide_eq_false h3
    rw [d3, Bool.false_and]
    clear h0 h1 h2 h3
    go_enter Try.func5, Try.ntmps5
    go_wp2_with fail
    go_ret
    exact ⟨rfl, HB.out⟩
  have h3 := Decidable.not_not.1 h3
  have d3 : decide ((0 : Int) ≤ now) = true := decide_eq_true h3
  rw [d3, Bool.true_and]
  by_cases h4 : ¬ now < 13569465600
  · have d4 : decide (now < 13569465600) = false := decide_eq_false h4
    rw [d4, Bool.false_and]
    clear h0 h1 h2 h3 h4
    go_enter Try.func5, Try.ntmps5
    go_wp2_with fail
    go_ret
    exact ⟨rfl, HB.out⟩
  have h4 := Decidable.not_not.1 h4
  have d4 : decide (now < 13569465600) = true := decide_eq_true h4
  rw [d4, Bool.true_and]
  by_cases h5 : ¬ (ds.length : Int) ≤ room
  · have d5 : decide ((ds.length : Int) ≤ room) = false := decide_eq_false h5
    rw [d5, Bool.false_and]
    clear h0 h1 h2 h3 h4 h5
    go_enter Try.func5, Try.ntmps5
    go_wp2_with fail
    go_ret
    exact ⟨rfl, HB.out⟩
  have h5 := Decidable.not_not.1 h5
  have d5 : decide ((ds.length : Int) ≤ room) = true := decide_eq_true h5
  rw [d5, Bool.true_and]
  by_cases h6 : ¬ room ≤ 64
  · have d6 : decide (room ≤ 64) = false := decide_eq_false h6
    rw [d6, Bool.false_and]
    clear h0 h1 h2 h3 h4 h5 h6
    go_enter Try.func5, Try.ntmps5
    go_wp2_with fail
    go_ret
    exact ⟨rfl, HB.out⟩
  have h6 := Decidable.not_not.1 h6
  have d6 : decide (room ≤ 64) = true := decide_eq_true h6
  rw [d6, Bool.true_and]
  by_cases h7 : ¬ (cs.length : Int) ≤ 64
  · have d7 : decide ((cs.length : Int) ≤ 64) = false := decide_eq_false h7
    rw [d7, Bool.false_and]
    clear h0 h1 h2 h3 h4 h5 h6 h7
    go_enter Try.func5, Try.ntmps5
    go_wp2_with fail
    go_ret
    exact ⟨rfl, HB.out⟩
  have h7 := Decidable.not_not.1 h7
  have d7 : decide ((cs.length : Int) ≤ 64) = true := decide_eq_true h7
  rw [d7, Bool.true_and]
  have HM2 := Lib.hid (HM.out _ HB.out (by omega) (by omega))
  clear HM h0 h1 h2 h3 h4 h5 h6 h7
  go_enter Try.func5, Try.ntmps5
  go_wp2_with fail
  refine HM2.out.mono ?_
  rintro e w1 ⟨rfl, hb⟩
  have HB1 := Lib.hid (HB.out.trans (hb.mono HB.out.size))
  clear hb HM2
  go_wp2_with fail
  go_ret
  exact ⟨rfl, HB1.out⟩
end Go.Proofs.Ytkhajpefnkialaa.Job
