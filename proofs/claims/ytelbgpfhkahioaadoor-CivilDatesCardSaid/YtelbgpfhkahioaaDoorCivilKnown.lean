/- The chapter's rows, by the contracts. -/
import Derived.Test.YtelbgpfhkahioaaDoorOfRef
namespace Go.Proofs.YtelbgpfhkahioaaDoor
open Go.RowKit

theorem day_a : dayOf 1970 1 1 = .tuple #[.int .i64 0, .int .i64 0] := by kernel_rfl
theorem day_b : dayOf 2000 3 1 = .tuple #[.int .i64 11017, .int .i64 0] := by kernel_rfl
theorem day_c : dayOf 2399 12 31 = .tuple #[.int .i64 157053, .int .i64 0] := by kernel_rfl
theorem day_d : dayOf 2023 2 29 = .tuple #[.int .i64 0, .int .i64 2] := by kernel_rfl
theorem num_d : Cal.num 2000 2 29 = 11016 := by decide +kernel
theorem may_d : Cal.may 2000 2 29 := by decide +kernel
theorem week_a : Cal.week 0 = 4 := by decide
theorem week_b : Cal.week (-1) = 3 := by decide
theorem leap_a : Cal.leap 1900 = false := by decide
theorem leap_b : Cal.leap 2000 = true := by decide
theorem of_d (w : World) (hw : Mon w) : Calls Tryd.prog 15 #[.int .i64 11016] w fun e w' => e = .returned (.tuple #[.agg #[.int .i64 2000, .int .i64 2, .int .i64 29], .int .i64 0]) ∧ Below w.heap.size w w' := by
  have := of_in 2000 2 29 w hw may_d
  rw [num_d] at this
  exact this

set_option maxRecDepth 100000 in
set_option maxHeartbeats 1000000 in
theorem known_any (w : World) (hw : Mon w) :
    Calls Tryd.prog 14 #[] w fun e w' => e = .returned (.bool true) ∧ Below w.heap.size w w' := by
  have HM : Hid (∀ W, Below w.heap.size w W → Mon W) := fun W h => hw.below h hw.1
  clear hw
  go_enter Tryd.func14, Tryd.ntmps14
  go_wp2_with fail
  with_reducible refine (days_any 1970 1 1 _ (HM.out _ (Below.refl _ _))).mono ?_
  rintro e w1 ⟨rfl, hb1⟩
  rw [day_a]
  go_wp2_with fail
  with_reducible refine (days_any 2000 3 1 _ (HM.out _ hb1)).mono ?_
  rintro e w2 ⟨rfl, hb2⟩
  rw [day_b]
  have b2 := hb1.trans (hb2.mono hb1.size)
  go_wp2_with fail
  with_reducible refine (days_any 2399 12 31 _ (HM.out _ b2)).mono ?_
  rintro e w3 ⟨rfl, hb3⟩
  rw [day_c]
  have b3 := b2.trans (hb3.mono b2.size)
  go_wp2_with fail
  with_reducible refine (days_any 2023 2 29 _ (HM.out _ b3)).mono ?_
  rintro e w4 ⟨rfl, hb4⟩
  rw [day_d]
  have b4 := b3.trans (hb4.mono b3.size)
  go_wp2_with fail
  with_reducible refine (of_d _ (HM.out _ b4)).mono ?_
  rintro e w5 ⟨rfl, hb5⟩
  have b5 := b4.trans (hb5.mono b4.size)
  clear hb1 hb2 hb3 hb4 hb5 b2 b3 b4
  go_wp2_with fail
  have hrow6 : (w5.alloc (triple 2000 2 29)).heap[w5.heap.size]? = some (triple 2000 2 29) := heap_alloc_new w5 _
  have b6 : Below w.heap.size w (w5.alloc (triple 2000 2 29)) := b5.alloc b5.size _
  have hs6 : w5.heap.size < (w5.alloc (triple 2000 2 29)).heap.size := by simp
  unfold triple at hrow6 b6 hs6
  generalize w5.alloc (.cells #[.int .i64 2000, .int .i64 2, .int .i64 29] 23) = w6 at *
  generalize w5.heap.size = g at *
  with_reducible refine (of_out 157054 _ (by omega)).mono ?_
  rintro e w7 ⟨rfl, hb7⟩
  have b7 := b6.trans (hb7.mono b6.size)
  have hrow7 := (hb7.block _ hs6).trans hrow6
  have hs7 := Nat.lt_of_lt_of_le hs6 hb7.size
  clear hb7 b6 hrow6 hs6
  obtain ⟨c0, c1, c2⟩ := triple_cells hrow7
  have b8 := b7.alloc b7.size (.cells #[.int .i64 0, .int .i64 0, .int .i64 0] 23)
  go_wp2_with fail
  generalize w7.alloc (.cells #[.int .i64 0, .int .i64 0, .int .i64 0] 23) = w8 at *
  with_reducible refine (week_any 0 _).mono ?_
  rintro e w9 ⟨rfl, hb9⟩
  rw [week_a]
  have b9 := b8.trans (hb9.mono b8.size)
  go_wp2_with fail
  with_reducible refine (week_any (-1) _).mono ?_
  rintro e w10 ⟨rfl, hb10⟩
  rw [week_b]
  have b10 := b9.trans (hb10.mono b9.size)
  go_wp2_with fail
  with_reducible refine (leap_any 1900 _).mono ?_
  rintro e w11 ⟨rfl, hb11⟩
  rw [leap_a]
  have b11 := b10.trans (hb11.mono b10.size)
  go_wp2_with fail
  with_reducible refine (leap_any 2000 _).mono ?_
  rintro e w12 ⟨rfl, hb12⟩
  rw [leap_b]
  have b12 := b11.trans (hb12.mono b11.size)
  go_wp2_with fail
  go_ret
  exact ⟨rfl, b12⟩
end Go.Proofs.YtelbgpfhkahioaaDoor
