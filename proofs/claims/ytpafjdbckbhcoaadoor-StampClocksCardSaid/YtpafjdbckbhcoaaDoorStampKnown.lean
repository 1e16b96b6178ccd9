/- The chapter's rows of stamp, by the contracts. -/
import Derived.Test.YtpafjdbckbhcoaaDoorText5
namespace Go.Proofs.YtpafjdbckbhcoaaDoor
open Go.RowKit

theorem text_any (y m d h i s k : Int) (w : World) (hw : Mon w) (hp : Pow w) :
    Calls Tryd.prog 15 #[.agg #[.int .i64 y, .int .i64 m, .int .i64 d, .int .i64 h, .int .i64 i, .int .i64 s, .int .i64 k]] w fun e w' => e = .returned (.string (textOf y m d h i s k)) ∧ Below w.heap.size w w' := by
  by_cases hm : Stm.may y m d h i s k
  · exact text_in y m d h i s k w hw hp hm
  · exact text_out y m d h i s k w hw hm
theorem refText_any (y m d h i s k : Int) (w : World) :
    Calls Tryd.prog 16 #[.agg #[.int .i64 y, .int .i64 m, .int .i64 d, .int .i64 h, .int .i64 i, .int .i64 s, .int .i64 k]] w fun e w' => e = .returned (.string (textOf y m d h i s k)) ∧ Below w.heap.size w w' := by
  by_cases hm : Stm.may y m d h i s k
  · exact refText_in y m d h i s k w hm
  · exact refText_out y m d h i s k w hm

theorem may_a : Stm.may 1970 1 1 0 0 0 4 := by decide +kernel
theorem num_a : Stm.num 1970 1 1 0 0 0 = 0 := by decide +kernel
theorem may_b : Stm.may 2000 2 28 23 59 59 1 := by decide +kernel
theorem num_b : Stm.num 2000 2 28 23 59 59 = 951782399 := by decide +kernel
theorem split_a (w : World) (hw : Mon w) : Calls Tryd.prog 6 #[.int .i64 0] w fun e w' => e = .returned (.tuple #[.agg #[.int .i64 1970, .int .i64 1, .int .i64 1, .int .i64 0, .int .i64 0, .int .i64 0, .int .i64 4], .int .i64 0]) ∧ Below w.heap.size w w' := by
  have := split_in 1970 1 1 0 0 0 4 w hw may_a
  rw [num_a] at this
  exact this
theorem split_b (w : World) (hw : Mon w) : Calls Tryd.prog 6 #[.int .i64 951782399] w fun e w' => e = .returned (.tuple #[.agg #[.int .i64 2000, .int .i64 2, .int .i64 28, .int .i64 23, .int .i64 59, .int .i64 59, .int .i64 1], .int .i64 0]) ∧ Below w.heap.size w w' := by
  have := split_in 2000 2 28 23 59 59 1 w hw may_b
  rw [num_b] at this
  exact this
theorem text_b (w : World) (hw : Mon w) (hp : Pow w) : Calls Tryd.prog 15 #[.agg #[.int .i64 2000, .int .i64 2, .int .i64 28, .int .i64 23, .int .i64 59, .int .i64 59, .int .i64 1]] w fun e w' => e = .returned (.string ⟨#[50, 48, 48, 48, 45, 48, 50, 45, 50, 56, 84, 50, 51, 58, 53, 57, 58, 53, 57]⟩) ∧ Below w.heap.size w w' := by
  have := text_in 2000 2 28 23 59 59 1 w hw hp may_b
  rw [textOf_in may_b, show str (Stm.txt 2000 2 28 23 59 59) = ⟨#[50, 48, 48, 48, 45, 48, 50, 45, 50, 56, 84, 50, 51, 58, 53, 57, 58, 53, 57]⟩ by decide +kernel] at this
  exact this
theorem add_a : addOf 5 (-6) = .tuple #[.int .i64 0, .int .i64 50] := addOf_out (by decide)
theorem add_b : addOf 5 9 = .tuple #[.int .i64 14, .int .i64 0] := addOf_in (by decide)
theorem floor_a (w : World) : Calls Tryd.prog 10 #[.int .i64 125] w fun e w' => e = .returned (.tuple #[.int .i64 120, .int .i64 0]) ∧ Below w.heap.size w w' := floor_in 125 w (by decide) (by decide)

set_option maxRecDepth 100000 in
set_option maxHeartbeats 4000000 in
theorem knownS_any (w : World) (hw : Mon w) (hp : Pow w) :
    Calls Tryd.prog 11 #[] w fun e w' => e = .returned (.bool true) ∧ Below w.heap.size w w' := by
  have HM := MonOn.of hw
  have HP := PowOn.of hp
  clear hw hp
  go_enter Tryd.func11, Tryd.ntmps11
  go_wp2_with fail
  with_reducible refine (split_a _ (HM.on (Below.refl _ _))).mono ?_
  rintro e w1 ⟨rfl, b1⟩
  have oa := Own.newAt b1 1970 1 1 0 0 0 4
  go_wp2_with fail
  generalize w1.alloc (.cells #[.int .i64 1970, .int .i64 1, .int .i64 1, .int .i64 0, .int .i64 0, .int .i64 0, .int .i64 4] 25) = w2 at *
  generalize w1.heap.size = E at *
  with_reducible refine (split_out (-1) _ (by decide)).mono ?_
  rintro e w3 ⟨rfl, hb⟩
  have oa := (oa.below hb).alloc (.cells #[.int .i64 0, .int .i64 0, .int .i64 0, .int .i64 0, .int .i64 0, .int .i64 0, .int .i64 0] 25)
  clear hb
  go_wp2_with fail
  generalize w3.alloc (.cells #[.int .i64 0, .int .i64 0, .int .i64 0, .int .i64 0, .int .i64 0, .int .i64 0, .int .i64 0] 25) = w4 at *
  with_reducible refine (split_out 13569465600 _ (by decide)).mono ?_
  rintro e w5 ⟨rfl, hb⟩
  have oa := (oa.below hb).alloc (.cells #[.int .i64 0, .int .i64 0, .int .i64 0, .int .i64 0, .int .i64 0, .int .i64 0, .int .i64 0] 25)
  clear hb
  go_wp2_with fail
  generalize w5.alloc (.cells #[.int .i64 0, .int .i64 0, .int .i64 0, .int .i64 0, .int .i64 0, .int .i64 0, .int .i64 0] 25) = w6 at *
  with_reducible refine (split_b _ (HM.on oa.bel)).mono ?_
  rintro e w7 ⟨rfl, hb⟩
  have ob := Own.newAt (oa.below hb).bel 2000 2 28 23 59 59 1
  have oa := (oa.below hb).alloc (.cells #[.int .i64 2000, .int .i64 2, .int .i64 28, .int .i64 23, .int .i64 59, .int .i64 59, .int .i64 1] 25)
  clear hb
  go_wp2_with fail
  generalize w7.alloc (.cells #[.int .i64 2000, .int .i64 2, .int .i64 28, .int .i64 23, .int .i64 59, .int .i64 59, .int .i64 1] 25) = w8 at *
  generalize w7.heap.size = F at *
  with_reducible refine (add_any 5 (-6) _).mono ?_
  rintro e w9 ⟨rfl, hb⟩
  rw [add_a]
  have oa := oa.below hb
  have ob := ob.below hb
  clear hb
  go_wp2_with fail
  with_reducible refine (add_any 5 9 _).mono ?_
  rintro e w10 ⟨rfl, hb⟩
  rw [add_b]
  have oa := oa.below hb
  have ob := ob.below hb
  clear hb
  go_wp2_with fail
  with_reducible refine (floor_a _).mono ?_
  rintro e w11 ⟨rfl, hb⟩
  have oa := oa.below hb
  have ob := ob.below hb
  clear hb
  obtain ⟨c0, c1, c2, c3, c4, c5, c6⟩ := clk_cells oa.row
  obtain ⟨d0, d1, d2, d3, d4, d5, d6⟩ := clk_cells ob.row
  go_wp2_with fail
  with_reducible refine (text_b _ (HM.on oa.bel) (HP.on oa.bel)).mono ?_
  rintro e w12 ⟨rfl, hb⟩
  have oa := oa.below hb
  clear c0 c1 c2 c3 c4 c5 c6 d0 d1 d2 d3 d4 d5 d6 hb
  go_wp2_with fail
  go_ret
  exact ⟨rfl, oa.bel⟩
end Go.Proofs.YtpafjdbckbhcoaaDoor
