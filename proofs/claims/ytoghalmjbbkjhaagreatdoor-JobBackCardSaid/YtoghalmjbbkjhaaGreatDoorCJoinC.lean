/- stamp.Join, May and the reference's, by their contracts. -/
import Derived.Test.YtoghalmjbbkjhaaGreatDoorCSplitIn
namespace Go.Proofs.YtoghalmjbbkjhaaGreatDoor.Civ
open Go.RowKit

/-- a clock's moment, as it is told -/
def joinOf (y m d h i s k : Int) : Value := if Stm.may y m d h i s k then .tuple #[.int .i64 (Stm.num y m d h i s), .int .i64 0] else .tuple #[.int .i64 0, .int .i64 2]
theorem joinOf_in {y m d h i s k : Int} (hm : Stm.may y m d h i s k) : joinOf y m d h i s k = .tuple #[.int .i64 (Stm.num y m d h i s), .int .i64 0] := if_pos hm
theorem joinOf_out {y m d h i s k : Int} (hm : ¬ Stm.may y m d h i s k) : joinOf y m d h i s k = .tuple #[.int .i64 0, .int .i64 2] := if_neg hm

/-- what Split tells of a number -/
theorem split_told (t : Int) (w : World) (hw : Mon w) :
    Calls Tryz.prog 15 #[.int .i64 t] w fun e w' => ((∃ y m d h i s k, Hid (Stm.may y m d h i s k) ∧ Hid (Stm.num y m d h i s = t) ∧ e = .returned (.tuple #[.agg #[.int .i64 y, .int .i64 m, .int .i64 d, .int .i64 h, .int .i64 i, .int .i64 s, .int .i64 k], .int .i64 0])) ∨ (Hid (¬ (0 ≤ t ∧ t < 13569465600)) ∧ e = .returned (.tuple #[.agg #[.int .i64 0, .int .i64 0, .int .i64 0, .int .i64 0, .int .i64 0, .int .i64 0, .int .i64 0], .int .i64 50]))) ∧ Below w.heap.size w w' := by
  by_cases ht : 0 ≤ t ∧ t < 13569465600
  · obtain ⟨y, m, d, h, i, s, k, hm, rfl⟩ := Stm.onto t ht.1 ht.2
    exact (split_in y m d h i s k w hw hm).mono fun e w' hh => ⟨Or.inl ⟨y, m, d, h, i, s, k, hm, rfl, hh.1⟩, hh.2⟩
  · exact (split_out t w (by omega)).mono fun e w' hh => ⟨Or.inr ⟨ht, hh.1⟩, hh.2⟩

set_option maxRecDepth 100000 in
set_option maxHeartbeats 2000000 in
theorem join_in (y m d h i s k : Int) (w : World) (hw : Mon w) (hmay : Stm.may y m d h i s k) :
    Calls Tryz.prog 84 #[.agg #[.int .i64 y, .int .i64 m, .int .i64 d, .int .i64 h, .int .i64 i, .int .i64 s, .int .i64 k]] w fun e w' => e = .returned (.tuple #[.int .i64 (Stm.num y m d h i s), .int .i64 0]) ∧ Below w.heap.size w w' := by
  have HM := MonOn.of hw
  have HD : Hid (∀ w, Mon w → Calls Tryz.prog 98 #[.agg #[.int .i64 y, .int .i64 m, .int .i64 d]] w fun e w' => e = .returned (.tuple #[.int .i64 (Cal.num y m d), .int .i64 0]) ∧ Below w.heap.size w w') := fun w hw => days_in y m d w hw hmay.1
  have HS : Hid (∀ w, Mon w → Calls Tryz.prog 15 #[.int .i64 (Cal.num y m d * 86400 + h * 3600 + i * 60 + s)] w fun e w' => e = .returned (.tuple #[.agg #[.int .i64 y, .int .i64 m, .int .i64 d, .int .i64 h, .int .i64 i, .int .i64 s, .int .i64 k], .int .i64 0]) ∧ Below w.heap.size w w') := fun w hw => split_in y m d h i s k w hw hmay
  have HN : Hid (Stm.num y m d h i s = Cal.num y m d * 86400 + h * 3600 + i * 60 + s) := Eq.refl _
  have hr := Cal.num_range hmay.1
  obtain ⟨-, h2, h3, h4, h5, h6, h7, -⟩ := hmay
  clear hw
  generalize Stm.num y m d h i s = T at *
  generalize Cal.num y m d = n at *
  have o0 := Own.new w y m d h i s k
  go_enter Tryz.func84, Tryz.ntmps84
  go_wp2_with fail
  generalize w.alloc (.cells #[.int .i64 y, .int .i64 m, .int .i64 d, .int .i64 h, .int .i64 i, .int .i64 s, .int .i64 k] 49) = W at *
  obtain ⟨c0, c1, c2, c3, c4, c5, c6⟩ := clk_cells o0.row
  go_wp2_with fail
  with_reducible refine (HD.out _ (HM.on o0.bel)).mono ?_
  rintro e w1 ⟨rfl, hb1⟩
  have o1 := o0.below hb1
  clear c0 c1 c2 c3 c4 c5 c6 o0 hb1 HD
  generalize w.heap.size = B at *
  obtain ⟨c0, c1, c2, c3, c4, c5, c6⟩ := clk_cells o1.row
  go_wp2_with fail
  with_reducible refine (HS.out _ (HM.on o1.bel)).mono ?_
  rintro e w2 ⟨rfl, hb2⟩
  have o2 := o1.below hb2
  have o3 := o2.alloc (.cells #[.int .i64 y, .int .i64 m, .int .i64 d, .int .i64 h, .int .i64 i, .int .i64 s, .int .i64 k] 49)
  have od := Own.newAt o2.bel y m d h i s k
  clear c0 c1 c2 c3 c4 c5 c6 o1 hb2 HS o2
  obtain ⟨c0, c1, c2, c3, c4, c5, c6⟩ := clk_cells o3.row
  go_wp2_with fail
  go_ret2
  exact ⟨by rw [HN.out]; rfl, o3.bel⟩

set_option maxRecDepth 100000 in
set_option maxHeartbeats 2000000 in
theorem join_off (y m d h i s k : Int) (w : World) (hw : Mon w) (hmay : ¬ Cal.may y m d) :
    Calls Tryz.prog 84 #[.agg #[.int .i64 y, .int .i64 m, .int .i64 d, .int .i64 h, .int .i64 i, .int .i64 s, .int .i64 k]] w fun e w' => e = .returned (.tuple #[.int .i64 0, .int .i64 2]) ∧ Below w.heap.size w w' := by
  have HM := MonOn.of hw
  have HD : Hid (∀ w, Mon w → Calls Tryz.prog 98 #[.agg #[.int .i64 y, .int .i64 m, .int .i64 d]] w fun e w' => e = .returned (.tuple #[.int .i64 0, .int .i64 2]) ∧ Below w.heap.size w w') := fun w hw => days_out y m d w hw hmay
  clear hw hmay
  have o0 := Own.new w y m d h i s k
  go_enter Tryz.func84, Tryz.ntmps84
  go_wp2_with fail
  generalize w.alloc (.cells #[.int .i64 y, .int .i64 m, .int .i64 d, .int .i64 h, .int .i64 i, .int .i64 s, .int .i64 k] 49) = W at *
  obtain ⟨c0, c1, c2, c3, c4, c5, c6⟩ := clk_cells o0.row
  go_wp2_with fail
  with_reducible refine (HD.out _ (HM.on o0.bel)).mono ?_
  rintro e w1 ⟨rfl, hb1⟩
  have o1 := o0.below hb1
  go_wp2_with fail
  go_ret2
  exact ⟨rfl, o1.bel⟩

set_option maxRecDepth 100000 in
set_option maxHeartbeats 2000000 in
theorem join_none (y m d h i s k : Int) (w : World) (hw : Mon w) (hd : Cal.may y m d) (hmay : ¬ Stm.may y m d h i s k) :
    Calls Tryz.prog 84 #[.agg #[.int .i64 y, .int .i64 m, .int .i64 d, .int .i64 h, .int .i64 i, .int .i64 s, .int .i64 k]] w fun e w' => e = .returned (.tuple #[.int .i64 0, .int .i64 2]) ∧ Below w.heap.size w w' := by
  have HM := MonOn.of hw
  have HD : Hid (∀ w, Mon w → Calls Tryz.prog 98 #[.agg #[.int .i64 y, .int .i64 m, .int .i64 d]] w fun e w' => e = .returned (.tuple #[.int .i64 (Cal.num y m d), .int .i64 0]) ∧ Below w.heap.size w w') := fun w hw => days_in y m d w hw hd
  have HX := Lib.hid hmay
  clear hw hmay hd
  generalize Cal.num y m d = n at *
  have o0 := Own.new w y m d h i s k
  go_enter Tryz.func84, Tryz.ntmps84
  go_wp2_with fail
  generalize w.alloc (.cells #[.int .i64 y, .int .i64 m, .int .i64 d, .int .i64 h, .int .i64 i, .int .i64 s, .int .i64 k] 49) = W at *
  obtain ⟨c0, c1, c2, c3, c4, c5, c6⟩ := clk_cells o0.row
  go_wp2_with fail
  with_reducible refine (HD.out _ (HM.on o0.bel)).mono ?_
  rintro e w1 ⟨rfl, hb1⟩
  have o1 := o0.below hb1
  clear c0 c1 c2 c3 c4 c5 c6 o0 hb1 HD
  generalize w.heap.size = B at *
  obtain ⟨c0, c1, c2, c3, c4, c5, c6⟩ := clk_cells o1.row
  go_wp2_with fail
  with_reducible refine (split_told _ _ (HM.on o1.bel)).mono ?_
  rintro e w2 ⟨⟨y', m', d', h', i', s', k', hm', hn', rfl⟩ | ⟨hn', rfl⟩, hb2⟩
  · have o2 := o1.below hb2
    have o3 := o2.alloc (.cells #[.int .i64 y', .int .i64 m', .int .i64 d', .int .i64 h', .int .i64 i', .int .i64 s', .int .i64 k'] 49)
    have od := Own.newAt o2.bel y' m' d' h' i' s' k'
    clear c0 c1 c2 c3 c4 c5 c6 o1 hb2
    obtain ⟨c0, c1, c2, c3, c4, c5, c6⟩ := clk_cells o3.row
    go_wp2_with fail
    all_goals (first | (exfalso; subst_vars; exact HX.out hm'.out) | (go_ret2; exact ⟨rfl, (o2.alloc _).bel⟩))
  · have o2 := o1.below hb2
    have o3 := o2.alloc (.cells #[.int .i64 0, .int .i64 0, .int .i64 0, .int .i64 0, .int .i64 0, .int .i64 0, .int .i64 0] 49)
    go_wp2_with fail
    go_ret2
    exact ⟨rfl, o3.bel⟩

theorem join_any (y m d h i s k : Int) (w : World) (hw : Mon w) :
    Calls Tryz.prog 84 #[.agg #[.int .i64 y, .int .i64 m, .int .i64 d, .int .i64 h, .int .i64 i, .int .i64 s, .int .i64 k]] w fun e w' => e = .returned (joinOf y m d h i s k) ∧ Below w.heap.size w w' := by
  by_cases hm : Stm.may y m d h i s k
  · rw [joinOf_in hm]
    exact join_in y m d h i s k w hw hm
  · rw [joinOf_out hm]
    by_cases hd : Cal.may y m d
    · exact join_none y m d h i s k w hw hd hm
    · exact join_off y m d h i s k w hw hd

theorem mayC_any (y m d h i s k : Int) (w : World) (hw : Mon w) :
    Calls Tryz.prog 64 #[.agg #[.int .i64 y, .int .i64 m, .int .i64 d, .int .i64 h, .int .i64 i, .int .i64 s, .int .i64 k]] w fun e w' => e = .returned (.bool (decide (Stm.may y m d h i s k))) ∧ Below w.heap.size w w' := by
  have HJ := Lib.hid (fun w hw => join_any y m d h i s k w hw)
  have HM := MonOn.of hw
  have o0 := Own.new w y m d h i s k
  clear hw
  by_cases hm : Stm.may y m d h i s k
  · rw [joinOf_in hm] at HJ
    rw [decide_eq_true hm]
    clear hm
    go_enter Tryz.func64, Tryz.ntmps64
    go_wp2_with fail
    generalize w.alloc (.cells #[.int .i64 y, .int .i64 m, .int .i64 d, .int .i64 h, .int .i64 i, .int .i64 s, .int .i64 k] 49) = W at *
    obtain ⟨c0, c1, c2, c3, c4, c5, c6⟩ := clk_cells o0.row
    go_wp2_with fail
    with_reducible refine (HJ.out _ (HM.on o0.bel)).mono ?_
    rintro e w1 ⟨rfl, hb1⟩
    have o1 := o0.below hb1
    go_wp2_with fail
    go_ret
    exact ⟨rfl, o1.bel⟩
  · rw [joinOf_out hm] at HJ
    rw [decide_eq_false hm]
    clear hm
    go_enter Tryz.func64, Tryz.ntmps64
    go_wp2_with fail
    generalize w.alloc (.cells #[.int .i64 y, .int .i64 m, .int .i64 d, .int .i64 h, .int .i64 i, .int .i64 s, .int .i64 k] 49) = W at *
    obtain ⟨c0, c1, c2, c3, c4, c5, c6⟩ := clk_cells o0.row
    go_wp2_with fail
    with_reducible refine (HJ.out _ (HM.on o0.bel)).mono ?_
    rintro e w1 ⟨rfl, hb1⟩
    have o1 := o0.below hb1
    go_wp2_with fail
    go_ret
    exact ⟨rfl, o1.bel⟩
end Go.Proofs.YtoghalmjbbkjhaaGreatDoor.Civ
